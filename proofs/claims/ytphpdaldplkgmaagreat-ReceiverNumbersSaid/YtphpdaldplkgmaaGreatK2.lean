/-
  Chapter 17's law: do: Next.
-/
import Derived.Test.YtphpdaldplkgmaaGreatK0
import Derived.Test.YtphpdaldplkgmaaGreatMq23
import Derived.Test.YtphpdaldplkgmaaGreatMq24
import Derived.Deep.CutRange
namespace Go.Proofs.YtphpdaldplkgmaaGreat
set_option linter.unusedVariables false
set_option linter.unusedSimpArgs false
open Go.RowKit
section
variable {wb W0 W W' Wa Wc w2 w9 Y : World} {base p q pw k gf : Nat} {O F : Nat → Prop} {L : List FN} {X X1 X2 X' X1' X2' : QS} {off most i : Int} {n m c : Nat} {fin : Bool} {A : Option Addr} {T l l' : List Value}
/-- A frame's block that came up beside: it holds l. -/
structure NxA (wb W0 Y Wc : World) (base p q pw gf : Nat) (O F : Nat → Prop) (L : List FN) (X1 X2 : QS) (l : List Value) : Prop where
  gz : Y.heap.size ≤ gf
  gw : W0.heap.size ≤ gf
  gb : base ≤ gf
  nf : ¬ F gf
  at_ : At Wc gf 54 l
  lz : Lz wb W0 Wc base p q pw O (fun b => F b ∨ b = gf) L X1 X2
  k : Kept (fun b => ¬ F b) Y Wc
theorem nx_alloc (h : Lz wb W0 W' base p q pw O F L X1 X2) (hk : Kept (fun b => ¬ F b) Y W') (hA : At Wa W'.heap.size 54 l) (hB : Below W'.heap.size W' Wa) : NxA wb W0 Y Wa base p q pw W'.heap.size O F L X1 X2 l := by
  have hz := h.fresh (F' := fun b => F b ∨ b = W'.heap.size) hB fun b hb => hb.elim .inl fun e => .inr ⟨by omega, by rw [e]; exact hA.lt⟩
  have hb := lz_base h
  obtain ⟨O1, O2, tv, h1, h2, h3, h4, h5⟩ := h
  exact ⟨hk.size, h2.size, hb, fun e => by have := (h4 _ e).2; omega, hA, hz, hk.trans (Kept.of_below hB _)⟩
theorem nx_call (h : NxA wb W0 Y Wc base p q pw gf O F L X1 X2 l) (hP : LzP wb W0 Wc w2 base p q pw O (fun b => F b ∨ b = gf) L X1' X2') : NxA wb W0 Y w2 base p q pw gf O F L X1' X2' l :=
  { h with
    at_ := h.at_.kept hP.2 (fun hn => hn (.inr rfl))
    lz := hP.1
    k := h.k.trans (hP.2.mono fun j hj => .inl fun e => hj (.inl e)) }
theorem nx_store (h : NxA wb W0 Y Wc base p q pw gf O F L X1 X2 l) (hA : At w9 gf 54 l') (hk : Kept (· = gf) Wc w9) : NxA wb W0 Y w9 base p q pw gf O F L X1 X2 l' := by
  obtain ⟨O1, O2, tv, h1, h2, h3, h4, h5⟩ := h.lz
  have hn := (h4 gf (.inr rfl)).1
  have hb := lz_base h.lz
  refine { h with at_ := hA, lz := ⟨O1, O2, tv, h1.kept hk fun j hj e => hn (e ▸ hj), h2.trans' hk fun j hj => .inr (by rw [hj]; exact h.gw), h3, fun b hb => ⟨(h4 b hb).1, Nat.lt_of_lt_of_le (h4 b hb).2 hk.size⟩, hk.below h5 hb fun j hj => by rw [hj]; exact h.gb⟩, k := h.k.trans (hk.mono fun j hj => .inl fun e => h.nf (hj ▸ e)) }
theorem NxA.below (h : NxA wb W0 Y Wc base p q pw gf O F L X1 X2 l) (k : Below Wc.heap.size Wc w9) : NxA wb W0 Y w9 base p q pw gf O F L X1 X2 l :=
  { h with at_ := h.at_.below k h.at_.lt, lz := h.lz.below k, k := h.k.trans (Kept.of_below k _) }
set_option maxRecDepth 100000 in
set_option maxHeartbeats 16000000 in
theorem do_next17 (h : Lz wb W W base p q pw O (fun _ => False) L X X) (hi : XI k X) (hl : L.length ≤ k) (hk : k < 1000) : Calls Tryz.prog 7 #[.pointer (some ⟨pw, 0, none⟩), .agg (aL 7 off most i n fin A m c T).toArray] W fun e w' => e = .returned (.bool true) ∧ DoQ wb W base p q pw k O w' := by
  obtain ⟨g, W1, hg, hW1, hA1, hB1, hgl, h1⟩ := do_box17 (off := off) (most := most) (i := i) (n := n) (fin := fin) (A := A) (m := m) (c := c) (T := T) h 7
  obtain ⟨Y, hY⟩ : ∃ Y, W1.drew = Y := ⟨_, rfl⟩
  have hBY : Below W1.heap.size W1 Y := by rw [← hY]; exact belowN (Below.refl _ _) 1
  have h1Y := h1.below hBY
  have hAY := hA1.below hBY hgl
  have a0 : W1.cell? ⟨g, 0, none⟩ = some (.int .i64 7) := by rw [hA1.cell]; rfl
  have HSS : Hid (∀ w, Kept (fun b => ¬ (b = g ∨ b < base)) Y w → ∀ {F' : Nat → Prop} X3 X4, Lz wb W w base p q pw O F' L X3 X4 → w.cell? ⟨pw, 0, none⟩ = some (.pointer (some ⟨p, 0, none⟩)) ∧ w.cell? ⟨pw, 1, none⟩ = some (.pointer (some ⟨q, 0, none⟩)) ∧ w.cell? ⟨g, 2, none⟩ = some (.int .i64 most)) := Lib.hid (fun w hk F' X3 X4 hz => by
    have hA := hAY.kept hk (fun hn => hn (.inl rfl))
    exact ⟨hz.p0, hz.p1, by rw [hA.cell]; rfl⟩)
  have HS0 := Lib.hid (HSS.out Y (Kept.refl _ _) _ _ h1Y)
  obtain ⟨LF, hLF⟩ : ∃ LF, frL (dueF X (nxK X most)) .nil .nil = LF := ⟨_, rfl⟩
  have HLF : Hid (LF.length = 19) := Lib.hid (by rw [← hLF]; rfl)
  have HLo : Hid (LF.all (·.oneCell') = true) := Lib.hid (by rw [← hLF]; rfl)
  have H1 : Hid (∀ (F : Nat → Prop) (Z : World), Lz wb W Z base p q pw O F L X X → Calls Tryz.prog 18 #[.pointer (some ⟨p, 0, none⟩), .int .i64 most] Z fun e w1 => e = .returned (.tuple #[.agg LF.toArray, .bool (nxK X most != 0)]) ∧ LzP wb W Z w1 base p q pw O F L (nextX X (nxK X most)) X) := Lib.hid (fun F Z hz => by
    rw [← hLF]
    exact (two_next hz hi (by omega) most).mono fun _ _ h => ⟨h.1, h.2.1⟩)
  have H2 : Hid (∀ (F : Nat → Prop) (Z : World), Lz wb W Z base p q pw O F L (nextX X (nxK X most)) X → Calls Tryz.prog 19 #[.pointer (some ⟨q, 0, none⟩), .int .i64 most] Z fun e w1 => e = .returned (.tuple #[.agg LF.toArray, .bool (nxK X most != 0)]) ∧ LzP wb W Z w1 base p q pw O F L (nextX X (nxK X most)) (nextX X (nxK X most))) := Lib.hid (fun F Z hz => by
    rw [← hLF]
    exact lz_callR hz fun O2 h2 hF => rq_next h2 hi.ok hi.id (hi.hlm (by omega)).2 most)
  have HL9 : Hid (L.length < 1000) := Lib.hid (by omega)
  have HLFE := Lib.hid hLF
  have hwf := dueF_wf hi.ok (nxK X most)
  have HSM : Hid (∀ Z : World, Calls Tryz.prog 20 #[.agg LF.toArray, .agg LF.toArray] Z fun e w' => e = .returned (.bool true) ∧ Below Z.heap.size Z w') := Lib.hid (fun Z => by
    have hft : Fits Z (fun _ => True) (dueF X (nxK X most)) .nil .nil [] [] := ⟨hwf, ⟨RdP.none_ _ _ _, Nat.le_refl _, by unfold maxLen; exact Nat.zero_le _, fun _ => rfl⟩, InR.nil_ _ _⟩
    have := rsame_any (fun _ => True) (dueF X (nxK X most)) (dueF X (nxK X most)) .nil .nil .nil .nil [] [] [] [] Z hft hft (dueF_kk X (nxK X most))
    rw [sameB_refl] at this
    rw [← hLF]
    exact this)
  have HD : Hid (∀ (F : Nat → Prop) w4, Lz wb W w4 base p q pw O F L (nextX X (nxK X most)) (nextX X (nxK X most)) → DoQ wb W base p q pw k O w4) := Lib.hid (fun F w4 hz => hz.done (hi.next most) (by omega))
  have HD1 : Hid (∀ (F : Nat → Prop) w4 (x : FN), Lz wb W w4 base p q pw O F (L ++ [x]) (nextX X (nxK X most)) (nextX X (nxK X most)) → DoQ wb W base p q pw k O w4) := Lib.hid (fun F w4 x hz => hz.done (hi.next most) (by simp; omega))
  have H1Y := Lib.hid h1Y
  have HS7 : Hid (∀ w, Kept (fun b => ¬ (b = g ∨ b < base)) Y w → w.cell? ⟨g, 0, none⟩ = some (.int .i64 7)) := Lib.hid (fun w hk => by
    rw [(hAY.kept hk (fun hn => hn (.inl rfl))).cell]; rfl)
  have HOK := Lib.hid (hi.next most)
  clear h hi hk h1 h1Y hA1 hAY hB1 hBY hwf hl
  generalize nextX X (nxK X most) = X5 at H1 H2 HOK HD HD1
  generalize hyes : (nxK X most != 0) = yes at H1 H2
  unfold aL at hW1 ⊢
  simp only [List.cons_append, List.nil_append] at hW1 ⊢
  go_enter Tryz.func7, Tryz.ntmps7
  go_upto_region 1 with fail
  (try rw [hg])
  (try rw [hW1])
  go_upto_region 15 with fail
  go_cut [13, 14] from 125 to 135 (fun s13 s14 wc => ∃ gf, s13 = .pointer (some ⟨gf, 0, none⟩) ∧ s14 = .bool yes ∧ Hid (NxA wb W Y wc base p q pw gf O (fun b => b = g ∨ b < base) L X5 X LF))
  case first =>
    refine wp_region_held_drew (S := (fun w => w.cell? ⟨pw, 0, none⟩ = some (.pointer (some ⟨p, 0, none⟩)) ∧ w.cell? ⟨pw, 1, none⟩ = some (.pointer (some ⟨q, 0, none⟩)) ∧ w.cell? ⟨g, 2, none⟩ = some (.int .i64 most))) (by kernel_rfl) (by rw [hY]; exact HS0.out) (fun hHeld => ?_)
    rw [hY] at hHeld ⊢
    clear hY
    refine tkq 0 (some 125) (v := ?_) rfl (Or.inl ⟨by rfl, ?_⟩) (by assumption) ?_
    rotate_left
    · intro w hSw; (try dsimp only at hSw); go_simp; first | done | (with_reducible rfl)
    simp only [Act.put, List.setIfInBounds_toArray, List.set_cons_zero, List.set_cons_succ]
    refine tkq 1 (some 126) (v := ?_) rfl (Or.inl ⟨by rfl, ?_⟩) (by assumption) ?_
    rotate_left
    · intro w hSw; (try dsimp only at hSw); go_simp; first | done | (with_reducible rfl)
    simp only [Act.put, List.setIfInBounds_toArray, List.set_cons_zero, List.set_cons_succ]
    refine tkq 2 (some 127) (v := ?_) rfl (Or.inl ⟨by rfl, ?_⟩) (by assumption) ?_
    rotate_left
    · intro w hSw; (try dsimp only at hSw); go_simp; first | done | (with_reducible rfl)
    simp only [Act.put, List.setIfInBounds_toArray, List.set_cons_zero, List.set_cons_succ]
    refine tkq 3 (some 128) (v := ?_) rfl (Or.inl ⟨by rfl, ?_⟩) (by assumption) ?_
    rotate_left
    · intro w hSw; (try dsimp only at hSw); go_simp; first | done | (with_reducible rfl)
    simp only [Act.put, List.setIfInBounds_toArray, List.set_cons_zero, List.set_cons_succ]
    refine tkq 4 (some 129) (v := ?_) rfl (Or.inl ⟨by rfl, ?_⟩) (by assumption) ?_
    rotate_left
    · intro w hSw; (try dsimp only at hSw); go_simp; first | done | (with_reducible rfl)
    simp only [Act.put, List.setIfInBounds_toArray, List.set_cons_zero, List.set_cons_succ]
    refine tkq 5 (some 130) (v := ?_) rfl (Or.inl ⟨by rfl, ?_⟩) (by assumption) ?_
    rotate_left
    · intro w hSw; (try dsimp only at hSw); go_simp; first | done | (with_reducible rfl)
    simp only [Act.put, List.setIfInBounds_toArray, List.set_cons_zero, List.set_cons_succ]
    refine wpAnyH_ready (rs := [6, 10]) (by kernel_rfl) (by simp) ?_
    refine AllReadyH.cons rfl (fun K hK => ?_) (AllReadyH.cons rfl (fun K hK => ?_) (AllReadyH.nil))
    · go_simp
      go_wp2_with (go_at_call 18; (with_reducible refine (H1.out _ _ H1Y.out).mono ?_); rintro e w2 ⟨rfl, hP⟩; have HP2 := Lib.hid hP; clear hP)
      refine hK.out _ _ (HSS.out _ HP2.out.2 _ _ HP2.out.1) (fun hHeld => ?_)
      clear hK K
      refine tkq 7 (some 124) (v := ?_) rfl (Or.inl ⟨by rfl, ?_⟩) (by assumption) ?_
      rotate_left
      · intro w hSw; (try dsimp only at hSw); go_simp; first | done | (with_reducible rfl)
      simp only [Act.put, List.setIfInBounds_toArray, List.set_cons_zero, List.set_cons_succ]
      refine tkq 8 (some 132) (v := ?_) rfl (Or.inl ⟨by rfl, ?_⟩) (by assumption) ?_
      rotate_left
      · intro w hSw; (try dsimp only at hSw); go_simp; first | done | (with_reducible rfl)
      simp only [Act.put, List.setIfInBounds_toArray, List.set_cons_zero, List.set_cons_succ]
      refine tkq 9 (some 133) (v := ?_) rfl (Or.inl ⟨by rfl, ?_⟩) (by assumption) ?_
      rotate_left
      · intro w hSw; (try dsimp only at hSw); go_simp; first | done | (with_reducible rfl)
      simp only [Act.put, List.setIfInBounds_toArray, List.set_cons_zero, List.set_cons_succ]
      refine wpAnyH_ready (rs := [10]) (by kernel_rfl) (by simp) ?_
      refine AllReadyH.cons rfl (fun K hK => ?_) AllReadyH.nil
      obtain ⟨wa, hwa, hAa, hBa⟩ := q_zbox w2
      have hna := nx_alloc HP2.out.1 HP2.out.2 hAa hBa
      have HNA := Lib.hid hna
      have HLZ := Lib.hid hna.lz
      clear hAa hBa hna
      obtain ⟨gf, hgf⟩ : ∃ gf, w2.heap.size = gf := ⟨_, rfl⟩
      rw [hgf] at HNA HLZ
      go_simp
      go_wp2_with fail
      (try rw [hwa])
      (try rw [hgf])
      clear hwa hgf
      refine hK.out _ _ (HSS.out _ HNA.out.k _ _ HNA.out.lz) (fun hHeld => ?_)
      clear hK K
      refine wpAnyH_ready (rs := [11]) (by kernel_rfl) (by simp) ?_
      refine AllReadyH.cons rfl (fun K hK => ?_) AllReadyH.nil
      refine step_st_in17 (by rfl) gf 0 54 _ LF (by rfl) (by rfl) HNA.out.at_ (by rw [HLF.out]; exact Nat.le_refl 19) (by rw [HLF.out]; exact fr_info) HLo.out ?_
      intro w9 hA9x hk9
      have HN9 : Hid (NxA wb W Y w9 base p q pw gf O (fun b => b = g ∨ b < base) L X5 X LF) := Lib.hid (nx_store HNA.out (by rw [HLF.out] at hA9x; simpa [frL] using hA9x) hk9)
      clear hA9x hk9
      refine hK.out _ _ (HSS.out _ HN9.out.k _ _ HN9.out.lz) (fun hHeld => ?_)
      clear hK K
      refine tkq 12 (some 14) (v := ?_) rfl (Or.inl ⟨by rfl, ?_⟩) (by assumption) ?_
      rotate_left
      · intro w hSw; (try dsimp only at hSw); go_simp; first | done | (with_reducible rfl)
      simp only [Act.put, List.setIfInBounds_toArray, List.set_cons_zero, List.set_cons_succ]
      refine wpAnyH_done (by kernel_rfl) ?_ _
      go_wp2_with fail
      go_meet
      exact ⟨gf, rfl, rfl, HN9⟩
    · obtain ⟨wa, hwa, hAa, hBa⟩ := q_zbox Y
      have hna := nx_alloc H1Y.out (Kept.refl _ _) hAa hBa
      have HNA := Lib.hid hna
      have HLZ := Lib.hid hna.lz
      clear hAa hBa hna
      obtain ⟨gf, hgf⟩ : ∃ gf, Y.heap.size = gf := ⟨_, rfl⟩
      rw [hgf] at HNA HLZ
      go_simp
      go_wp2_with fail
      (try rw [hwa])
      (try rw [hgf])
      clear hwa hgf
      refine hK.out _ _ (HSS.out _ HNA.out.k _ _ HNA.out.lz) (fun hHeld => ?_)
      clear hK K
      refine wpAnyH_ready (rs := [6]) (by kernel_rfl) (by simp) ?_
      refine AllReadyH.cons rfl (fun K hK => ?_) AllReadyH.nil
      go_simp
      go_wp2_with (go_at_call 18; (with_reducible refine (H1.out _ _ HLZ.out).mono ?_); rintro e w2 ⟨rfl, hP⟩; have HNA := Lib.hid (nx_call HNA.out hP); clear hP)
      refine hK.out _ _ (HSS.out _ HNA.out.k _ _ HNA.out.lz) (fun hHeld => ?_)
      clear hK K
      refine tkq 7 (some 124) (v := ?_) rfl (Or.inl ⟨by rfl, ?_⟩) (by assumption) ?_
      rotate_left
      · intro w hSw; (try dsimp only at hSw); go_simp; first | done | (with_reducible rfl)
      simp only [Act.put, List.setIfInBounds_toArray, List.set_cons_zero, List.set_cons_succ]
      refine tkq 8 (some 132) (v := ?_) rfl (Or.inl ⟨by rfl, ?_⟩) (by assumption) ?_
      rotate_left
      · intro w hSw; (try dsimp only at hSw); go_simp; first | done | (with_reducible rfl)
      simp only [Act.put, List.setIfInBounds_toArray, List.set_cons_zero, List.set_cons_succ]
      refine tkq 9 (some 133) (v := ?_) rfl (Or.inl ⟨by rfl, ?_⟩) (by assumption) ?_
      rotate_left
      · intro w hSw; (try dsimp only at hSw); go_simp; first | done | (with_reducible rfl)
      simp only [Act.put, List.setIfInBounds_toArray, List.set_cons_zero, List.set_cons_succ]
      refine wpAnyH_ready (rs := [11]) (by kernel_rfl) (by simp) ?_
      refine AllReadyH.cons rfl (fun K hK => ?_) AllReadyH.nil
      refine step_st_in17 (by rfl) gf 0 54 _ LF (by rfl) (by rfl) HNA.out.at_ (by rw [HLF.out]; exact Nat.le_refl 19) (by rw [HLF.out]; exact fr_info) HLo.out ?_
      intro w9 hA9x hk9
      have HN9 : Hid (NxA wb W Y w9 base p q pw gf O (fun b => b = g ∨ b < base) L X5 X LF) := Lib.hid (nx_store HNA.out (by rw [HLF.out] at hA9x; simpa [frL] using hA9x) hk9)
      clear hA9x hk9
      refine hK.out _ _ (HSS.out _ HN9.out.k _ _ HN9.out.lz) (fun hHeld => ?_)
      clear hK K
      refine tkq 12 (some 14) (v := ?_) rfl (Or.inl ⟨by rfl, ?_⟩) (by assumption) ?_
      rotate_left
      · intro w hSw; (try dsimp only at hSw); go_simp; first | done | (with_reducible rfl)
      simp only [Act.put, List.setIfInBounds_toArray, List.set_cons_zero, List.set_cons_succ]
      refine wpAnyH_done (by kernel_rfl) ?_ _
      go_wp2_with fail
      go_meet
      exact ⟨gf, rfl, rfl, HN9⟩
  case rest =>
  obtain ⟨gf, rfl, rfl, HN⟩ := hcut
  obtain ⟨F2, hF2⟩ : ∃ F2 : Nat → Prop, F2 = fun b => (b = g ∨ b < base) ∨ b = gf := ⟨_, rfl⟩
  obtain ⟨Y2, hY2⟩ : ∃ Y2, wc.drew = Y2 := ⟨_, rfl⟩
  have hB2 : Below wc.heap.size wc Y2 := by rw [← hY2]; exact belowN (Below.refl _ _) 1
  have H2Y : Hid (Lz wb W Y2 base p q pw O F2 L X5 X) := Lib.hid (by rw [hF2]; exact HN.out.lz.below hB2)
  have hA2 : At Y2 gf 54 LF := HN.out.at_.below hB2 HN.out.at_.lt
  have hF2g : F2 gf := by rw [hF2]; exact .inr rfl
  have HSS2 : Hid (∀ w, Kept (fun b => ¬ F2 b) Y2 w → ∀ {F' : Nat → Prop} X3 X4, Lz wb W w base p q pw O F' L X3 X4 → (w.cell? ⟨pw, 0, none⟩ = some (.pointer (some ⟨p, 0, none⟩)) ∧ w.cell? ⟨pw, 1, none⟩ = some (.pointer (some ⟨q, 0, none⟩)) ∧ w.cell? ⟨g, 2, none⟩ = some (.int .i64 most)) ∧ At w gf 54 LF ∧ w.cell? ⟨g, 0, none⟩ = some (.int .i64 7)) := Lib.hid (fun w hk F' X3 X4 hz => by
    have hk2 := (HN.out.k.trans (Kept.of_below hB2 _)).trans (hk.mono fun j hj => .inl fun e => hj (by rw [hF2]; exact .inl e))
    refine ⟨HSS.out w hk2 _ _ hz, hA2.kept hk (fun hn => hn hF2g), HS7.out w hk2⟩)
  have HS2 := Lib.hid (HSS2.out Y2 (Kept.refl _ _) _ _ H2Y.out).1
  have HF2g := Lib.hid hF2g
  clear hA2 hF2g H1 hB2 HS0 hF2
  go_upto_region 16 with fail
  go_cut [15, 16] from 135 to 144 (fun s15 s16 wc => ∃ gf2, s15 = .pointer (some ⟨gf2, 0, none⟩) ∧ s16 = .bool yes ∧ Hid (NxA wb W Y2 wc base p q pw gf2 O F2 L X5 X5 LF))
  case first =>
    refine wp_region_held_drew (S := (fun w => w.cell? ⟨pw, 0, none⟩ = some (.pointer (some ⟨p, 0, none⟩)) ∧ w.cell? ⟨pw, 1, none⟩ = some (.pointer (some ⟨q, 0, none⟩)) ∧ w.cell? ⟨g, 2, none⟩ = some (.int .i64 most))) (by kernel_rfl) (by rw [hY2]; exact HS2.out) (fun hHeld => ?_)
    rw [hY2] at hHeld ⊢
    clear hY2
    refine tkq 0 (some 135) (v := ?_) rfl (Or.inl ⟨by rfl, ?_⟩) (by assumption) ?_
    rotate_left
    · intro w hSw; (try dsimp only at hSw); go_simp; first | done | (with_reducible rfl)
    simp only [Act.put, List.setIfInBounds_toArray, List.set_cons_zero, List.set_cons_succ]
    refine tkq 1 (some 136) (v := ?_) rfl (Or.inl ⟨by rfl, ?_⟩) (by assumption) ?_
    rotate_left
    · intro w hSw; (try dsimp only at hSw); go_simp; first | done | (with_reducible rfl)
    simp only [Act.put, List.setIfInBounds_toArray, List.set_cons_zero, List.set_cons_succ]
    refine tkq 2 (some 137) (v := ?_) rfl (Or.inl ⟨by rfl, ?_⟩) (by assumption) ?_
    rotate_left
    · intro w hSw; (try dsimp only at hSw); go_simp; first | done | (with_reducible rfl)
    simp only [Act.put, List.setIfInBounds_toArray, List.set_cons_zero, List.set_cons_succ]
    refine tkq 3 (some 138) (v := ?_) rfl (Or.inl ⟨by rfl, ?_⟩) (by assumption) ?_
    rotate_left
    · intro w hSw; (try dsimp only at hSw); go_simp; first | done | (with_reducible rfl)
    simp only [Act.put, List.setIfInBounds_toArray, List.set_cons_zero, List.set_cons_succ]
    refine tkq 4 (some 139) (v := ?_) rfl (Or.inl ⟨by rfl, ?_⟩) (by assumption) ?_
    rotate_left
    · intro w hSw; (try dsimp only at hSw); go_simp; first | done | (with_reducible rfl)
    simp only [Act.put, List.setIfInBounds_toArray, List.set_cons_zero, List.set_cons_succ]
    refine tkq 5 (some 140) (v := ?_) rfl (Or.inl ⟨by rfl, ?_⟩) (by assumption) ?_
    rotate_left
    · intro w hSw; (try dsimp only at hSw); go_simp; first | done | (with_reducible rfl)
    simp only [Act.put, List.setIfInBounds_toArray, List.set_cons_zero, List.set_cons_succ]
    refine wpAnyH_ready (rs := [6, 10]) (by kernel_rfl) (by simp) ?_
    refine AllReadyH.cons rfl (fun K hK => ?_) (AllReadyH.cons rfl (fun K hK => ?_) (AllReadyH.nil))
    · go_simp
      go_wp2_with (go_at_call 19; (with_reducible refine (H2.out _ _ H2Y.out).mono ?_); rintro e w2 ⟨rfl, hP⟩; have HP2 := Lib.hid hP; clear hP)
      refine hK.out _ _ ((HSS2.out _ HP2.out.2 _ _ HP2.out.1).1) (fun hHeld => ?_)
      clear hK K
      refine tkq 7 (some 134) (v := ?_) rfl (Or.inl ⟨by rfl, ?_⟩) (by assumption) ?_
      rotate_left
      · intro w hSw; (try dsimp only at hSw); go_simp; first | done | (with_reducible rfl)
      simp only [Act.put, List.setIfInBounds_toArray, List.set_cons_zero, List.set_cons_succ]
      refine tkq 8 (some 142) (v := ?_) rfl (Or.inl ⟨by rfl, ?_⟩) (by assumption) ?_
      rotate_left
      · intro w hSw; (try dsimp only at hSw); go_simp; first | done | (with_reducible rfl)
      simp only [Act.put, List.setIfInBounds_toArray, List.set_cons_zero, List.set_cons_succ]
      refine tkq 9 (some 143) (v := ?_) rfl (Or.inl ⟨by rfl, ?_⟩) (by assumption) ?_
      rotate_left
      · intro w hSw; (try dsimp only at hSw); go_simp; first | done | (with_reducible rfl)
      simp only [Act.put, List.setIfInBounds_toArray, List.set_cons_zero, List.set_cons_succ]
      refine wpAnyH_ready (rs := [10]) (by kernel_rfl) (by simp) ?_
      refine AllReadyH.cons rfl (fun K hK => ?_) AllReadyH.nil
      obtain ⟨wa, hwa, hAa, hBa⟩ := q_zbox w2
      have hna := nx_alloc HP2.out.1 HP2.out.2 hAa hBa
      have HNA := Lib.hid hna
      have HLZ := Lib.hid hna.lz
      clear hAa hBa hna
      obtain ⟨gf2, hgf2⟩ : ∃ gf2, w2.heap.size = gf2 := ⟨_, rfl⟩
      rw [hgf2] at HNA HLZ
      go_simp
      go_wp2_with fail
      (try rw [hwa])
      (try rw [hgf2])
      clear hwa hgf2
      refine hK.out _ _ ((HSS2.out _ HNA.out.k _ _ HNA.out.lz).1) (fun hHeld => ?_)
      clear hK K
      refine wpAnyH_ready (rs := [11]) (by kernel_rfl) (by simp) ?_
      refine AllReadyH.cons rfl (fun K hK => ?_) AllReadyH.nil
      refine step_st_in17 (by rfl) gf2 0 54 _ LF (by rfl) (by rfl) HNA.out.at_ (by rw [HLF.out]; exact Nat.le_refl 19) (by rw [HLF.out]; exact fr_info) HLo.out ?_
      intro w9 hA9x hk9
      have HN9 : Hid (NxA wb W Y2 w9 base p q pw gf2 O F2 L X5 X5 LF) := Lib.hid (nx_store HNA.out (by rw [HLF.out] at hA9x; simpa [frL] using hA9x) hk9)
      clear hA9x hk9
      refine hK.out _ _ ((HSS2.out _ HN9.out.k _ _ HN9.out.lz).1) (fun hHeld => ?_)
      clear hK K
      refine tkq 12 (some 16) (v := ?_) rfl (Or.inl ⟨by rfl, ?_⟩) (by assumption) ?_
      rotate_left
      · intro w hSw; (try dsimp only at hSw); go_simp; first | done | (with_reducible rfl)
      simp only [Act.put, List.setIfInBounds_toArray, List.set_cons_zero, List.set_cons_succ]
      refine wpAnyH_done (by kernel_rfl) ?_ _
      go_wp2_with fail
      go_meet
      exact ⟨gf2, rfl, rfl, HN9⟩
    · obtain ⟨wa, hwa, hAa, hBa⟩ := q_zbox Y2
      have hna := nx_alloc H2Y.out (Kept.refl _ _) hAa hBa
      have HNA := Lib.hid hna
      have HLZ := Lib.hid hna.lz
      clear hAa hBa hna
      obtain ⟨gf2, hgf2⟩ : ∃ gf2, Y2.heap.size = gf2 := ⟨_, rfl⟩
      rw [hgf2] at HNA HLZ
      go_simp
      go_wp2_with fail
      (try rw [hwa])
      (try rw [hgf2])
      clear hwa hgf2
      refine hK.out _ _ ((HSS2.out _ HNA.out.k _ _ HNA.out.lz).1) (fun hHeld => ?_)
      clear hK K
      refine wpAnyH_ready (rs := [6]) (by kernel_rfl) (by simp) ?_
      refine AllReadyH.cons rfl (fun K hK => ?_) AllReadyH.nil
      go_simp
      go_wp2_with (go_at_call 19; (with_reducible refine (H2.out _ _ HLZ.out).mono ?_); rintro e w2 ⟨rfl, hP⟩; have HNA := Lib.hid (nx_call HNA.out hP); clear hP)
      refine hK.out _ _ ((HSS2.out _ HNA.out.k _ _ HNA.out.lz).1) (fun hHeld => ?_)
      clear hK K
      refine tkq 7 (some 134) (v := ?_) rfl (Or.inl ⟨by rfl, ?_⟩) (by assumption) ?_
      rotate_left
      · intro w hSw; (try dsimp only at hSw); go_simp; first | done | (with_reducible rfl)
      simp only [Act.put, List.setIfInBounds_toArray, List.set_cons_zero, List.set_cons_succ]
      refine tkq 8 (some 142) (v := ?_) rfl (Or.inl ⟨by rfl, ?_⟩) (by assumption) ?_
      rotate_left
      · intro w hSw; (try dsimp only at hSw); go_simp; first | done | (with_reducible rfl)
      simp only [Act.put, List.setIfInBounds_toArray, List.set_cons_zero, List.set_cons_succ]
      refine tkq 9 (some 143) (v := ?_) rfl (Or.inl ⟨by rfl, ?_⟩) (by assumption) ?_
      rotate_left
      · intro w hSw; (try dsimp only at hSw); go_simp; first | done | (with_reducible rfl)
      simp only [Act.put, List.setIfInBounds_toArray, List.set_cons_zero, List.set_cons_succ]
      refine wpAnyH_ready (rs := [11]) (by kernel_rfl) (by simp) ?_
      refine AllReadyH.cons rfl (fun K hK => ?_) AllReadyH.nil
      refine step_st_in17 (by rfl) gf2 0 54 _ LF (by rfl) (by rfl) HNA.out.at_ (by rw [HLF.out]; exact Nat.le_refl 19) (by rw [HLF.out]; exact fr_info) HLo.out ?_
      intro w9 hA9x hk9
      have HN9 : Hid (NxA wb W Y2 w9 base p q pw gf2 O F2 L X5 X5 LF) := Lib.hid (nx_store HNA.out (by rw [HLF.out] at hA9x; simpa [frL] using hA9x) hk9)
      clear hA9x hk9
      refine hK.out _ _ ((HSS2.out _ HN9.out.k _ _ HN9.out.lz).1) (fun hHeld => ?_)
      clear hK K
      refine tkq 12 (some 16) (v := ?_) rfl (Or.inl ⟨by rfl, ?_⟩) (by assumption) ?_
      rotate_left
      · intro w hSw; (try dsimp only at hSw); go_simp; first | done | (with_reducible rfl)
      simp only [Act.put, List.setIfInBounds_toArray, List.set_cons_zero, List.set_cons_succ]
      refine wpAnyH_done (by kernel_rfl) ?_ _
      go_wp2_with fail
      go_meet
      exact ⟨gf2, rfl, rfl, HN9⟩
  case rest =>
  obtain ⟨gf2, rfl, rfl, HN2⟩ := hcut
  obtain ⟨⟨z0, z1, z2⟩, zA, z7⟩ := HSS2.out wc HN2.out.k _ _ HN2.out.lz
  have zB := HN2.out.at_
  have hyy : (yes != yes) = false := by simp
  clear HSS HSS2 H2 H2Y HS2 HS7
  go_upto_region 19 with (first
    | ((with_reducible refine at_ld ?_); first | refine ld_fr_g gf _ (by rfl) (by rfl) zA HLF.out ?_ | refine ld_fr_g gf2 _ (by rfl) (by rfl) zB HLF.out ?_)
    | (go_at_call 20; (with_reducible refine (HSM.out _).mono ?_); rintro e w5 ⟨rfl, hb5⟩; have HB5 := Lib.hid hb5; clear hb5)
    | fail)
  have hz5 := HN2.out.lz.below HB5.out
  have HZ5 := Lib.hid hz5
  have zA5 : Hid (At w5 gf 54 LF) := Lib.hid (zA.below HB5.out zA.lt)
  clear z0 z1 z2 zA zB hyy HSM
  cases yes with
  | false =>
    clear hz5 HN HD1
    go_wp2_with (first | (go_at_call 25; (with_reducible refine (same17 HZ5.out HOK.out.ok).mono ?_); rintro e w6 ⟨rfl, hb6⟩; have HB6 := Lib.hid hb6; clear hb6) | fail)
    go_ret
    exact ⟨by first | rfl | simp, HD.out _ _ (HZ5.out.below HB6.out)⟩
  | true =>
    have hA5 := zA5.out
    obtain ⟨O1, O2, tv, hx⟩ := hz5
    obtain ⟨Y5, hY5⟩ : ∃ Y5, w5.drew = Y5 := ⟨_, rfl⟩
    have hB5 : Below w5.heap.size w5 Y5 := by rw [← hY5]; exact belowN (Below.refl _ _) 1
    have hxY := Lzx.below hx hB5
    have hAY5 := hA5.below hB5 hA5.lt
    have t2 : Y5.cell? ⟨pw, 2, none⟩ = some tv := by rw [hxY.1.at_.cell]; rfl
    have HR5 : Hid (Y5.rangeAt gf 0 LF) := Lib.hid (fun j v hv => by rw [Nat.zero_add, hAY5.cell]; exact hv)
    have HXY := Lib.hid hxY
    have HAY := Lib.hid hAY5
    have hlo := (hxY.2.2.2.1 gf (.inl HF2g.out)).1
    have HLO := Lib.hid hlo
    have hl9 := HL9.out
    clear hx hxY hAY5 hA5 hB5 HN HD hlo
    go_upto_region 20 with fail
    refine wp_region_held_drew (S := (fun w => w.rangeAt gf 0 LF)) (by kernel_rfl) (by rw [hY5]; exact HR5.out) (fun hHeld => ?_)
    rw [hY5] at hHeld ⊢
    clear hY5
    refine tkq 0 (some 154) (v := ?_) rfl (Or.inl ⟨by rfl, ?_⟩) (by assumption) ?_
    rotate_left
    · intro w hSw; (try dsimp only at hSw); go_simp; first | done | (with_reducible rfl)
    simp only [Act.put, List.setIfInBounds_toArray, List.set_cons_zero, List.set_cons_succ]
    refine tkq 1 (some 155) (v := ?_) rfl (Or.inl ⟨by rfl, ?_⟩) (by assumption) ?_
    rotate_left
    · intro w hSw; (try dsimp only at hSw); go_simp; first | done | (with_reducible rfl)
    simp only [Act.put, List.setIfInBounds_toArray, List.set_cons_zero, List.set_cons_succ]
    refine tkq 2 (some 156) (v := ?_) rfl (Or.inl ⟨by rfl, ?_⟩) (by assumption) ?_
    rotate_left
    · intro w hSw; (try dsimp only at hSw); go_simp; first | done | (with_reducible rfl)
    simp only [Act.put, List.setIfInBounds_toArray, List.set_cons_zero, List.set_cons_succ]
    refine tkq 3 (some 157) (v := ?_) rfl (Or.inl ⟨by rfl, ?_⟩) (by assumption) ?_
    rotate_left
    · intro w hSw; (try dsimp only at hSw); go_simp; first | done | (with_reducible rfl)
    simp only [Act.put, List.setIfInBounds_toArray, List.set_cons_zero, List.set_cons_succ]
    refine tkq 5 (some 159) (v := ?_) rfl ?_ (by assumption) ?_
    rotate_left
    · refine yl_any 54 (.tmp 13) ?_ gf 0 ?_ LF _ ?_ Tryz.underlying54 rfl ?_ ?_
      · rfl
      · rfl
      · intro w hSw; exact (by simpa using hSw)
      · rw [HLF.out]; exact fr_info
      · rfl
    simp only [Act.put, List.setIfInBounds_toArray, List.set_cons_zero, List.set_cons_succ]
    refine wpAnyH_ready (rs := [4, 6]) (by kernel_rfl) (by simp) ?_
    refine AllReadyH.cons rfl (fun K hK => ?_) (AllReadyH.cons rfl (fun K hK => ?_) (AllReadyH.nil))
    · go_simp
      go_wp2_with fail
      refine hK.out _ _ (HR5.out) (fun hHeld => ?_)
      clear hK K
      refine wpAnyH_ready (rs := [6]) (by kernel_rfl) (by simp) ?_
      refine AllReadyH.cons rfl (fun K hK => ?_) AllReadyH.nil
      have hB6 : Below Y5.heap.size Y5 (Y5.alloc (.cells LF.toArray 54)) := (Below.refl _ _).alloc (Nat.le_refl _) _
      have hA6 := At.new Y5 54 LF
      obtain ⟨g6, hg6⟩ : ∃ g6, Y5.heap.size = g6 := ⟨_, rfl⟩
      obtain ⟨W6, hW6⟩ : ∃ W6, Y5.alloc (.cells LF.toArray 54) = W6 := ⟨_, rfl⟩
      have HX6 := Lib.hid (Lzx.below HXY.out hB6)
      have HAg6 := Lib.hid (HAY.out.below hB6 HAY.out.lt)
      rw [hW6] at HX6 hA6 HAg6
      rw [hg6] at hA6
      have HA6 := Lib.hid hA6
      refine step_bsq LF g6 hg6.symm (by rfl) HLF.out ?_
      rw [hW6]
      clear hB6 hA6 hW6 hg6
      have t26 : W6.cell? ⟨pw, 2, none⟩ = some tv := by rw [HX6.out.1.at_.cell]; rfl
      have hr6 : W6.rangeAt gf 0 LF := fun j v hv => by rw [Nat.zero_add, HAg6.out.cell]; exact hv
      refine hK.out _ _ (hr6) (fun hHeld => ?_)
      clear hK K
      refine wpAnyH_ready (rs := [7]) (by kernel_rfl) (by simp) ?_
      refine AllReadyH.cons rfl (fun K hK => ?_) AllReadyH.nil
      refine step_append_fq (by rfl) (.tmp 158) (.tmp 160) (by rfl) base tv L (by rfl) HX6.out.1.own g6 1 (dueF X (nxK X most)) (by rfl) (by rw [HLFE.out]; exact HA6.out) (by omega) (lz_base ⟨_, _, _, HX6.out⟩) ?_
      intro v9 w9 ho9 hg9 hv9
      obtain ⟨A9, c9, hve, _, _⟩ := ho9.shape
      obtain ⟨n9, hn9⟩ : ∃ n9, (L ++ [dueF X (nxK X most)]).length = n9 := ⟨_, rfl⟩
      rw [hn9] at hve
      subst hve
      clear hn9
      have k9 : Kept (fun j => tv.ownBlock = some j) W6 w9 := Kept.of_grown hg9 (fun k hk => .inl hk)
      have hT := Lzx.told HX6.out (by omega) ho9 hg9 hv9
      have HT := Lib.hid hT
      have hP9 := HX6.out.1.at_.kept k9 HX6.out.1.dp
      have HAg9 := Lib.hid (HAg6.out.kept k9 (fun e => HLO.out (.inr (.inr (.inr e)))))
      have c2 : w9.cell? ⟨pw, 2, none⟩ = some tv := by rw [hP9.cell]; rfl
      have f2 : w9.frozen? ⟨pw, 2, none⟩ = false := hP9.frozen 2
      clear hT hP9 k9 ho9 hg9 hv9
      have hr9 : w9.rangeAt gf 0 LF := fun j v hv => by rw [Nat.zero_add, HAg9.out.cell]; exact hv
      refine hK.out _ _ (hr9) (fun hHeld => ?_)
      clear hK K
      refine tkq 8 (some 162) (v := ?_) rfl (Or.inl ⟨by rfl, ?_⟩) (by assumption) ?_
      rotate_left
      · intro w hSw; (try dsimp only at hSw); go_simp; first | done | (with_reducible rfl)
      simp only [Act.put, List.setIfInBounds_toArray, List.set_cons_zero, List.set_cons_succ]
      refine tkq 9 (some 163) (v := ?_) rfl (Or.inl ⟨by rfl, ?_⟩) (by assumption) ?_
      rotate_left
      · intro w hSw; (try dsimp only at hSw); go_simp; first | done | (with_reducible rfl)
      simp only [Act.put, List.setIfInBounds_toArray, List.set_cons_zero, List.set_cons_succ]
      refine wpAnyH_ready (rs := [10]) (by kernel_rfl) (by simp) ?_
      refine AllReadyH.cons rfl (fun K hK => ?_) AllReadyH.nil
      go_simp
      go_wp2_with fail
      have hr10 : (w9.setCell ⟨pw, 2, none⟩ (.slice A9 n9 c9)).rangeAt gf 0 LF := fun j v hv => by rw [Nat.zero_add, (HAg9.out.set_other (q := ⟨pw, 2, none⟩) (fun e => HLO.out (.inr (.inr (.inl e.symm)))) (.slice A9 n9 c9)).cell]; exact hv
      refine hK.out _ _ (hr10) (fun hHeld => ?_)
      clear hK K
      refine wpAnyH_done (by kernel_rfl) ?_ _
      have hz9 : Lz wb W (w9.setCell ⟨pw, 2, none⟩ (.slice A9 n9 c9)) base p q pw O (fun b => F2 b ∨ b = gf2) (L ++ [dueF X (nxK X most)]) X5 X5 := ⟨_, _, _, HT.out⟩
      have HZ9 := Lib.hid hz9
      clear hz9
      go_wp2_with (first | (go_at_call 25; (with_reducible refine (same17 HZ9.out HOK.out.ok).mono ?_); rintro e w6 ⟨rfl, hb6⟩; have HB6 := Lib.hid hb6; clear hb6) | fail)
      go_ret
      exact ⟨by first | rfl | simp, HD1.out _ _ _ (HZ9.out.below HB6.out)⟩
    · have hB6 : Below Y5.heap.size Y5 (Y5.alloc (.cells LF.toArray 54)) := (Below.refl _ _).alloc (Nat.le_refl _) _
      have hA6 := At.new Y5 54 LF
      obtain ⟨g6, hg6⟩ : ∃ g6, Y5.heap.size = g6 := ⟨_, rfl⟩
      obtain ⟨W6, hW6⟩ : ∃ W6, Y5.alloc (.cells LF.toArray 54) = W6 := ⟨_, rfl⟩
      have HX6 := Lib.hid (Lzx.below HXY.out hB6)
      have HAg6 := Lib.hid (HAY.out.below hB6 HAY.out.lt)
      rw [hW6] at HX6 hA6 HAg6
      rw [hg6] at hA6
      have HA6 := Lib.hid hA6
      refine step_bsq LF g6 hg6.symm (by rfl) HLF.out ?_
      rw [hW6]
      clear hB6 hA6 hW6 hg6
      have t26 : W6.cell? ⟨pw, 2, none⟩ = some tv := by rw [HX6.out.1.at_.cell]; rfl
      have hr6 : W6.rangeAt gf 0 LF := fun j v hv => by rw [Nat.zero_add, HAg6.out.cell]; exact hv
      refine hK.out _ _ (hr6) (fun hHeld => ?_)
      clear hK K
      refine wpAnyH_ready (rs := [4]) (by kernel_rfl) (by simp) ?_
      refine AllReadyH.cons rfl (fun K hK => ?_) AllReadyH.nil
      go_simp
      go_wp2_with fail
      refine hK.out _ _ (hr6) (fun hHeld => ?_)
      clear hK K
      refine wpAnyH_ready (rs := [7]) (by kernel_rfl) (by simp) ?_
      refine AllReadyH.cons rfl (fun K hK => ?_) AllReadyH.nil
      refine step_append_fq (by rfl) (.tmp 158) (.tmp 160) (by rfl) base tv L (by rfl) HX6.out.1.own g6 1 (dueF X (nxK X most)) (by rfl) (by rw [HLFE.out]; exact HA6.out) (by omega) (lz_base ⟨_, _, _, HX6.out⟩) ?_
      intro v9 w9 ho9 hg9 hv9
      obtain ⟨A9, c9, hve, _, _⟩ := ho9.shape
      obtain ⟨n9, hn9⟩ : ∃ n9, (L ++ [dueF X (nxK X most)]).length = n9 := ⟨_, rfl⟩
      rw [hn9] at hve
      subst hve
      clear hn9
      have k9 : Kept (fun j => tv.ownBlock = some j) W6 w9 := Kept.of_grown hg9 (fun k hk => .inl hk)
      have hT := Lzx.told HX6.out (by omega) ho9 hg9 hv9
      have HT := Lib.hid hT
      have hP9 := HX6.out.1.at_.kept k9 HX6.out.1.dp
      have HAg9 := Lib.hid (HAg6.out.kept k9 (fun e => HLO.out (.inr (.inr (.inr e)))))
      have c2 : w9.cell? ⟨pw, 2, none⟩ = some tv := by rw [hP9.cell]; rfl
      have f2 : w9.frozen? ⟨pw, 2, none⟩ = false := hP9.frozen 2
      clear hT hP9 k9 ho9 hg9 hv9
      have hr9 : w9.rangeAt gf 0 LF := fun j v hv => by rw [Nat.zero_add, HAg9.out.cell]; exact hv
      refine hK.out _ _ (hr9) (fun hHeld => ?_)
      clear hK K
      refine tkq 8 (some 162) (v := ?_) rfl (Or.inl ⟨by rfl, ?_⟩) (by assumption) ?_
      rotate_left
      · intro w hSw; (try dsimp only at hSw); go_simp; first | done | (with_reducible rfl)
      simp only [Act.put, List.setIfInBounds_toArray, List.set_cons_zero, List.set_cons_succ]
      refine tkq 9 (some 163) (v := ?_) rfl (Or.inl ⟨by rfl, ?_⟩) (by assumption) ?_
      rotate_left
      · intro w hSw; (try dsimp only at hSw); go_simp; first | done | (with_reducible rfl)
      simp only [Act.put, List.setIfInBounds_toArray, List.set_cons_zero, List.set_cons_succ]
      refine wpAnyH_ready (rs := [10]) (by kernel_rfl) (by simp) ?_
      refine AllReadyH.cons rfl (fun K hK => ?_) AllReadyH.nil
      go_simp
      go_wp2_with fail
      have hr10 : (w9.setCell ⟨pw, 2, none⟩ (.slice A9 n9 c9)).rangeAt gf 0 LF := fun j v hv => by rw [Nat.zero_add, (HAg9.out.set_other (q := ⟨pw, 2, none⟩) (fun e => HLO.out (.inr (.inr (.inl e.symm)))) (.slice A9 n9 c9)).cell]; exact hv
      refine hK.out _ _ (hr10) (fun hHeld => ?_)
      clear hK K
      refine wpAnyH_done (by kernel_rfl) ?_ _
      have hz9 : Lz wb W (w9.setCell ⟨pw, 2, none⟩ (.slice A9 n9 c9)) base p q pw O (fun b => F2 b ∨ b = gf2) (L ++ [dueF X (nxK X most)]) X5 X5 := ⟨_, _, _, HT.out⟩
      have HZ9 := Lib.hid hz9
      clear hz9
      go_wp2_with (first | (go_at_call 25; (with_reducible refine (same17 HZ9.out HOK.out.ok).mono ?_); rintro e w6 ⟨rfl, hb6⟩; have HB6 := Lib.hid hb6; clear hb6) | fail)
      go_ret
      exact ⟨by first | rfl | simp, HD1.out _ _ _ (HZ9.out.below HB6.out)⟩
end
end Go.Proofs.YtphpdaldplkgmaaGreat
