/-
  Chapter 16's law: do: Next.
-/
import Derived.Test.YtbejpafephofaaaGreatMq28
import Derived.Deep.CutRange
namespace Go.Proofs.YtbejpafephofaaaGreat
set_option linter.unusedVariables false
set_option linter.unusedSimpArgs false
open Go.RowKit
theorem z_zbox (W : World) : ∃ W1 : World, W.alloc (.cells #[.int .i64 0, .int .u64 0, .int .u64 0, .slice none 0 0, .bool false, .int .u64 0, .int .u64 0, .int .u64 0, .int .u64 0, .int .u64 0, .slice none 0 0, .int .u8 0, .int .u8 0, .int .u8 0, .int .u8 0, .int .u8 0, .int .u8 0, .int .u8 0, .int .u8 0] 51) = W1 ∧
    At W1 W.heap.size 51 (frL (FN.zero 0) .nil .nil) ∧ Below W.heap.size W W1 := ⟨_, rfl, At.new W _ (frL (FN.zero 0) .nil .nil), (Below.refl _ _).alloc (Nat.le_refl _) _⟩
/-- A frame's block that came up beside: it holds l. -/
structure NxW (w0 Y Z Wc : World) (q p qm : Nat) (Xp Xd : SS) (G : Nat → Prop) (v : Value) (bs : List Int) (gf : Nat) (l : List Value) : Prop where
  sv : Sv w0 Y Wc q p qm Xp Xd (fun b => G b ∨ b = gf) v bs
  at_ : At Wc gf 51 l
  gk : ∀ b, G b → Wc.heap[b]? = Z.heap[b]?
  vg : v.ownBlock ≠ some gf
  nf : ¬ G gf
section
variable {w0 Y Z W W' Wa Wc w2 w5 w9 : World} {q p qm pw g gf k : Nat} {O R G : Nat → Prop} {X Xp Xd X' Xp' Xd' : SS} {v v0 : Value} {bs bs0 : List Int} {l l' : List Value} {fr : List Value} {dd : Bool} {tv : Value} {L : List (FN × Sl)} {room ii : Int} {n m c : Nat} {A : Option Addr}
theorem nw_alloc (h : Sv w0 Y W' q p qm Xp Xd G v bs) (hk : ∀ b, G b → W'.heap[b]? = Z.heap[b]?) (hA : At Wa W'.heap.size 51 l) (hB : Below W'.heap.size W' Wa) : NxW w0 Y Z Wa q p qm Xp Xd G v bs W'.heap.size l :=
  ⟨h.plus hB fun b hb => hb.elim .inl fun e => .inr ⟨by omega, by rw [e]; exact hA.lt⟩, hA, fun b hb => (hB.block b (h.Glt b hb)).trans (hk b hb), fun e => by have := (h.own.block_lt _ e).2; omega, fun e => by have := h.Glt _ e; omega⟩
theorem nw_call (h : NxW w0 Y Z Wc q p qm Xp Xd G v0 bs0 gf l) (hs : Sv w0 Y w2 q p qm Xp' Xd' (fun b => G b ∨ b = gf) v bs) (hv : v.ownBlock ≠ some gf) (hk : ∀ b, (G b ∨ b = gf) → w2.heap[b]? = Wc.heap[b]?) : NxW w0 Y Z w2 q p qm Xp' Xd' G v bs gf l :=
  ⟨hs, (hk gf (.inr rfl)).trans h.at_, fun b hb => (hk b (.inl hb)).trans (h.gk b hb), hv, h.nf⟩
theorem nw_store (h : NxW w0 Y Z Wc q p qm Xp Xd G v bs gf l) (hA : At w9 gf 51 l') (hk : Kept (· = gf) Wc w9) : NxW w0 Y Z w9 q p qm Xp Xd G v bs gf l' :=
  ⟨h.sv.turn (.inr rfl) h.vg hk, hA, fun b hb => (hk.block b (h.sv.Glt b (.inl hb)) fun e => h.nf (e ▸ hb)).trans (h.gk b hb), h.vg, h.nf⟩
theorem NxW.below (h : NxW w0 Y Z Wc q p qm Xp Xd G v bs gf l) (k : Below Wc.heap.size Wc w9) : NxW w0 Y Z w9 q p qm Xp Xd G v bs gf l :=
  ⟨h.sv.plus k fun b hb => .inl hb, h.at_.below k h.at_.lt, fun b hb => (k.block b (h.sv.Glt b (.inl hb))).trans (h.gk b hb), h.vg, h.nf⟩
/-- The law's world again. -/
theorem wo_back (h : Wo R w0 W q p qm pw O X fr dd tv L) (kb : Below W.heap.size W Z) (hsv : Sv w0 Y w5 q p qm X' X' G v bs) (hG : ∀ b, G3 R g pw tv b → G b) (hk : ∀ b, G3 R g pw tv b → w5.heap[b]? = Z.heap[b]?) (hid : X'.id = X.id) :
    ∃ O' fr' dd', Wo R w0 w5 q p qm pw O' X' fr' dd' tv L ∧ ∀ b, R b → w5.heap[b]? = W.heap[b]? := by
  obtain ⟨O', fr', dd', ht⟩ := hsv.tw
  have hy := h.below kb
  exact ⟨O', fr', dd', ⟨ht.less fun b hb => hG b (.inr hb), (hk pw (.inr (.inl rfl))).trans hy.at_, hy.own.keep fun j hj => hk j (.inr (.inr (.inl hj))), fun x hx => by rw [hid]; exact h.ok x hx, h.pwn, h.rn⟩, fun b hb => (hk b (.inr (.inr (.inr hb)))).trans (kb.block b (h.tw.Glt b (.inr (.inr hb))))⟩
set_option maxRecDepth 100000 in
set_option maxHeartbeats 16000000 in
theorem do_next (h : Wo R w0 W q p qm pw O X fr dd tv L) (hk : L.length ≤ k) (hroom : room < 9223372036854775808) (hn : n < 18446744073709551616) (hL : X.o.bs.length ≤ 700000) (hk2 : k < 1000000) : Calls Tryz.prog 6 #[.pointer (some ⟨pw, 0, none⟩), .agg (askL 5 room ii n A m c).toArray] W fun e w' => e = .returned (.bool true) ∧ DoP R W w0 q p qm pw X k w' := by
  obtain ⟨g, W1, hg, hW1, hA1, hB1, hgl, hpg, hGl, p0, p1, p2⟩ := do_box h (askL 5 room ii n A m c)
  have HKE := Lib.hid (fun (w2 : World) hk => do_keep (w2 := w2) h hB1 hA1 hk)
  obtain ⟨Y, hY⟩ : ∃ Y, W1.drew = Y := ⟨_, rfl⟩
  have hBY : Below W.heap.size W Y := by rw [← hY]; exact belowN hB1 1
  have hTY : Tw w0 Y q p qm O X fr dd (G3 R g pw tv) := h.box hBY (by rw [← hY]; exact ⟨by omega, hgl⟩)
  have HYW : Hid (∀ b, G3 R g pw tv b → Y.heap[b]? = W1.heap[b]?) := Lib.hid (fun b _ => by rw [← hY]; rfl)
  have HSV0 := Lib.hid hTY.sv
  have HSS : Hid (∀ w : World, (∀ b, G3 R g pw tv b → w.heap[b]? = Y.heap[b]?) → w.cell? ⟨pw, 0, none⟩ = some (.pointer (some ⟨q, 0, none⟩)) ∧ w.cell? ⟨pw, 1, none⟩ = some (.pointer (some ⟨qm, 0, none⟩)) ∧ w.cell? ⟨g, 1, none⟩ = some (.int .i64 room) ∧ w.cell? ⟨g, 3, none⟩ = some (.int .u64 n)) := Lib.hid (fun w hk => by
    obtain ⟨a1, a2⟩ := HKE.out w (fun b hb => (hk b hb).trans (HYW.out b hb))
    exact ⟨by rw [a1.cell]; rfl, by rw [a1.cell]; rfl, by rw [a2.cell]; rfl, by rw [a2.cell]; rfl⟩)
  have HSG : Hid (∀ w : World, (∀ b, G3 R g pw tv b → w.heap[b]? = Y.heap[b]?) → w.cell? ⟨g, 0, none⟩ = some (.int .i64 5)) := Lib.hid (fun w hk => by
    obtain ⟨a1, a2⟩ := HKE.out w (fun b hb => (hk b hb).trans (HYW.out b hb))
    rw [a2.cell]; rfl)
  have a0 : W1.cell? ⟨g, 0, none⟩ = some (.int .i64 5) := by rw [hA1.cell]; rfl
  have HS0 := Lib.hid (HSS.out Y (fun _ _ => rfl))
  have hok := hTY.sm.ok
  have hoo := hTY.sm.oz.ok
  have HOK := Lib.hid (And.intro hok (And.intro hoo hL))
  have H1 := Lib.hid (fun (G' : Nat → Prop) W' v bs (hz : Sv w0 Y W' q p qm X X G' v bs) => sv_prog hz hL room hroom n hn)
  have H2 := Lib.hid (fun (G' : Nat → Prop) W' v bs X' LF yes (hz : Sv w0 Y W' q p qm X' X G' v bs) hg => sv_doc hz room n hn (L := LF) (b := yes) hok.lim hg)
  have HBACK := Lib.hid (fun (w5 : World) X' G v bs hsv hG hk hid => wo_back (g := g) (w5 := w5) (X' := X') (G := G) (v := v) (bs := bs) (Y := Y) h hBY hsv hG hk hid)
  have HLK : Hid (L.length ≤ k ∧ k < 1000000) := Lib.hid ⟨hk, hk2⟩
  have HTV : Hid (W1.cell? ⟨pw, 2, none⟩ = some tv) := Lib.hid p2
  clear h hA1 hB1 hBY hTY hGl hok hoo hL hk hk2 HKE p2
  unfold askL at hW1 ⊢
  go_enter Tryz.func6, Tryz.ntmps6
  go_upto_region 1 with fail
  (try rw [hg])
  (try rw [hW1])
  go_upto_region 2 with fail
  go_cut [11, 12] from 17 to 29 (fun s11 s12 wc => ∃ gf LF yes X' v bs, s11 = .pointer (some ⟨gf, 0, none⟩) ∧ s12 = .bool yes ∧ Hid (NxG X room n LF yes X' v bs ∧ NxW w0 Y Y wc q p qm X' X (G3 R g pw tv) v bs gf LF))
  case first =>
    refine wp_region_held_drew (S := (fun w => w.cell? ⟨pw, 0, none⟩ = some (.pointer (some ⟨q, 0, none⟩)) ∧ w.cell? ⟨pw, 1, none⟩ = some (.pointer (some ⟨qm, 0, none⟩)) ∧ w.cell? ⟨g, 1, none⟩ = some (.int .i64 room) ∧ w.cell? ⟨g, 3, none⟩ = some (.int .u64 n))) (by kernel_rfl) (by rw [hY]; exact HS0.out) (fun hHeld => ?_)
    rw [hY] at hHeld ⊢
    clear hY
    refine tkq 0 (some 18) (v := ?_) rfl (Or.inl ⟨by rfl, ?_⟩) (by assumption) ?_
    rotate_left
    · intro w hSw; (try dsimp only at hSw); go_simp; first | done | (with_reducible rfl)
    simp only [Act.put, List.setIfInBounds_toArray, List.set_cons_zero, List.set_cons_succ]
    refine tkq 1 (some 19) (v := ?_) rfl (Or.inl ⟨by rfl, ?_⟩) (by assumption) ?_
    rotate_left
    · intro w hSw; (try dsimp only at hSw); go_simp; first | done | (with_reducible rfl)
    simp only [Act.put, List.setIfInBounds_toArray, List.set_cons_zero, List.set_cons_succ]
    refine tkq 2 (some 20) (v := ?_) rfl (Or.inl ⟨by rfl, ?_⟩) (by assumption) ?_
    rotate_left
    · intro w hSw; (try dsimp only at hSw); go_simp; first | done | (with_reducible rfl)
    simp only [Act.put, List.setIfInBounds_toArray, List.set_cons_zero, List.set_cons_succ]
    refine tkq 3 (some 21) (v := ?_) rfl (Or.inl ⟨by rfl, ?_⟩) (by assumption) ?_
    rotate_left
    · intro w hSw; (try dsimp only at hSw); go_simp; first | done | (with_reducible rfl)
    simp only [Act.put, List.setIfInBounds_toArray, List.set_cons_zero, List.set_cons_succ]
    refine tkq 4 (some 22) (v := ?_) rfl (Or.inl ⟨by rfl, ?_⟩) (by assumption) ?_
    rotate_left
    · intro w hSw; (try dsimp only at hSw); go_simp; first | done | (with_reducible rfl)
    simp only [Act.put, List.setIfInBounds_toArray, List.set_cons_zero, List.set_cons_succ]
    refine tkq 5 (some 23) (v := ?_) rfl (Or.inl ⟨by rfl, ?_⟩) (by assumption) ?_
    rotate_left
    · intro w hSw; (try dsimp only at hSw); go_simp; first | done | (with_reducible rfl)
    simp only [Act.put, List.setIfInBounds_toArray, List.set_cons_zero, List.set_cons_succ]
    refine tkq 6 (some 24) (v := ?_) rfl (Or.inl ⟨by rfl, ?_⟩) (by assumption) ?_
    rotate_left
    · intro w hSw; (try dsimp only at hSw); go_simp; first | done | (with_reducible rfl)
    simp only [Act.put, List.setIfInBounds_toArray, List.set_cons_zero, List.set_cons_succ]
    refine tkq 7 (some 25) (v := ?_) rfl (Or.inl ⟨by rfl, ?_⟩) (by assumption) ?_
    rotate_left
    · intro w hSw; (try dsimp only at hSw); go_simp; first | done | (with_reducible rfl)
    simp only [Act.put, List.setIfInBounds_toArray, List.set_cons_zero, List.set_cons_succ]
    refine wpAnyH_ready (rs := [8, 12]) (by kernel_rfl) (by simp) ?_
    refine AllReadyH.cons rfl (fun K hK => ?_) (AllReadyH.cons rfl (fun K hK => ?_) (AllReadyH.nil))
    · go_simp
      go_wp2_with (go_at_call 22; (with_reducible refine (H1.out _ _ _ _ HSV0.out).mono ?_); rintro e w2 ⟨LF, yes, X', v, bs, rfl, hng, hsv, hvn, hgk⟩; have HNG := Lib.hid hng; have HSV2 := Lib.hid hsv; have HGK2 := Lib.hid hgk; clear hng hsv hvn hgk)
      have HLF := Lib.hid HNG.out.len
      refine hK.out _ _ (HSS.out _ HGK2.out) (fun hHeld => ?_)
      clear hK K
      refine tkq 9 (some 17) (v := ?_) rfl (Or.inl ⟨by rfl, ?_⟩) (by assumption) ?_
      rotate_left
      · intro w hSw; (try dsimp only at hSw); go_simp; first | done | (with_reducible rfl)
      simp only [Act.put, List.setIfInBounds_toArray, List.set_cons_zero, List.set_cons_succ]
      refine tkq 10 (some 27) (v := ?_) rfl (Or.inl ⟨by rfl, ?_⟩) (by assumption) ?_
      rotate_left
      · intro w hSw; (try dsimp only at hSw); go_simp; first | done | (with_reducible rfl)
      simp only [Act.put, List.setIfInBounds_toArray, List.set_cons_zero, List.set_cons_succ]
      refine tkq 11 (some 28) (v := ?_) rfl (Or.inl ⟨by rfl, ?_⟩) (by assumption) ?_
      rotate_left
      · intro w hSw; (try dsimp only at hSw); go_simp; first | done | (with_reducible rfl)
      simp only [Act.put, List.setIfInBounds_toArray, List.set_cons_zero, List.set_cons_succ]
      refine wpAnyH_ready (rs := [12]) (by kernel_rfl) (by simp) ?_
      refine AllReadyH.cons rfl (fun K hK => ?_) AllReadyH.nil
      obtain ⟨wa, hwa, hAa, hBa⟩ := z_zbox w2
      have HNC := Lib.hid (nw_alloc HSV2.out HGK2.out hAa hBa)
      clear hAa hBa
      obtain ⟨gf, hgf⟩ : ∃ gf, w2.heap.size = gf := ⟨_, rfl⟩
      rw [hgf] at HNC
      go_simp
      go_wp2_with fail
      (try rw [hwa])
      (try rw [hgf])
      clear hwa hgf
      refine hK.out _ _ (HSS.out _ HNC.out.gk) (fun hHeld => ?_)
      clear hK K
      refine wpAnyH_ready (rs := [13]) (by kernel_rfl) (by simp) ?_
      refine AllReadyH.cons rfl (fun K hK => ?_) AllReadyH.nil
      refine step_st_in (by rfl) gf 0 51 _ LF (by rfl) (by rfl) HNC.out.at_ (by rw [HLF.out.1]; exact Nat.le_refl 19) (by rw [HLF.out.1]; exact fr_info) HLF.out.2 ?_
      intro w9 hA9x hk9
      have HN9 : Hid (NxW w0 Y Y w9 q p qm X' X (G3 R g pw tv) v bs gf LF) := Lib.hid (nw_store HNC.out (by rw [HLF.out.1] at hA9x; simpa [frL] using hA9x) hk9)
      clear hA9x hk9
      refine hK.out _ _ (HSS.out _ HN9.out.gk) (fun hHeld => ?_)
      clear hK K
      refine tkq 14 (some 12) (v := ?_) rfl (Or.inl ⟨by rfl, ?_⟩) (by assumption) ?_
      rotate_left
      · intro w hSw; (try dsimp only at hSw); go_simp; first | done | (with_reducible rfl)
      simp only [Act.put, List.setIfInBounds_toArray, List.set_cons_zero, List.set_cons_succ]
      refine wpAnyH_done (by kernel_rfl) ?_ _
      go_wp2_with fail
      go_meet
      exact ⟨gf, LF, yes, X', v, bs, rfl, rfl, Lib.hid ⟨HNG.out, HN9.out⟩⟩
    · obtain ⟨wa, hwa, hAa, hBa⟩ := z_zbox Y
      have HNW := Lib.hid (nw_alloc (Z := Y) HSV0.out (fun _ _ => rfl) hAa hBa)
      clear hAa hBa
      obtain ⟨gf, hgf⟩ : ∃ gf, Y.heap.size = gf := ⟨_, rfl⟩
      rw [hgf] at HNW
      go_simp
      go_wp2_with fail
      (try rw [hwa])
      (try rw [hgf])
      clear hwa hgf
      refine hK.out _ _ (HSS.out _ HNW.out.gk) (fun hHeld => ?_)
      clear hK K
      refine wpAnyH_ready (rs := [8]) (by kernel_rfl) (by simp) ?_
      refine AllReadyH.cons rfl (fun K hK => ?_) AllReadyH.nil
      go_simp
      go_wp2_with (go_at_call 22; (with_reducible refine (H1.out _ _ _ _ HNW.out.sv).mono ?_); rintro e w2 ⟨LF, yes, X', v, bs, rfl, hng, hsv, hvn, hgk⟩; have HNG := Lib.hid hng; have HNC := Lib.hid (nw_call HNW.out hsv (fun e => by have := hvn _ e; have := HNW.out.at_.lt; omega) hgk); clear hng hsv hvn hgk)
      have HLF := Lib.hid HNG.out.len
      refine hK.out _ _ (HSS.out _ HNC.out.gk) (fun hHeld => ?_)
      clear hK K
      refine tkq 9 (some 17) (v := ?_) rfl (Or.inl ⟨by rfl, ?_⟩) (by assumption) ?_
      rotate_left
      · intro w hSw; (try dsimp only at hSw); go_simp; first | done | (with_reducible rfl)
      simp only [Act.put, List.setIfInBounds_toArray, List.set_cons_zero, List.set_cons_succ]
      refine tkq 10 (some 27) (v := ?_) rfl (Or.inl ⟨by rfl, ?_⟩) (by assumption) ?_
      rotate_left
      · intro w hSw; (try dsimp only at hSw); go_simp; first | done | (with_reducible rfl)
      simp only [Act.put, List.setIfInBounds_toArray, List.set_cons_zero, List.set_cons_succ]
      refine tkq 11 (some 28) (v := ?_) rfl (Or.inl ⟨by rfl, ?_⟩) (by assumption) ?_
      rotate_left
      · intro w hSw; (try dsimp only at hSw); go_simp; first | done | (with_reducible rfl)
      simp only [Act.put, List.setIfInBounds_toArray, List.set_cons_zero, List.set_cons_succ]
      refine wpAnyH_ready (rs := [13]) (by kernel_rfl) (by simp) ?_
      refine AllReadyH.cons rfl (fun K hK => ?_) AllReadyH.nil
      refine step_st_in (by rfl) gf 0 51 _ LF (by rfl) (by rfl) HNC.out.at_ (by rw [HLF.out.1]; exact Nat.le_refl 19) (by rw [HLF.out.1]; exact fr_info) HLF.out.2 ?_
      intro w9 hA9x hk9
      have HN9 : Hid (NxW w0 Y Y w9 q p qm X' X (G3 R g pw tv) v bs gf LF) := Lib.hid (nw_store HNC.out (by rw [HLF.out.1] at hA9x; simpa [frL] using hA9x) hk9)
      clear hA9x hk9
      refine hK.out _ _ (HSS.out _ HN9.out.gk) (fun hHeld => ?_)
      clear hK K
      refine tkq 14 (some 12) (v := ?_) rfl (Or.inl ⟨by rfl, ?_⟩) (by assumption) ?_
      rotate_left
      · intro w hSw; (try dsimp only at hSw); go_simp; first | done | (with_reducible rfl)
      simp only [Act.put, List.setIfInBounds_toArray, List.set_cons_zero, List.set_cons_succ]
      refine wpAnyH_done (by kernel_rfl) ?_ _
      go_wp2_with fail
      go_meet
      exact ⟨gf, LF, yes, X', v, bs, rfl, rfl, Lib.hid ⟨HNG.out, HN9.out⟩⟩
  case rest =>
  obtain ⟨gf, LF, yes, X', v, bs, rfl, rfl, HNN⟩ := hcut
  have HNG := Lib.hid HNN.out.1
  have HLF := Lib.hid HNG.out.len
  obtain ⟨Y2, hY2⟩ : ∃ Y2, wc.drew = Y2 := ⟨_, rfl⟩
  have hB2 : Below wc.heap.size wc Y2 := by rw [← hY2]; exact belowN (Below.refl _ _) 1
  have HN2 := Lib.hid (HNN.out.2.below hB2)
  clear hB2 HNN H1 HS0 HSV0
  have HSS2 : Hid (∀ w : World, (∀ b, (G3 R g pw tv b ∨ b = gf) → w.heap[b]? = Y2.heap[b]?) → (w.cell? ⟨pw, 0, none⟩ = some (.pointer (some ⟨q, 0, none⟩)) ∧ w.cell? ⟨pw, 1, none⟩ = some (.pointer (some ⟨qm, 0, none⟩)) ∧ w.cell? ⟨g, 1, none⟩ = some (.int .i64 room) ∧ w.cell? ⟨g, 3, none⟩ = some (.int .u64 n))) := Lib.hid (fun w hk => HSS.out w fun b hb => (hk b (.inl hb)).trans (HN2.out.gk b hb))
  have HS2 := Lib.hid (HSS2.out Y2 (fun _ _ => rfl))
  go_upto_region 3 with fail
  go_cut [13, 14] from 29 to 41 (fun s13 s14 wc => ∃ gf2 L2 v2 bs2 B2, s13 = .pointer (some ⟨gf2, 0, none⟩) ∧ s14 = .bool yes ∧ Hid (NxG X room n L2 yes X' v2 bs2 ∧ NxW w0 Y Y2 wc q p qm X' X' (fun b => G3 R g pw tv b ∨ b = gf) v bs gf2 L2 ∧ Own wc B2 5 v2 bs2))
  case first =>
    refine wp_region_held_drew (S := (fun w => w.cell? ⟨pw, 0, none⟩ = some (.pointer (some ⟨q, 0, none⟩)) ∧ w.cell? ⟨pw, 1, none⟩ = some (.pointer (some ⟨qm, 0, none⟩)) ∧ w.cell? ⟨g, 1, none⟩ = some (.int .i64 room) ∧ w.cell? ⟨g, 3, none⟩ = some (.int .u64 n))) (by kernel_rfl) (by rw [hY2]; exact HS2.out) (fun hHeld => ?_)
    rw [hY2] at hHeld ⊢
    clear hY2
    refine tkq 0 (some 30) (v := ?_) rfl (Or.inl ⟨by rfl, ?_⟩) (by assumption) ?_
    rotate_left
    · intro w hSw; (try dsimp only at hSw); go_simp; first | done | (with_reducible rfl)
    simp only [Act.put, List.setIfInBounds_toArray, List.set_cons_zero, List.set_cons_succ]
    refine tkq 1 (some 31) (v := ?_) rfl (Or.inl ⟨by rfl, ?_⟩) (by assumption) ?_
    rotate_left
    · intro w hSw; (try dsimp only at hSw); go_simp; first | done | (with_reducible rfl)
    simp only [Act.put, List.setIfInBounds_toArray, List.set_cons_zero, List.set_cons_succ]
    refine tkq 2 (some 32) (v := ?_) rfl (Or.inl ⟨by rfl, ?_⟩) (by assumption) ?_
    rotate_left
    · intro w hSw; (try dsimp only at hSw); go_simp; first | done | (with_reducible rfl)
    simp only [Act.put, List.setIfInBounds_toArray, List.set_cons_zero, List.set_cons_succ]
    refine tkq 3 (some 33) (v := ?_) rfl (Or.inl ⟨by rfl, ?_⟩) (by assumption) ?_
    rotate_left
    · intro w hSw; (try dsimp only at hSw); go_simp; first | done | (with_reducible rfl)
    simp only [Act.put, List.setIfInBounds_toArray, List.set_cons_zero, List.set_cons_succ]
    refine tkq 4 (some 34) (v := ?_) rfl (Or.inl ⟨by rfl, ?_⟩) (by assumption) ?_
    rotate_left
    · intro w hSw; (try dsimp only at hSw); go_simp; first | done | (with_reducible rfl)
    simp only [Act.put, List.setIfInBounds_toArray, List.set_cons_zero, List.set_cons_succ]
    refine tkq 5 (some 35) (v := ?_) rfl (Or.inl ⟨by rfl, ?_⟩) (by assumption) ?_
    rotate_left
    · intro w hSw; (try dsimp only at hSw); go_simp; first | done | (with_reducible rfl)
    simp only [Act.put, List.setIfInBounds_toArray, List.set_cons_zero, List.set_cons_succ]
    refine tkq 6 (some 36) (v := ?_) rfl (Or.inl ⟨by rfl, ?_⟩) (by assumption) ?_
    rotate_left
    · intro w hSw; (try dsimp only at hSw); go_simp; first | done | (with_reducible rfl)
    simp only [Act.put, List.setIfInBounds_toArray, List.set_cons_zero, List.set_cons_succ]
    refine tkq 7 (some 37) (v := ?_) rfl (Or.inl ⟨by rfl, ?_⟩) (by assumption) ?_
    rotate_left
    · intro w hSw; (try dsimp only at hSw); go_simp; first | done | (with_reducible rfl)
    simp only [Act.put, List.setIfInBounds_toArray, List.set_cons_zero, List.set_cons_succ]
    refine wpAnyH_ready (rs := [8, 12]) (by kernel_rfl) (by simp) ?_
    refine AllReadyH.cons rfl (fun K hK => ?_) (AllReadyH.cons rfl (fun K hK => ?_) (AllReadyH.nil))
    · go_simp
      go_wp2_with (go_at_call 23; (with_reducible refine (H2.out _ _ _ _ _ _ _ HN2.out.sv HNG.out).mono ?_); rintro e w3 ⟨L2, v2, bs2, rfl, hng2, hsv, hown2, hgk⟩; have HNG2 := Lib.hid hng2; have HSV3 := Lib.hid hsv; have HGK3 := Lib.hid hgk; have HO3 := Lib.hid hown2; clear hng2 hsv hown2 hgk)
      have HLF2 := Lib.hid HNG2.out.len
      refine hK.out _ _ (HSS2.out _ HGK3.out) (fun hHeld => ?_)
      clear hK K
      refine tkq 9 (some 29) (v := ?_) rfl (Or.inl ⟨by rfl, ?_⟩) (by assumption) ?_
      rotate_left
      · intro w hSw; (try dsimp only at hSw); go_simp; first | done | (with_reducible rfl)
      simp only [Act.put, List.setIfInBounds_toArray, List.set_cons_zero, List.set_cons_succ]
      refine tkq 10 (some 39) (v := ?_) rfl (Or.inl ⟨by rfl, ?_⟩) (by assumption) ?_
      rotate_left
      · intro w hSw; (try dsimp only at hSw); go_simp; first | done | (with_reducible rfl)
      simp only [Act.put, List.setIfInBounds_toArray, List.set_cons_zero, List.set_cons_succ]
      refine tkq 11 (some 40) (v := ?_) rfl (Or.inl ⟨by rfl, ?_⟩) (by assumption) ?_
      rotate_left
      · intro w hSw; (try dsimp only at hSw); go_simp; first | done | (with_reducible rfl)
      simp only [Act.put, List.setIfInBounds_toArray, List.set_cons_zero, List.set_cons_succ]
      refine wpAnyH_ready (rs := [12]) (by kernel_rfl) (by simp) ?_
      refine AllReadyH.cons rfl (fun K hK => ?_) AllReadyH.nil
      obtain ⟨wa, hwa, hAa, hBa⟩ := z_zbox w3
      have HNC := Lib.hid (nw_alloc HSV3.out HGK3.out hAa hBa)
      have HO2 : Hid (Own wa Y2.heap.size 5 v2 bs2 ∧ v2.ownBlock ≠ some w3.heap.size) := Lib.hid ⟨HO3.out.below hBa (Nat.le_refl _), fun e => by have := (HO3.out.block_lt _ e).2; omega⟩
      clear hAa hBa
      obtain ⟨gf2, hgf⟩ : ∃ gf, w3.heap.size = gf := ⟨_, rfl⟩
      rw [hgf] at HNC HO2
      go_simp
      go_wp2_with fail
      (try rw [hwa])
      (try rw [hgf])
      clear hwa
      clear hgf
      refine hK.out _ _ (HSS2.out _ HNC.out.gk) (fun hHeld => ?_)
      clear hK K
      refine wpAnyH_ready (rs := [13]) (by kernel_rfl) (by simp) ?_
      refine AllReadyH.cons rfl (fun K hK => ?_) AllReadyH.nil
      refine step_st_in (by rfl) gf2 0 51 _ L2 (by rfl) (by rfl) HNC.out.at_ (by rw [HLF2.out.1]; exact Nat.le_refl 19) (by rw [HLF2.out.1]; exact fr_info) HLF2.out.2 ?_
      intro w9 hA9x hk9
      have HN9 : Hid (NxW w0 Y Y2 w9 q p qm X' X' (fun b => G3 R g pw tv b ∨ b = gf) v bs gf2 L2) := Lib.hid (nw_store HNC.out (by rw [HLF2.out.1] at hA9x; simpa [frL] using hA9x) hk9)
      have HO9 := Lib.hid (HO2.out.1.kept hk9 fun j hj e => HO2.out.2 (e ▸ hj))
      clear hA9x hk9
      refine hK.out _ _ (HSS2.out _ HN9.out.gk) (fun hHeld => ?_)
      clear hK K
      refine tkq 14 (some 14) (v := ?_) rfl (Or.inl ⟨by rfl, ?_⟩) (by assumption) ?_
      rotate_left
      · intro w hSw; (try dsimp only at hSw); go_simp; first | done | (with_reducible rfl)
      simp only [Act.put, List.setIfInBounds_toArray, List.set_cons_zero, List.set_cons_succ]
      refine wpAnyH_done (by kernel_rfl) ?_ _
      go_wp2_with fail
      go_meet
      exact ⟨gf2, L2, v2, bs2, _, rfl, rfl, Lib.hid ⟨HNG2.out, HN9.out, HO9.out⟩⟩
    · obtain ⟨wa, hwa, hAa, hBa⟩ := z_zbox Y2
      have HNW := Lib.hid (nw_alloc (Z := Y2) HN2.out.sv (fun _ _ => rfl) hAa hBa)
      have hBYa : Hid (Y2.heap.size ≤ wa.heap.size) := Lib.hid hBa.size
      clear hAa hBa
      obtain ⟨gf2, hgf⟩ : ∃ gf, Y2.heap.size = gf := ⟨_, rfl⟩
      rw [hgf] at HNW
      go_simp
      go_wp2_with fail
      (try rw [hwa])
      (try rw [hgf])
      clear hwa
      refine hK.out _ _ (HSS2.out _ HNW.out.gk) (fun hHeld => ?_)
      clear hK K
      refine wpAnyH_ready (rs := [8]) (by kernel_rfl) (by simp) ?_
      refine AllReadyH.cons rfl (fun K hK => ?_) AllReadyH.nil
      go_simp
      go_wp2_with (go_at_call 23; (with_reducible refine (H2.out _ _ _ _ _ _ _ HNW.out.sv HNG.out).mono ?_); rintro e w3 ⟨L2, v2, bs2, rfl, hng2, hsv, hown2, hgk⟩; have HNG2 := Lib.hid hng2; have HNC := Lib.hid (nw_call HNW.out hsv HNW.out.vg hgk); have HO2 : Hid (Own w3 Y2.heap.size 5 v2 bs2 ∧ v2.ownBlock ≠ some gf2) := Lib.hid ⟨hown2.base_ hBYa.out, fun e => by have := (hown2.block_lt _ e).1; have := HNW.out.at_.lt; omega⟩; clear hng2 hsv hown2 hgk)
      have HLF2 := Lib.hid HNG2.out.len
      refine hK.out _ _ (HSS2.out _ HNC.out.gk) (fun hHeld => ?_)
      clear hK K
      refine tkq 9 (some 29) (v := ?_) rfl (Or.inl ⟨by rfl, ?_⟩) (by assumption) ?_
      rotate_left
      · intro w hSw; (try dsimp only at hSw); go_simp; first | done | (with_reducible rfl)
      simp only [Act.put, List.setIfInBounds_toArray, List.set_cons_zero, List.set_cons_succ]
      refine tkq 10 (some 39) (v := ?_) rfl (Or.inl ⟨by rfl, ?_⟩) (by assumption) ?_
      rotate_left
      · intro w hSw; (try dsimp only at hSw); go_simp; first | done | (with_reducible rfl)
      simp only [Act.put, List.setIfInBounds_toArray, List.set_cons_zero, List.set_cons_succ]
      refine tkq 11 (some 40) (v := ?_) rfl (Or.inl ⟨by rfl, ?_⟩) (by assumption) ?_
      rotate_left
      · intro w hSw; (try dsimp only at hSw); go_simp; first | done | (with_reducible rfl)
      simp only [Act.put, List.setIfInBounds_toArray, List.set_cons_zero, List.set_cons_succ]
      refine wpAnyH_ready (rs := [13]) (by kernel_rfl) (by simp) ?_
      refine AllReadyH.cons rfl (fun K hK => ?_) AllReadyH.nil
      refine step_st_in (by rfl) gf2 0 51 _ L2 (by rfl) (by rfl) HNC.out.at_ (by rw [HLF2.out.1]; exact Nat.le_refl 19) (by rw [HLF2.out.1]; exact fr_info) HLF2.out.2 ?_
      intro w9 hA9x hk9
      have HN9 : Hid (NxW w0 Y Y2 w9 q p qm X' X' (fun b => G3 R g pw tv b ∨ b = gf) v bs gf2 L2) := Lib.hid (nw_store HNC.out (by rw [HLF2.out.1] at hA9x; simpa [frL] using hA9x) hk9)
      have HO9 := Lib.hid (HO2.out.1.kept hk9 fun j hj e => HO2.out.2 (e ▸ hj))
      clear hA9x hk9
      refine hK.out _ _ (HSS2.out _ HN9.out.gk) (fun hHeld => ?_)
      clear hK K
      refine tkq 14 (some 14) (v := ?_) rfl (Or.inl ⟨by rfl, ?_⟩) (by assumption) ?_
      rotate_left
      · intro w hSw; (try dsimp only at hSw); go_simp; first | done | (with_reducible rfl)
      simp only [Act.put, List.setIfInBounds_toArray, List.set_cons_zero, List.set_cons_succ]
      refine wpAnyH_done (by kernel_rfl) ?_ _
      go_wp2_with fail
      go_meet
      exact ⟨gf2, L2, v2, bs2, _, rfl, rfl, Lib.hid ⟨HNG2.out, HN9.out, HO9.out⟩⟩
  case rest =>
  obtain ⟨gf2, L2, v2, bs2, B2, rfl, rfl, HNN⟩ := hcut
  have HN3 := Lib.hid HNN.out.2.1
  have HLF2 := Lib.hid HNN.out.1.len
  have hsm := nxg_sameC HOK.out.1 HOK.out.2.1 (by have := HOK.out.2.2; omega) HNG.out HNN.out.1 HN3.out.sv.own HNN.out.2.2
  have HSM := Lib.hid hsm.1
  obtain ⟨my, dy, hLFy, hty⟩ := hsm.2
  have HTY := Lib.hid hty
  have HLFE := Lib.hid hLFy
  have HGF : Hid (∀ b, (G3 R g pw tv b ∨ b = gf) → wc.heap[b]? = Y2.heap[b]?) := Lib.hid HN3.out.gk
  have zA : At wc gf 51 LF := (HGF.out gf (.inr rfl)).trans HN2.out.at_
  have zB := HN3.out.at_
  have zw := HSG.out wc (fun b hb => (HGF.out b (.inl hb)).trans (HN2.out.gk b hb))
  have hyy : (yes != yes) = false := by simp
  clear hsm hLFy hty HSS2 H2 HS2
  go_upto_region 6 with (first
    | ((with_reducible refine at_ld ?_); first | refine ld_fr_g gf _ (by rfl) (by rfl) zA HLF.out.1 ?_ | refine ld_fr_g gf2 _ (by rfl) (by rfl) zB HLF2.out.1 ?_)
    | (go_at_call 24; (with_reducible refine HSM.out.mono ?_); rintro e w5 ⟨rfl, hb5⟩; have HB5 := Lib.hid hb5; clear hb5)
    | fail)
  have hsv5 := HN3.out.sv.plus HB5.out (G' := fun b => (G3 R g pw tv b ∨ b = gf) ∨ b = gf2) (fun b hb => .inl hb)
  have hgk5 : ∀ b, G3 R g pw tv b → w5.heap[b]? = Y.heap[b]? := fun b hb => ((HB5.out.block b (HN3.out.sv.Glt b (.inl (.inl hb)))).trans (HGF.out b (.inl hb))).trans (HN2.out.gk b hb)
  obtain ⟨O5, fr5, dd5, hwo, hrk⟩ := HBACK.out w5 X' _ v bs hsv5 (fun b hb => .inl (.inl hb)) hgk5 HNG.out.nx.1
  have HWO := Lib.hid hwo
  have HRK := Lib.hid hrk
  have HNX := Lib.hid HNG.out.nx
  have zA5 : Hid (At w5 gf 51 LF) := Lib.hid (zA.below HB5.out zA.lt)
  have hgp : Hid (gf ≠ pw) := Lib.hid (fun e => HN2.out.nf (e ▸ .inr (.inl rfl)))
  have hgt : Hid (tv.ownBlock ≠ some gf) := Lib.hid (fun e => HN2.out.nf (.inr (.inr (.inl e))))
  clear hsv5 hgk5 hwo hrk zA zB zw hyy HSM HBACK HN2 HN3 HNN HGF
  cases yes with
  | false =>
    clear HLFE
    have HDS : Hid (∀ w', Wo R w0 w' q p qm pw O5 X' fr5 dd5 tv L → Below w5.heap.size w5 w' → DoP R W w0 q p qm pw X k w') := Lib.hid (fun w' hw hb => ⟨X', HNX.out, ⟨O5, fr5, dd5, tv, L, hw, by have := HLK.out.1; omega⟩, fun b hb' => (hb.block b (HWO.out.tw.Glt b (.inr (.inr hb')))).trans (HRK.out b hb')⟩)
    have HSA := Lib.hid HWO.out.same
    go_wp2_with (first | (go_at_call 25; (with_reducible refine HSA.out.mono ?_); rintro e w6 ⟨rfl, hw6, hb6⟩; have HD6 := Lib.hid (HDS.out _ hw6 hb6); clear hw6 hb6) | fail)
    go_ret
    exact ⟨by first | rfl | simp, HD6.out⟩
  | true =>
    obtain ⟨Y5, hY5⟩ : ∃ Y5, w5.drew = Y5 := ⟨_, rfl⟩
    have hB5 : Below w5.heap.size w5 Y5 := by rw [← hY5]; exact belowN (Below.refl _ _) 1
    have hwoY := HWO.out.below hB5
    have hAY5 := zA5.out.below hB5 zA5.out.lt
    have t2 : Y5.cell? ⟨pw, 2, none⟩ = some tv := by rw [hwoY.at_.cell]; rfl
    have HR5 : Hid (Y5.rangeAt gf 0 LF) := Lib.hid (fun j v hv => by rw [Nat.zero_add, hAY5.cell]; exact hv)
    have HXY := Lib.hid hwoY
    have HAY := Lib.hid hAY5
    have HRY : Hid (∀ b, R b → Y5.heap[b]? = W.heap[b]?) := Lib.hid (fun b hb => (hB5.block b (HWO.out.tw.Glt b (.inr (.inr hb)))).trans (HRK.out b hb))
    have hl9 := HLK.out
    clear hwoY hAY5 hB5 HRK HWO zA5
    go_upto_region 7 with fail
    refine wp_region_held_drew (S := (fun w => w.rangeAt gf 0 LF)) (by kernel_rfl) (by rw [hY5]; exact HR5.out) (fun hHeld => ?_)
    rw [hY5] at hHeld ⊢
    clear hY5
    refine tkq 0 (some 51) (v := ?_) rfl (Or.inl ⟨by rfl, ?_⟩) (by assumption) ?_
    rotate_left
    · intro w hSw; (try dsimp only at hSw); go_simp; first | done | (with_reducible rfl)
    simp only [Act.put, List.setIfInBounds_toArray, List.set_cons_zero, List.set_cons_succ]
    refine tkq 1 (some 52) (v := ?_) rfl (Or.inl ⟨by rfl, ?_⟩) (by assumption) ?_
    rotate_left
    · intro w hSw; (try dsimp only at hSw); go_simp; first | done | (with_reducible rfl)
    simp only [Act.put, List.setIfInBounds_toArray, List.set_cons_zero, List.set_cons_succ]
    refine tkq 2 (some 53) (v := ?_) rfl (Or.inl ⟨by rfl, ?_⟩) (by assumption) ?_
    rotate_left
    · intro w hSw; (try dsimp only at hSw); go_simp; first | done | (with_reducible rfl)
    simp only [Act.put, List.setIfInBounds_toArray, List.set_cons_zero, List.set_cons_succ]
    refine tkq 3 (some 54) (v := ?_) rfl (Or.inl ⟨by rfl, ?_⟩) (by assumption) ?_
    rotate_left
    · intro w hSw; (try dsimp only at hSw); go_simp; first | done | (with_reducible rfl)
    simp only [Act.put, List.setIfInBounds_toArray, List.set_cons_zero, List.set_cons_succ]
    refine tkq 5 (some 56) (v := ?_) rfl ?_ (by assumption) ?_
    rotate_left
    · refine yl_any 51 (.tmp 11) ?_ gf 0 ?_ LF _ ?_ Tryz.underlying51 rfl ?_ ?_
      · rfl
      · rfl
      · intro w hSw; exact (by simpa using hSw)
      · rw [HLF.out.1]; exact fr_info
      · rfl
    simp only [Act.put, List.setIfInBounds_toArray, List.set_cons_zero, List.set_cons_succ]
    refine wpAnyH_ready (rs := [4, 6]) (by kernel_rfl) (by simp) ?_
    refine AllReadyH.cons rfl (fun K hK => ?_) (AllReadyH.cons rfl (fun K hK => ?_) (AllReadyH.nil))
    · go_simp
      go_wp2_with fail
      refine hK.out _ _ (HR5.out) (fun hHeld => ?_)
      clear hK K
      refine wpAnyH_ready (rs := [6]) (by kernel_rfl) (by simp) ?_
      refine AllReadyH.cons rfl (fun K hK => ?_) AllReadyH.nil
      have hB6 : Below Y5.heap.size Y5 (Y5.alloc (.cells LF.toArray 51)) := (Below.refl _ _).alloc (Nat.le_refl _) _
      have hA6 := At.new Y5 51 LF
      obtain ⟨g6, hg6⟩ : ∃ g6, Y5.heap.size = g6 := ⟨_, rfl⟩
      obtain ⟨W6, hW6⟩ : ∃ W6, Y5.alloc (.cells LF.toArray 51) = W6 := ⟨_, rfl⟩
      have HX6 := Lib.hid (HXY.out.below hB6)
      have HAg6 := Lib.hid (HAY.out.below hB6 HAY.out.lt)
      have HRY6 : Hid (∀ b, R b → (Y5.alloc (.cells LF.toArray 51)).heap[b]? = W.heap[b]?) := Lib.hid (fun b hb => (hB6.block b (HXY.out.tw.Glt b (.inr (.inr hb)))).trans (HRY.out b hb))
      rw [hW6] at HX6 hA6 HAg6 HRY6
      rw [hg6] at hA6
      have HA6 := Lib.hid hA6
      refine step_bsq LF g6 hg6.symm (by rfl) HLF.out.1 ?_
      rw [hW6]
      clear hB6 hA6 hW6 hg6
      have t26 : W6.cell? ⟨pw, 2, none⟩ = some tv := by rw [HX6.out.at_.cell]; rfl
      have hr6 : W6.rangeAt gf 0 LF := fun j v hv => by rw [Nat.zero_add, HAg6.out.cell]; exact hv
      refine hK.out _ _ (hr6) (fun hHeld => ?_)
      clear hK K
      refine wpAnyH_ready (rs := [7]) (by kernel_rfl) (by simp) ?_
      refine AllReadyH.cons rfl (fun K hK => ?_) AllReadyH.nil
      refine step_append_fq (by rfl) (.tmp 55) (.tmp 57) (by rfl) w0.heap.size tv L (by rfl) HX6.out.own g6 1 (my, dy) (by rfl) (by rw [← HLFE.out]; exact HA6.out) (by omega) HX6.out.tw.bl.size ?_
      intro v9 w9 ho9 hg9 hv9
      obtain ⟨A9, c9, hve, _, _⟩ := ho9.shape
      obtain ⟨n9, hn9⟩ : ∃ n9, (L ++ [(my, dy)]).length = n9 := ⟨_, rfl⟩
      rw [hn9] at hve
      subst hve
      clear hn9
      have k9 : Kept (fun j => tv.ownBlock = some j) W6 w9 := Kept.of_grown hg9 (fun k hk => .inl hk)
      have hT := HX6.out.told ho9 hg9 hv9 (by rw [HNX.out.1]; exact HTY.out)
      have HT := Lib.hid hT
      have hP9 := HX6.out.at_.kept k9 (fun e => HX6.out.pwn pw e rfl)
      have HAg9 := Lib.hid (HAg6.out.kept k9 hgt.out)
      have c2 : w9.cell? ⟨pw, 2, none⟩ = some tv := by rw [hP9.cell]; rfl
      have f2 : w9.frozen? ⟨pw, 2, none⟩ = false := hP9.frozen 2
      clear hT hP9 k9 ho9 hg9 hv9
      have hr9 : w9.rangeAt gf 0 LF := fun j v hv => by rw [Nat.zero_add, HAg9.out.cell]; exact hv
      refine hK.out _ _ (hr9) (fun hHeld => ?_)
      clear hK K
      refine tkq 8 (some 59) (v := ?_) rfl (Or.inl ⟨by rfl, ?_⟩) (by assumption) ?_
      rotate_left
      · intro w hSw; (try dsimp only at hSw); go_simp; first | done | (with_reducible rfl)
      simp only [Act.put, List.setIfInBounds_toArray, List.set_cons_zero, List.set_cons_succ]
      refine tkq 9 (some 60) (v := ?_) rfl (Or.inl ⟨by rfl, ?_⟩) (by assumption) ?_
      rotate_left
      · intro w hSw; (try dsimp only at hSw); go_simp; first | done | (with_reducible rfl)
      simp only [Act.put, List.setIfInBounds_toArray, List.set_cons_zero, List.set_cons_succ]
      refine wpAnyH_ready (rs := [10]) (by kernel_rfl) (by simp) ?_
      refine AllReadyH.cons rfl (fun K hK => ?_) AllReadyH.nil
      go_simp
      go_wp2_with fail
      have hr10 : (w9.setCell ⟨pw, 2, none⟩ (.slice A9 n9 c9)).rangeAt gf 0 LF := fun j v hv => by rw [Nat.zero_add, (HAg9.out.set_other (q := ⟨pw, 2, none⟩) (fun e => hgp.out e.symm) (.slice A9 n9 c9)).cell]; exact hv
      refine hK.out _ _ (hr10) (fun hHeld => ?_)
      clear hK K
      refine wpAnyH_done (by kernel_rfl) ?_ _
      have HDS : Hid (∀ w', Wo R w0 w' q p qm pw O5 X' fr5 dd5 (.slice A9 n9 c9) (L ++ [(my, dy)]) → Below (w9.setCell ⟨pw, 2, none⟩ (.slice A9 n9 c9)).heap.size (w9.setCell ⟨pw, 2, none⟩ (.slice A9 n9 c9)) w' → DoP R W w0 q p qm pw X k w') := Lib.hid (fun w' hw hb => ⟨X', HNX.out, ⟨O5, fr5, dd5, _, _, hw, by have := HLK.out.1; simp; omega⟩, fun b hb' => ((hb.block b (HT.out.1.tw.Glt b (.inr (.inr hb')))).trans (HT.out.2 b hb')).trans (HRY6.out b hb')⟩)
      have HSA := Lib.hid HT.out.1.same
      go_wp2_with (first | (go_at_call 25; (with_reducible refine HSA.out.mono ?_); rintro e w6 ⟨rfl, hw6, hb6⟩; have HD6 := Lib.hid (HDS.out _ hw6 hb6); clear hw6 hb6) | fail)
      go_ret
      exact ⟨by first | rfl | simp, HD6.out⟩
    · have hB6 : Below Y5.heap.size Y5 (Y5.alloc (.cells LF.toArray 51)) := (Below.refl _ _).alloc (Nat.le_refl _) _
      have hA6 := At.new Y5 51 LF
      obtain ⟨g6, hg6⟩ : ∃ g6, Y5.heap.size = g6 := ⟨_, rfl⟩
      obtain ⟨W6, hW6⟩ : ∃ W6, Y5.alloc (.cells LF.toArray 51) = W6 := ⟨_, rfl⟩
      have HX6 := Lib.hid (HXY.out.below hB6)
      have HAg6 := Lib.hid (HAY.out.below hB6 HAY.out.lt)
      have HRY6 : Hid (∀ b, R b → (Y5.alloc (.cells LF.toArray 51)).heap[b]? = W.heap[b]?) := Lib.hid (fun b hb => (hB6.block b (HXY.out.tw.Glt b (.inr (.inr hb)))).trans (HRY.out b hb))
      rw [hW6] at HX6 hA6 HAg6 HRY6
      rw [hg6] at hA6
      have HA6 := Lib.hid hA6
      refine step_bsq LF g6 hg6.symm (by rfl) HLF.out.1 ?_
      rw [hW6]
      clear hB6 hA6 hW6 hg6
      have t26 : W6.cell? ⟨pw, 2, none⟩ = some tv := by rw [HX6.out.at_.cell]; rfl
      have hr6 : W6.rangeAt gf 0 LF := fun j v hv => by rw [Nat.zero_add, HAg6.out.cell]; exact hv
      refine hK.out _ _ (hr6) (fun hHeld => ?_)
      clear hK K
      refine wpAnyH_ready (rs := [4]) (by kernel_rfl) (by simp) ?_
      refine AllReadyH.cons rfl (fun K hK => ?_) AllReadyH.nil
      go_simp
      go_wp2_with fail
      refine hK.out _ _ (hr6) (fun hHeld => ?_)
      clear hK K
      refine wpAnyH_ready (rs := [7]) (by kernel_rfl) (by simp) ?_
      refine AllReadyH.cons rfl (fun K hK => ?_) AllReadyH.nil
      refine step_append_fq (by rfl) (.tmp 55) (.tmp 57) (by rfl) w0.heap.size tv L (by rfl) HX6.out.own g6 1 (my, dy) (by rfl) (by rw [← HLFE.out]; exact HA6.out) (by omega) HX6.out.tw.bl.size ?_
      intro v9 w9 ho9 hg9 hv9
      obtain ⟨A9, c9, hve, _, _⟩ := ho9.shape
      obtain ⟨n9, hn9⟩ : ∃ n9, (L ++ [(my, dy)]).length = n9 := ⟨_, rfl⟩
      rw [hn9] at hve
      subst hve
      clear hn9
      have k9 : Kept (fun j => tv.ownBlock = some j) W6 w9 := Kept.of_grown hg9 (fun k hk => .inl hk)
      have hT := HX6.out.told ho9 hg9 hv9 (by rw [HNX.out.1]; exact HTY.out)
      have HT := Lib.hid hT
      have hP9 := HX6.out.at_.kept k9 (fun e => HX6.out.pwn pw e rfl)
      have HAg9 := Lib.hid (HAg6.out.kept k9 hgt.out)
      have c2 : w9.cell? ⟨pw, 2, none⟩ = some tv := by rw [hP9.cell]; rfl
      have f2 : w9.frozen? ⟨pw, 2, none⟩ = false := hP9.frozen 2
      clear hT hP9 k9 ho9 hg9 hv9
      have hr9 : w9.rangeAt gf 0 LF := fun j v hv => by rw [Nat.zero_add, HAg9.out.cell]; exact hv
      refine hK.out _ _ (hr9) (fun hHeld => ?_)
      clear hK K
      refine tkq 8 (some 59) (v := ?_) rfl (Or.inl ⟨by rfl, ?_⟩) (by assumption) ?_
      rotate_left
      · intro w hSw; (try dsimp only at hSw); go_simp; first | done | (with_reducible rfl)
      simp only [Act.put, List.setIfInBounds_toArray, List.set_cons_zero, List.set_cons_succ]
      refine tkq 9 (some 60) (v := ?_) rfl (Or.inl ⟨by rfl, ?_⟩) (by assumption) ?_
      rotate_left
      · intro w hSw; (try dsimp only at hSw); go_simp; first | done | (with_reducible rfl)
      simp only [Act.put, List.setIfInBounds_toArray, List.set_cons_zero, List.set_cons_succ]
      refine wpAnyH_ready (rs := [10]) (by kernel_rfl) (by simp) ?_
      refine AllReadyH.cons rfl (fun K hK => ?_) AllReadyH.nil
      go_simp
      go_wp2_with fail
      have hr10 : (w9.setCell ⟨pw, 2, none⟩ (.slice A9 n9 c9)).rangeAt gf 0 LF := fun j v hv => by rw [Nat.zero_add, (HAg9.out.set_other (q := ⟨pw, 2, none⟩) (fun e => hgp.out e.symm) (.slice A9 n9 c9)).cell]; exact hv
      refine hK.out _ _ (hr10) (fun hHeld => ?_)
      clear hK K
      refine wpAnyH_done (by kernel_rfl) ?_ _
      have HDS : Hid (∀ w', Wo R w0 w' q p qm pw O5 X' fr5 dd5 (.slice A9 n9 c9) (L ++ [(my, dy)]) → Below (w9.setCell ⟨pw, 2, none⟩ (.slice A9 n9 c9)).heap.size (w9.setCell ⟨pw, 2, none⟩ (.slice A9 n9 c9)) w' → DoP R W w0 q p qm pw X k w') := Lib.hid (fun w' hw hb => ⟨X', HNX.out, ⟨O5, fr5, dd5, _, _, hw, by have := HLK.out.1; simp; omega⟩, fun b hb' => ((hb.block b (HT.out.1.tw.Glt b (.inr (.inr hb')))).trans (HT.out.2 b hb')).trans (HRY6.out b hb')⟩)
      have HSA := Lib.hid HT.out.1.same
      go_wp2_with (first | (go_at_call 25; (with_reducible refine HSA.out.mono ?_); rintro e w6 ⟨rfl, hw6, hb6⟩; have HD6 := Lib.hid (HDS.out _ hw6 hb6); clear hw6 hb6) | fail)
      go_ret
      exact ⟨by first | rfl | simp, HD6.out⟩
end
end Go.Proofs.YtbejpafephofaaaGreat
