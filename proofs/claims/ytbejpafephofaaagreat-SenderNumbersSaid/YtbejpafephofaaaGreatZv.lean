/-
  do: Acked, Lost.
-/
import Derived.Test.YtbejpafephofaaaGreatZu
namespace Go.Proofs.YtbejpafephofaaaGreat
set_option linter.unusedVariables false
set_option linter.unusedSimpArgs false
open Go.RowKit
theorem Full.less {w0 Y w3 : World} {q p qm : Nat} {X' : SS} {G G' : Nat → Prop} (h : Full w0 Y w3 q p qm X' G) (hG : ∀ b, G' b → G b) : Full w0 Y w3 q p qm X' G' := by
  obtain ⟨O', fr', dd', ht, hk, hs⟩ := h
  exact ⟨O', fr', dd', ht.less hG, fun b hb => hk b (hG b hb), hs⟩
def G4 (R : Nat → Prop) (f g pw : Nat) (tv : Value) (b : Nat) : Prop := b = f ∨ G3 R g pw tv b
theorem turn_zero (id : Nat) (h : id ≠ 0) : TurnOk id (FN.zero 0) .nil := .inl (.inl (fun e => h (by have e' : (0 : Int) = (id : Int) := e; omega)))
section
variable {w0 W : World} {q p qm pw k : Nat} {O R : Nat → Prop} {X : SS} {fr : List Value} {dd : Bool} {tv : Value} {L : List (FN × Sl)} {kd room ii : Int} {n m c : Nat} {A : Option Addr}

set_option maxRecDepth 100000 in
set_option maxHeartbeats 8000000 in
theorem do_turn8 (h : Wo R w0 W q p qm pw O X fr dd tv L) (hk : L.length ≤ k) (hii : I64 ii) (hid : X.id ≠ 0) (hL : X.o.bs.length ≤ 700000) (hk2 : k ≤ 1000000) : Calls Tryz.prog 6 #[.pointer (some ⟨pw, 0, none⟩), .agg (askL 8 room ii n A m c).toArray] W fun e w' => e = .returned (.bool true) ∧ DoP R W w0 q p qm pw X k w' := by
  obtain ⟨g, W1, hg, hW1, hA1, hB1, hgl, hpg, hGl, p0, p1, p2⟩ := do_box h (askL 8 room ii n A m c)
  have HKE := Lib.hid (fun (w2 : World) hk => do_keep (w2 := w2) h hB1 hA1 hk)
  have a0 : W1.cell? ⟨g, 0, none⟩ = some (.int .i64 8) := by rw [hA1.cell]; rfl
  obtain ⟨tA, tc, htv, htl, htc⟩ := h.own.shape
  obtain ⟨nt, hnt⟩ : ∃ nt, L.length = nt := ⟨_, rfl⟩
  rw [hnt] at htv htl
  have hnt2 : nt ≤ 1000000 := by omega
  have HF0 := Lib.hid (fun (W : World) => kframe_zero W)
  unfold zKF at HF0
  -- behind the choice
  have HCH : Hid (∀ (wc : World) (gf : Nat) (m : FN) (d : Sl), W1.heap.size ≤ gf → gf < wc.heap.size → Below W1.heap.size W1 wc → At wc gf 51 (frL m d .nil) → TurnOk X.id m d →
      ∃ X', Nx X X' ∧ Calls Tryz.prog 19 #[.pointer (some ⟨q, 0, none⟩), .agg (frL m d .nil).toArray] wc.drew (fun e w1 => e = .returned (.tuple #[]) ∧ Half w0 wc.drew w1 q p qm O X X' fr dd (G4 R gf g pw tv)) ∧
      ∀ w1, Half w0 wc.drew w1 q p qm O X X' fr dd (G4 R gf g pw tv) → Calls Tryz.prog 21 #[.pointer (some ⟨qm, 0, none⟩), .agg (frL m d .nil).toArray, .bool true] w1.drew (fun e w2 => e = .returned (.tuple #[]) ∧ Full w0 wc.drew w2 q p qm X' (G4 R gf g pw tv))) := Lib.hid (fun wc gf m d e1 e2 e3 e4 e5 => by
    have hb : Below W.heap.size W wc.drew := belowN (hB1.trans (e3.mono (by omega))) 1
    have ht : Tw w0 wc.drew q p qm O X fr dd (G4 R gf g pw tv) := h.tw.plus hb fun b hb => by
      have e2' : gf < wc.drew.heap.size := e2
      rcases hb with rfl | rfl | hb
      · exact .inr ⟨by omega, e2'⟩
      · exact .inr ⟨by omega, by omega⟩
      · exact .inl hb
    obtain ⟨X', x1, x2, x3⟩ := two_acked ht hL m d .nil e5
    exact ⟨X', x1, x2, fun w1 hH => x3 w1.drew (hH.drewN 1)⟩)
  have HDS := Lib.hid (fun (wc : World) (gf : Nat) (X' : SS) (w3 : World) (hN : Nx X X') (hb : Below W1.heap.size W1 wc) (hF : Full w0 wc.drew w3 q p qm X' (G4 R gf g pw tv)) => do_same (k := k) (X' := X') (w3 := w3) (g := g) h hk (belowN (hB1.trans (hb.mono (by omega))) 1) hN (hF.less fun b hb => .inr hb))
  have HTZ := Lib.hid (turn_zero X.id hid)
  have HOK : Hid (∀ (i : Nat), i < nt → ∃ gA md dd', tA = some ⟨gA, 0, none⟩ ∧ W.rangeAt gA (i * 19) (frL md dd' .nil) ∧ gA < W.heap.size ∧ TurnOk X.id md dd') := Lib.hid (fun i hi => by
    obtain ⟨y, hy⟩ : ∃ y, L[i]? = some y := ⟨_, List.getElem?_eq_getElem (by omega)⟩
    have ho := h.own
    rw [htv] at ho
    obtain ⟨gA, hgA, hr⟩ := ho.get i y hy
    refine ⟨gA, y.1, y.2, hgA, hr, (ho.block_lt gA (by rw [hgA]; rfl)).2, h.ok y (List.mem_of_getElem? hy)⟩)
  have HG1 := Lib.hid hgl
  have HB1 := Lib.hid hB1
  have HSZ : Hid (W.heap.size ≤ W1.heap.size) := Lib.hid hB1.size
  have a2 : W1.cell? ⟨g, 2, none⟩ = some (.int .i64 ii) := by rw [hA1.cell]; rfl
  have HPW : Hid (pw < W1.heap.size) := Lib.hid (hGl pw (.inr (.inl rfl)))
  have HA1 := Lib.hid hA1
  have HP1 : Hid (At W1 pw 31 [.pointer (some ⟨q, 0, none⟩), .pointer (some ⟨qm, 0, none⟩), tv]) := Lib.hid (HKE.out W1 (fun _ _ => rfl)).1
  have HFC : Hid (W1.cell? ⟨g, 5, none⟩ = some (.int .i64 0) ∧ W1.cell? ⟨g, 6, none⟩ = some (.int .u64 0) ∧ W1.cell? ⟨g, 7, none⟩ = some (.int .u64 0) ∧ W1.cell? ⟨g, 8, none⟩ = some (.int .u64 0) ∧ W1.cell? ⟨g, 9, none⟩ = some (.slice none 0 0) ∧ W1.cell? ⟨g, 10, none⟩ = some (.bool false) ∧ W1.cell? ⟨g, 11, none⟩ = some (.slice none 0 0) ∧ W1.cell? ⟨g, 12, none⟩ = some (.int .i64 0)) := Lib.hid (by
    refine ⟨?_, ?_, ?_, ?_, ?_, ?_, ?_, ?_⟩ <;> (rw [hA1.cell]; rfl))
  have hf := HFC.out
  clear HFC h hA1 hB1 hGl hid hL hk hnt
  subst htv
  unfold askL at hW1 HA1 HKE ⊢
  go_enter Tryz.func6, Tryz.ntmps6
  go_upto_region 1 with fail
  (try rw [hg])
  (try rw [hW1])
  go_upto_region 27 with (first
    | (go_at_call 17; (with_reducible refine (HF0.out _).mono ?_); rintro e w5 ⟨rfl, hb5⟩; have HB5 := Lib.hid hb5; clear hb5)
    | ((with_reducible refine at_st (x := .tmp 10) ?_); refine st_top w5 (frL (FN.zero 0) .nil .nil) (frL (FN.zero 0) .nil .nil) (by rfl) _ (by rfl) (by rfl) (by rfl) rfl rfl (by rfl) ?_)
    | fail)
  (try simp only [Act.put])
  have hA6 := At.new w5 51 (frL (FN.zero 0) .nil .nil)
  have hB6 : Below W1.heap.size W1 (w5.alloc (.cells (frL (FN.zero 0) .nil .nil).toArray 51)) := HB5.out.alloc HB5.out.size _
  have h65 := HB5.out.size
  have hs6 : w5.heap.size < (w5.alloc (.cells (frL (FN.zero 0) .nil .nil).toArray 51)).heap.size := by simp
  generalize w5.alloc (.cells (frL (FN.zero 0) .nil .nil).toArray 51) = w6 at hA6 hB6 hs6 ⊢
  generalize w5.heap.size = gf at hA6 hB6 hs6 h65 ⊢
  have HA6 := Lib.hid hA6
  have HB6 := Lib.hid hB6
  have HGF := Lib.hid h65
  have HSF := Lib.hid hs6
  have q0 : w6.cell? ⟨pw, 0, none⟩ = some (.pointer (some ⟨q, 0, none⟩)) := (hB6.cell (p := ⟨pw, 0, none⟩) HPW.out).trans p0
  have q1 : w6.cell? ⟨pw, 1, none⟩ = some (.pointer (some ⟨qm, 0, none⟩)) := (hB6.cell (p := ⟨pw, 1, none⟩) HPW.out).trans p1
  have q2 : w6.cell? ⟨pw, 2, none⟩ = some (.slice tA nt tc) := (hB6.cell (p := ⟨pw, 2, none⟩) HPW.out).trans p2
  have q3 : w6.cell? ⟨g, 2, none⟩ = some (.int .i64 ii) := (hB6.cell (p := ⟨g, 2, none⟩) HG1.out).trans a2
  have q4 : w6.cell? ⟨g, 0, none⟩ = some (.int .i64 8) := (hB6.cell (p := ⟨g, 0, none⟩) HG1.out).trans a0
  clear hA6 hB6 h65 hs6 HB5 p0 p1 p2 a2 a0 hf HF0
  obtain ⟨z, hzz⟩ : ∃ z, ii.tmod 4 = z := ⟨_, rfl⟩
  have wz : IntKind.i64.wrap z = z := by
    have hzb : -4 < z ∧ z < 4 := by rw [← hzz]; have := Int.tmod_lt_of_pos ii (show (0 : Int) < 4 by decide); have := Int.lt_tmod_of_pos ii (show (0 : Int) < 4 by decide); omega
    rw [IntKind.wrap_i64]; omega
  obtain ⟨bv, hbv⟩ : ∃ bv : Bool, bv = (decide (0 < nt) && (z != 0)) := ⟨_, rfl⟩
  have HBV := Lib.hid hbv
  clear hbv
  go_cut [167] from 156 to 168 (fun s167 wc => s167 = .bool bv ∧ wc = w6)
  case first =>
    clear HCH HDS HOK
    rcases Nat.eq_zero_or_pos nt with hn0 | hn0
    · subst hn0
      have HE : Hid (bv = false) := Lib.hid (by rw [HBV.out]; rfl)
      clear HBV
      go_wp2_with fail
      go_meet
      exact ⟨by rw [HE.out], rfl⟩
    · have hz : (0 : Int) < (nt : Int) := by omega
      cases hz0 : (z != 0) with
      | false =>
        have HE : Hid (bv = false) := Lib.hid (by rw [HBV.out, hz0, Bool.and_false])
        clear HBV
        go_wp2_with fail
        go_meet
        exact ⟨by rw [HE.out], rfl⟩
      | true =>
        have HE : Hid (bv = true) := Lib.hid (by rw [HBV.out, hz0, decide_eq_true hn0]; rfl)
        clear HBV
        go_wp2_with fail
        go_meet
        exact ⟨by rw [HE.out], rfl⟩
  case rest =>
  obtain ⟨rfl, hwc⟩ := hcut
  rw [hwc]
  clear hwc
  go_upto_if 167 with fail
  go_cut [10] from 168 to 183 (fun s10 wc => ∃ (m : FN) (d : Sl), s10 = .pointer (some ⟨gf, 0, none⟩) ∧ Hid (Below W1.heap.size W1 wc ∧ gf < wc.heap.size ∧ At wc gf 51 (frL m d .nil) ∧ TurnOk X.id m d))
  case first =>
    clear HCH HDS wz hzz
    cases bv with
    | false =>
        go_wp2_with fail
        go_meet
        exact ⟨FN.zero 0, .nil, rfl, Lib.hid ⟨HB6.out, HSF.out, HA6.out, HTZ.out⟩⟩
    | true =>
        have hn0 : 0 < nt := by
          have := HBV.out
          rcases Nat.eq_zero_or_pos nt with h | h
          · subst h; simp at this
          · exact h
        have hz : (0 : Int) < (nt : Int) := by omega
        clear HBV
        obtain ⟨n1, hn1⟩ : ∃ n1, nt = n1 + 1 := ⟨nt - 1, by omega⟩
        have zn1 : (nt : Int) - 1 = (n1 : Int) := by omega
        have wn1 : IntKind.i64.wrap (n1 : Int) = (n1 : Int) := by rw [IntKind.wrap_i64]; omega
        have hwb := withinS_bd ii 0 (n1 : Int) (by omega)
        obtain ⟨jn, hjn⟩ : ∃ jn : Nat, withinS ii 0 (n1 : Int) = (jn : Int) := ⟨(withinS ii 0 (n1 : Int)).toNat, by omega⟩
        have hjl : jn < nt := by omega
        have hjz : (jn : Int) < (nt : Int) := by omega
        have HWI : Hid (∀ W : World, Calls Tryz.prog 18 #[.int .i64 ii, .int .i64 0, .int .i64 n1] W fun e w' => e = .returned (.int .i64 jn) ∧ W = w') := Lib.hid (fun W => by
          have := within_any ii 0 (n1 : Int) W hii.1 (by have := hii.2; omega) (by decide) (by omega) (by omega)
          rw [hjn] at this
          exact this)
        obtain ⟨gA, md, dl, rfl, hr, hgA, htk⟩ := HOK.out jn hjl
        have HTK := Lib.hid htk
        obtain ⟨LF, hLF⟩ : ∃ LF, frL md dl .nil = LF := ⟨_, rfl⟩
        have HFl : Hid (LF.length = 19) := Lib.hid (by rw [← hLF]; rfl)
        have HFo : Hid (LF.all (·.oneCell') = true) := Lib.hid (by rw [← hLF]; rfl)
        have hb6 : Below W.heap.size W w6 := HB1.out.trans (HB6.out.mono HSZ.out)
        have hr6 : w6.rangeAt gA (jn * 19) LF := fun i v hv => (hb6.cell (p := ⟨gA, jn * 19 + i, none⟩) hgA).trans (hr i v (by rw [hLF]; exact hv))
        have HLF := Lib.hid hLF
        obtain ⟨Y5, hY5⟩ : ∃ Y5, w6.drew = Y5 := ⟨_, rfl⟩
        have HS5 : Hid (Y5.cell? ⟨pw, 2, none⟩ = some (.slice (some ⟨gA, 0, none⟩) nt tc) ∧ Y5.cell? ⟨g, 2, none⟩ = some (.int .i64 ii) ∧ Y5.rangeAt gA (jn * 19) LF) := Lib.hid (by rw [← hY5]; exact ⟨q2, q3, hr6⟩)
        have HA5 : Hid (At Y5 gf 51 (frL (FN.zero 0) .nil .nil)) := Lib.hid (by rw [← hY5]; exact HA6.out.drewN 1)
        have HB5 : Hid (Below W1.heap.size W1 Y5 ∧ gf < Y5.heap.size ∧ W1.heap.size ≤ Y5.heap.size) := Lib.hid (by rw [← hY5]; exact ⟨belowN HB6.out 1, HSF.out, HB6.out.size⟩)
        have HKS : Hid (∀ w9, Kept (· = gf) Y5 w9 → w9.cell? ⟨pw, 2, none⟩ = some (.slice (some ⟨gA, 0, none⟩) nt tc) ∧ w9.cell? ⟨g, 2, none⟩ = some (.int .i64 ii) ∧ w9.rangeAt gA (jn * 19) LF) := Lib.hid (fun w9 hk9 => by
          have e1 := HPW.out
          have e2 := HG1.out
          have e3 := HGF.out
          have e4 := HSZ.out
          have e5 := HB5.out.2.2
          obtain ⟨s1, s2, s3⟩ := HS5.out
          exact ⟨(hk9.cell (p := ⟨pw, 2, none⟩) (by show pw < _; omega) (by show ¬ pw = gf; omega)).trans s1, (hk9.cell (p := ⟨g, 2, none⟩) (by show g < _; omega) (by show ¬ g = gf; omega)).trans s2, fun i v hv => (hk9.cell (p := ⟨gA, jn * 19 + i, none⟩) (by show gA < _; omega) (by show ¬ gA = gf; omega)).trans (s3 i v hv)⟩)
        clear hLF hr hr6 hb6 hgA htk hwb hjn hn1 hn0 HOK HTZ
        go_upto_region 28 with fail
        refine wp_region_held_drew (S := (fun w => w.cell? ⟨pw, 2, none⟩ = some (.slice (some ⟨gA, 0, none⟩) nt tc) ∧ w.cell? ⟨g, 2, none⟩ = some (.int .i64 ii) ∧ w.rangeAt gA (jn * 19) LF)) (by kernel_rfl) (by rw [hY5]; exact HS5.out) (fun hHeld => ?_)
        rw [hY5] at hHeld ⊢
        clear hY5
        refine tkq 0 (some 168) (v := ?_) rfl (Or.inl ⟨by rfl, ?_⟩) (by assumption) ?_
        rotate_left
        · intro w hSw; (try dsimp only at hSw); go_simp; first | done | (with_reducible rfl)
        simp only [Act.put, List.setIfInBounds_toArray, List.set_cons_zero, List.set_cons_succ]
        refine tkq 1 (some 169) (v := ?_) rfl (Or.inl ⟨by rfl, ?_⟩) (by assumption) ?_
        rotate_left
        · intro w hSw; (try dsimp only at hSw); go_simp; first | done | (with_reducible rfl)
        simp only [Act.put, List.setIfInBounds_toArray, List.set_cons_zero, List.set_cons_succ]
        refine tkq 2 (some 170) (v := ?_) rfl (Or.inl ⟨by rfl, ?_⟩) (by assumption) ?_
        rotate_left
        · intro w hSw; (try dsimp only at hSw); go_simp; first | done | (with_reducible rfl)
        simp only [Act.put, List.setIfInBounds_toArray, List.set_cons_zero, List.set_cons_succ]
        refine tkq 3 (some 171) (v := ?_) rfl (Or.inl ⟨by rfl, ?_⟩) (by assumption) ?_
        rotate_left
        · intro w hSw; (try dsimp only at hSw); go_simp; first | done | (with_reducible rfl)
        simp only [Act.put, List.setIfInBounds_toArray, List.set_cons_zero, List.set_cons_succ]
        refine tkq 4 (some 172) (v := ?_) rfl (Or.inl ⟨by rfl, ?_⟩) (by assumption) ?_
        rotate_left
        · intro w hSw; (try dsimp only at hSw); go_simp; first | done | (with_reducible rfl)
        simp only [Act.put, List.setIfInBounds_toArray, List.set_cons_zero, List.set_cons_succ]
        refine tkq 5 (some 173) (v := ?_) rfl (Or.inl ⟨by rfl, ?_⟩) (by assumption) ?_
        rotate_left
        · intro w hSw; (try dsimp only at hSw); go_simp; first | done | (with_reducible rfl)
        simp only [Act.put, List.setIfInBounds_toArray, List.set_cons_zero, List.set_cons_succ]
        refine tkq 6 (some 174) (v := ?_) rfl (Or.inl ⟨by rfl, ?_⟩) (by assumption) ?_
        rotate_left
        · intro w hSw; (try dsimp only at hSw); go_simp; first | done | (with_reducible rfl)
        simp only [Act.put, List.setIfInBounds_toArray, List.set_cons_zero, List.set_cons_succ]
        refine tkq 7 (some 175) (v := ?_) rfl (Or.inl ⟨by rfl, ?_⟩) (by assumption) ?_
        rotate_left
        · intro w hSw; (try dsimp only at hSw); go_simp; first | done | (with_reducible rfl)
        simp only [Act.put, List.setIfInBounds_toArray, List.set_cons_zero, List.set_cons_succ]
        refine tkq 8 (some 176) (v := ?_) rfl (Or.inl ⟨by rfl, ?_⟩) (by assumption) ?_
        rotate_left
        · intro w hSw; (try dsimp only at hSw); go_simp; first | done | (with_reducible rfl)
        simp only [Act.put, List.setIfInBounds_toArray, List.set_cons_zero, List.set_cons_succ]
        refine tkq 9 (some 177) (v := ?_) rfl (Or.inl ⟨by rfl, ?_⟩) (by assumption) ?_
        rotate_left
        · intro w hSw; (try dsimp only at hSw); go_simp; first | done | (with_reducible rfl)
        simp only [Act.put, List.setIfInBounds_toArray, List.set_cons_zero, List.set_cons_succ]
        refine tkq 10 (some 178) (v := ?_) rfl (Or.inl ⟨by rfl, ?_⟩) (by assumption) ?_
        rotate_left
        · intro w hSw; (try dsimp only at hSw); go_simp; first | done | (with_reducible rfl)
        simp only [Act.put, List.setIfInBounds_toArray, List.set_cons_zero, List.set_cons_succ]
        refine tkq 11 (some 179) (v := ?_) rfl (Or.inl ⟨by rfl, ?_⟩) (by assumption) ?_
        rotate_left
        · intro w hSw; (try dsimp only at hSw); go_simp; first | done | (with_reducible rfl)
        simp only [Act.put, List.setIfInBounds_toArray, List.set_cons_zero, List.set_cons_succ]
        refine wpAnyH_ready (rs := [12]) (by kernel_rfl) (by simp) ?_
        refine AllReadyH.cons rfl (fun K hK => ?_) AllReadyH.nil
        go_simp
        go_wp2_with (go_at_call 18; (with_reducible refine (HWI.out _).mono ?_); rintro e w8 ⟨rfl, rfl⟩)
        refine hK.out _ _ (HS5.out) (fun hHeld => ?_)
        clear hK K
        refine tkq 13 (some 181) (v := ?_) rfl (Or.inl ⟨by rfl, ?_⟩) (by assumption) ?_
        rotate_left
        · intro w hSw; (try dsimp only at hSw); go_simp; first | done | (with_reducible rfl)
        simp only [Act.put, List.setIfInBounds_toArray, List.set_cons_zero, List.set_cons_succ]
        refine tkq 14 (some 182) (v := ?_) rfl ?_ (by assumption) ?_
        rotate_left
        · refine yl_any 51 (.tmp 181) ?_ gA (jn * 19) ?_ LF _ ?_ Tryz.underlying51 rfl ?_ ?_
          · rfl
          · rfl
          · intro w hSw; exact (by simpa using hSw.2.2)
          · rw [HFl.out]; exact fr_info
          · rfl
        simp only [Act.put, List.setIfInBounds_toArray, List.set_cons_zero, List.set_cons_succ]
        refine wpAnyH_ready (rs := [15]) (by kernel_rfl) (by simp) ?_
        refine AllReadyH.cons rfl (fun K hK => ?_) AllReadyH.nil
        refine step_st_in (by rfl) gf 0 51 _ LF (by rfl) (by rfl) HA5.out (by rw [HFl.out]; exact Nat.le_refl 19) (by rw [HFl.out]; exact fr_info) HFo.out ?_
        intro w9 hA9x hk9
        have HA9 : Hid (At w9 gf 51 LF) := Lib.hid (by rw [HFl.out] at hA9x; simpa [frL] using hA9x)
        have HK9 := Lib.hid hk9
        clear hA9x hk9
        refine hK.out _ _ (HKS.out _ HK9.out) (fun hHeld => ?_)
        clear hK K
        refine wpAnyH_done (by kernel_rfl) ?_ _
        go_wp2_with fail
        go_meet
        exact ⟨md, dl, rfl, Lib.hid ⟨HK9.out.below HB5.out.1 (by have := HB5.out.2.2; omega) (fun j hj => by have := HGF.out; omega), Nat.lt_of_lt_of_le HB5.out.2.1 HK9.out.size, by rw [HLF.out]; exact HA9.out, HTK.out⟩⟩
  case rest =>
    obtain ⟨mf, df, rfl, hC⟩ := hcut
    obtain ⟨hb, hs, hat, htk⟩ := hC.out
    obtain ⟨X', hN, hc1, hc2⟩ := HCH.out wc gf mf df HGF.out hs hb hat htk
    have HDW := Lib.hid (fun (w3 : World) hF => HDS.out wc gf X' w3 hN hb hF)
    clear hC htk HCH HDS HOK HTZ HA6 HB6 HSF HBV wz hzz q0 q1 q2 q3 q4
    have r0 : wc.cell? ⟨g, 0, none⟩ = some (.int .i64 8) := (hb.cell (p := ⟨g, 0, none⟩) HG1.out).trans (by rw [HA1.out.cell]; rfl)
    generalize hLF : frL mf df .nil = LF at hat hc1 hc2
    have HFl : Hid (LF.length = 19) := Lib.hid (by rw [← hLF]; rfl)
    clear hLF
    have HC1 := Lib.hid hc1
    have HC2 := Lib.hid hc2
    have HSS : Hid (∀ w : World, (∀ b, G4 R gf g pw (.slice tA nt tc) b → w.heap[b]? = wc.heap[b]?) → w.cell? ⟨pw, 0, none⟩ = some (.pointer (some ⟨q, 0, none⟩)) ∧ w.cell? ⟨pw, 1, none⟩ = some (.pointer (some ⟨qm, 0, none⟩)) ∧ w.cell? ⟨g, 0, none⟩ = some (.int .i64 8) ∧ w.rangeAt gf 0 LF) := Lib.hid (fun w hk => by
      have hx : ∀ b, G3 R g pw (.slice tA nt tc) b → b < W1.heap.size → w.heap[b]? = W1.heap[b]? := fun b hb' hl => (hk b (.inr hb')).trans (hb.block b hl)
      have hxg := hx g (.inl rfl) HG1.out
      have hxp := hx pw (.inr (.inl rfl)) HPW.out
      have hA' : At w g 36 _ := hxg.trans HA1.out
      have hP' : At w pw 31 [.pointer (some ⟨q, 0, none⟩), .pointer (some ⟨qm, 0, none⟩), .slice tA nt tc] := hxp.trans HP1.out
      have hF' : At w gf 51 LF := (hk gf (.inl rfl)).trans hat
      exact ⟨by rw [hP'.cell]; rfl, by rw [hP'.cell]; rfl, by rw [hA'.cell]; rfl, fun j v hv => by rw [Nat.zero_add, hF'.cell]; exact hv⟩)
    obtain ⟨Y6, hY6⟩ : ∃ Y6, wc.drew = Y6 := ⟨_, rfl⟩
    rw [hY6] at HC1 HC2 HDW
    have HYW : Hid (∀ b, G4 R gf g pw (.slice tA nt tc) b → Y6.heap[b]? = wc.heap[b]?) := Lib.hid (fun b _ => by rw [← hY6]; rfl)
    have HS6 := HSS.out Y6 HYW.out
    clear hb hs hat hN hc1 hc2
    go_upto_region 30 with fail
    refine wp_region_held_drew (S := (fun w => w.cell? ⟨pw, 0, none⟩ = some (.pointer (some ⟨q, 0, none⟩)) ∧ w.rangeAt gf 0 LF)) (by kernel_rfl) (by rw [hY6]; exact ⟨HS6.1, HS6.2.2.2⟩) (fun hHeld => ?_)
    rw [hY6] at hHeld ⊢
    clear hY6
    refine tkq 0 (some 186) (v := ?_) rfl (Or.inl ⟨by rfl, ?_⟩) (by assumption) ?_
    rotate_left
    · intro w hSw; (try dsimp only at hSw); go_simp; first | done | (with_reducible rfl)
    simp only [Act.put, List.setIfInBounds_toArray, List.set_cons_zero, List.set_cons_succ]
    refine tkq 1 (some 187) (v := ?_) rfl (Or.inl ⟨by rfl, ?_⟩) (by assumption) ?_
    rotate_left
    · intro w hSw; (try dsimp only at hSw); go_simp; first | done | (with_reducible rfl)
    simp only [Act.put, List.setIfInBounds_toArray, List.set_cons_zero, List.set_cons_succ]
    refine tkq 2 (some 188) (v := ?_) rfl (Or.inl ⟨by rfl, ?_⟩) (by assumption) ?_
    rotate_left
    · intro w hSw; (try dsimp only at hSw); go_simp; first | done | (with_reducible rfl)
    simp only [Act.put, List.setIfInBounds_toArray, List.set_cons_zero, List.set_cons_succ]
    refine tkq 3 (some 189) (v := ?_) rfl (Or.inl ⟨by rfl, ?_⟩) (by assumption) ?_
    rotate_left
    · intro w hSw; (try dsimp only at hSw); go_simp; first | done | (with_reducible rfl)
    simp only [Act.put, List.setIfInBounds_toArray, List.set_cons_zero, List.set_cons_succ]
    refine tkq 4 (some 190) (v := ?_) rfl ?_ (by assumption) ?_
    rotate_left
    · refine yl_any 51 (.tmp 10) ?_ gf 0 ?_ LF _ ?_ Tryz.underlying51 rfl ?_ ?_
      · rfl
      · rfl
      · intro w hSw; exact hSw.2
      · rw [HFl.out]; exact fr_info
      · rfl
    simp only [Act.put, List.setIfInBounds_toArray, List.set_cons_zero, List.set_cons_succ]
    refine wpAnyH_ready (rs := [5]) (by kernel_rfl) (by simp) ?_
    refine AllReadyH.cons rfl (fun K hK => ?_) AllReadyH.nil
    go_simp
    go_wp2_with (go_at_call 19; (with_reducible refine HC1.out.mono ?_); rintro e w2 ⟨rfl, hH⟩; have HH := Lib.hid hH; have HS2 := HSS.out w2 (fun b hb => (hH.2.2.1 b hb).trans (HYW.out b hb)); clear hH)
    refine hK.out _ _ (⟨HS2.1, HS2.2.2.2⟩) (fun hHeld => ?_)
    clear hK K
    refine wpAnyH_done (by kernel_rfl) ?_ _
    have HC3 := Lib.hid (HC2.out w2 HH.out)
    obtain ⟨Y7, hY7⟩ : ∃ Y7, w2.drew = Y7 := ⟨_, rfl⟩
    rw [hY7] at HC3
    go_upto_region 32 with fail
    refine wp_region_held_drew (S := (fun w => w.cell? ⟨pw, 1, none⟩ = some (.pointer (some ⟨qm, 0, none⟩)) ∧ w.cell? ⟨g, 0, none⟩ = some (.int .i64 8) ∧ w.rangeAt gf 0 LF)) (by kernel_rfl) (by exact HS2.2) (fun hHeld => ?_)
    rw [hY7] at hHeld ⊢
    clear hY7
    refine tkq 0 (some 198) (v := ?_) rfl (Or.inl ⟨by rfl, ?_⟩) (by assumption) ?_
    rotate_left
    · intro w hSw; (try dsimp only at hSw); go_simp; first | done | (with_reducible rfl)
    simp only [Act.put, List.setIfInBounds_toArray, List.set_cons_zero, List.set_cons_succ]
    refine tkq 1 (some 199) (v := ?_) rfl (Or.inl ⟨by rfl, ?_⟩) (by assumption) ?_
    rotate_left
    · intro w hSw; (try dsimp only at hSw); go_simp; first | done | (with_reducible rfl)
    simp only [Act.put, List.setIfInBounds_toArray, List.set_cons_zero, List.set_cons_succ]
    refine tkq 2 (some 200) (v := ?_) rfl (Or.inl ⟨by rfl, ?_⟩) (by assumption) ?_
    rotate_left
    · intro w hSw; (try dsimp only at hSw); go_simp; first | done | (with_reducible rfl)
    simp only [Act.put, List.setIfInBounds_toArray, List.set_cons_zero, List.set_cons_succ]
    refine tkq 3 (some 201) (v := ?_) rfl (Or.inl ⟨by rfl, ?_⟩) (by assumption) ?_
    rotate_left
    · intro w hSw; (try dsimp only at hSw); go_simp; first | done | (with_reducible rfl)
    simp only [Act.put, List.setIfInBounds_toArray, List.set_cons_zero, List.set_cons_succ]
    refine tkq 4 (some 202) (v := ?_) rfl ?_ (by assumption) ?_
    rotate_left
    · refine yl_any 51 (.tmp 10) ?_ gf 0 ?_ LF _ ?_ Tryz.underlying51 rfl ?_ ?_
      · rfl
      · rfl
      · intro w hSw; exact hSw.2.2
      · rw [HFl.out]; exact fr_info
      · rfl
    simp only [Act.put, List.setIfInBounds_toArray, List.set_cons_zero, List.set_cons_succ]
    refine tkq 5 (some 203) (v := ?_) rfl (Or.inl ⟨by rfl, ?_⟩) (by assumption) ?_
    rotate_left
    · intro w hSw; (try dsimp only at hSw); go_simp; first | done | (with_reducible rfl)
    simp only [Act.put, List.setIfInBounds_toArray, List.set_cons_zero, List.set_cons_succ]
    refine tkq 6 (some 204) (v := ?_) rfl (Or.inl ⟨by rfl, ?_⟩) (by assumption) ?_
    rotate_left
    · intro w hSw; (try dsimp only at hSw); go_simp; first | done | (with_reducible rfl)
    simp only [Act.put, List.setIfInBounds_toArray, List.set_cons_zero, List.set_cons_succ]
    refine tkq 7 (some 205) (v := ?_) rfl (Or.inl ⟨by rfl, ?_⟩) (by assumption) ?_
    rotate_left
    · intro w hSw; (try dsimp only at hSw); go_simp; first | done | (with_reducible rfl)
    simp only [Act.put, List.setIfInBounds_toArray, List.set_cons_zero, List.set_cons_succ]
    refine wpAnyH_ready (rs := [8]) (by kernel_rfl) (by simp) ?_
    refine AllReadyH.cons rfl (fun K hK => ?_) AllReadyH.nil
    go_simp
    go_wp2_with (go_at_call 21; (with_reducible refine HC3.out.mono ?_); rintro e w3 ⟨rfl, hF⟩; have HF := Lib.hid hF; clear hF)
    refine hK.out _ _ ((HSS.out w3 (by obtain ⟨_, _, _, _, hh, _⟩ := HF.out; exact fun b hb => (hh b hb).trans (HYW.out b hb))).2) (fun hHeld => ?_)
    clear hK K
    refine wpAnyH_done (by kernel_rfl) ?_ _
    go_wp2_with (first | (go_at_call 25; (with_reducible refine (HDW.out _ HF.out).mono ?_); rintro e w4 ⟨rfl, hD4⟩; have HD4 := Lib.hid hD4; clear hD4) | fail)
    go_ret
    exact ⟨by first | rfl | simp, HD4.out⟩
set_option maxRecDepth 100000 in
set_option maxHeartbeats 8000000 in
theorem do_turn9 (h : Wo R w0 W q p qm pw O X fr dd tv L) (hk : L.length ≤ k) (hii : I64 ii) (hid : X.id ≠ 0) (hL : X.o.bs.length ≤ 700000) (hk2 : k ≤ 1000000) : Calls Tryz.prog 6 #[.pointer (some ⟨pw, 0, none⟩), .agg (askL 9 room ii n A m c).toArray] W fun e w' => e = .returned (.bool true) ∧ DoP R W w0 q p qm pw X k w' := by
  obtain ⟨g, W1, hg, hW1, hA1, hB1, hgl, hpg, hGl, p0, p1, p2⟩ := do_box h (askL 9 room ii n A m c)
  have HKE := Lib.hid (fun (w2 : World) hk => do_keep (w2 := w2) h hB1 hA1 hk)
  have a0 : W1.cell? ⟨g, 0, none⟩ = some (.int .i64 9) := by rw [hA1.cell]; rfl
  obtain ⟨tA, tc, htv, htl, htc⟩ := h.own.shape
  obtain ⟨nt, hnt⟩ : ∃ nt, L.length = nt := ⟨_, rfl⟩
  rw [hnt] at htv htl
  have hnt2 : nt ≤ 1000000 := by omega
  have HF0 := Lib.hid (fun (W : World) => kframe_zero W)
  unfold zKF at HF0
  -- behind the choice
  have HCH : Hid (∀ (wc : World) (gf : Nat) (m : FN) (d : Sl), W1.heap.size ≤ gf → gf < wc.heap.size → Below W1.heap.size W1 wc → At wc gf 51 (frL m d .nil) → TurnOk X.id m d →
      ∃ X', Nx X X' ∧ Calls Tryz.prog 20 #[.pointer (some ⟨q, 0, none⟩), .agg (frL m d .nil).toArray] wc.drew (fun e w1 => e = .returned (.tuple #[]) ∧ Half w0 wc.drew w1 q p qm O X X' fr dd (G4 R gf g pw tv)) ∧
      ∀ w1, Half w0 wc.drew w1 q p qm O X X' fr dd (G4 R gf g pw tv) → Calls Tryz.prog 21 #[.pointer (some ⟨qm, 0, none⟩), .agg (frL m d .nil).toArray, .bool false] w1.drew (fun e w2 => e = .returned (.tuple #[]) ∧ Full w0 wc.drew w2 q p qm X' (G4 R gf g pw tv))) := Lib.hid (fun wc gf m d e1 e2 e3 e4 e5 => by
    have hb : Below W.heap.size W wc.drew := belowN (hB1.trans (e3.mono (by omega))) 1
    have ht : Tw w0 wc.drew q p qm O X fr dd (G4 R gf g pw tv) := h.tw.plus hb fun b hb => by
      have e2' : gf < wc.drew.heap.size := e2
      rcases hb with rfl | rfl | hb
      · exact .inr ⟨by omega, e2'⟩
      · exact .inr ⟨by omega, by omega⟩
      · exact .inl hb
    obtain ⟨X', x1, x2, x3⟩ := two_lost ht hL m d .nil e5
    exact ⟨X', x1, x2, fun w1 hH => x3 w1.drew (hH.drewN 1)⟩)
  have HDS := Lib.hid (fun (wc : World) (gf : Nat) (X' : SS) (w3 : World) (hN : Nx X X') (hb : Below W1.heap.size W1 wc) (hF : Full w0 wc.drew w3 q p qm X' (G4 R gf g pw tv)) => do_same (k := k) (X' := X') (w3 := w3) (g := g) h hk (belowN (hB1.trans (hb.mono (by omega))) 1) hN (hF.less fun b hb => .inr hb))
  have HTZ := Lib.hid (turn_zero X.id hid)
  have HOK : Hid (∀ (i : Nat), i < nt → ∃ gA md dd', tA = some ⟨gA, 0, none⟩ ∧ W.rangeAt gA (i * 19) (frL md dd' .nil) ∧ gA < W.heap.size ∧ TurnOk X.id md dd') := Lib.hid (fun i hi => by
    obtain ⟨y, hy⟩ : ∃ y, L[i]? = some y := ⟨_, List.getElem?_eq_getElem (by omega)⟩
    have ho := h.own
    rw [htv] at ho
    obtain ⟨gA, hgA, hr⟩ := ho.get i y hy
    refine ⟨gA, y.1, y.2, hgA, hr, (ho.block_lt gA (by rw [hgA]; rfl)).2, h.ok y (List.mem_of_getElem? hy)⟩)
  have HG1 := Lib.hid hgl
  have HB1 := Lib.hid hB1
  have HSZ : Hid (W.heap.size ≤ W1.heap.size) := Lib.hid hB1.size
  have a2 : W1.cell? ⟨g, 2, none⟩ = some (.int .i64 ii) := by rw [hA1.cell]; rfl
  have HPW : Hid (pw < W1.heap.size) := Lib.hid (hGl pw (.inr (.inl rfl)))
  have HA1 := Lib.hid hA1
  have HP1 : Hid (At W1 pw 31 [.pointer (some ⟨q, 0, none⟩), .pointer (some ⟨qm, 0, none⟩), tv]) := Lib.hid (HKE.out W1 (fun _ _ => rfl)).1
  have HFC : Hid (W1.cell? ⟨g, 5, none⟩ = some (.int .i64 0) ∧ W1.cell? ⟨g, 6, none⟩ = some (.int .u64 0) ∧ W1.cell? ⟨g, 7, none⟩ = some (.int .u64 0) ∧ W1.cell? ⟨g, 8, none⟩ = some (.int .u64 0) ∧ W1.cell? ⟨g, 9, none⟩ = some (.slice none 0 0) ∧ W1.cell? ⟨g, 10, none⟩ = some (.bool false) ∧ W1.cell? ⟨g, 11, none⟩ = some (.slice none 0 0) ∧ W1.cell? ⟨g, 12, none⟩ = some (.int .i64 0)) := Lib.hid (by
    refine ⟨?_, ?_, ?_, ?_, ?_, ?_, ?_, ?_⟩ <;> (rw [hA1.cell]; rfl))
  have hf := HFC.out
  clear HFC h hA1 hB1 hGl hid hL hk hnt
  subst htv
  unfold askL at hW1 HA1 HKE ⊢
  go_enter Tryz.func6, Tryz.ntmps6
  go_upto_region 1 with fail
  (try rw [hg])
  (try rw [hW1])
  go_upto_region 27 with (first
    | (go_at_call 17; (with_reducible refine (HF0.out _).mono ?_); rintro e w5 ⟨rfl, hb5⟩; have HB5 := Lib.hid hb5; clear hb5)
    | ((with_reducible refine at_st (x := .tmp 10) ?_); refine st_top w5 (frL (FN.zero 0) .nil .nil) (frL (FN.zero 0) .nil .nil) (by rfl) _ (by rfl) (by rfl) (by rfl) rfl rfl (by rfl) ?_)
    | fail)
  (try simp only [Act.put])
  have hA6 := At.new w5 51 (frL (FN.zero 0) .nil .nil)
  have hB6 : Below W1.heap.size W1 (w5.alloc (.cells (frL (FN.zero 0) .nil .nil).toArray 51)) := HB5.out.alloc HB5.out.size _
  have h65 := HB5.out.size
  have hs6 : w5.heap.size < (w5.alloc (.cells (frL (FN.zero 0) .nil .nil).toArray 51)).heap.size := by simp
  generalize w5.alloc (.cells (frL (FN.zero 0) .nil .nil).toArray 51) = w6 at hA6 hB6 hs6 ⊢
  generalize w5.heap.size = gf at hA6 hB6 hs6 h65 ⊢
  have HA6 := Lib.hid hA6
  have HB6 := Lib.hid hB6
  have HGF := Lib.hid h65
  have HSF := Lib.hid hs6
  have q0 : w6.cell? ⟨pw, 0, none⟩ = some (.pointer (some ⟨q, 0, none⟩)) := (hB6.cell (p := ⟨pw, 0, none⟩) HPW.out).trans p0
  have q1 : w6.cell? ⟨pw, 1, none⟩ = some (.pointer (some ⟨qm, 0, none⟩)) := (hB6.cell (p := ⟨pw, 1, none⟩) HPW.out).trans p1
  have q2 : w6.cell? ⟨pw, 2, none⟩ = some (.slice tA nt tc) := (hB6.cell (p := ⟨pw, 2, none⟩) HPW.out).trans p2
  have q3 : w6.cell? ⟨g, 2, none⟩ = some (.int .i64 ii) := (hB6.cell (p := ⟨g, 2, none⟩) HG1.out).trans a2
  have q4 : w6.cell? ⟨g, 0, none⟩ = some (.int .i64 9) := (hB6.cell (p := ⟨g, 0, none⟩) HG1.out).trans a0
  clear hA6 hB6 h65 hs6 HB5 p0 p1 p2 a2 a0 hf HF0
  obtain ⟨z, hzz⟩ : ∃ z, ii.tmod 4 = z := ⟨_, rfl⟩
  have wz : IntKind.i64.wrap z = z := by
    have hzb : -4 < z ∧ z < 4 := by rw [← hzz]; have := Int.tmod_lt_of_pos ii (show (0 : Int) < 4 by decide); have := Int.lt_tmod_of_pos ii (show (0 : Int) < 4 by decide); omega
    rw [IntKind.wrap_i64]; omega
  obtain ⟨bv, hbv⟩ : ∃ bv : Bool, bv = (decide (0 < nt) && (z != 0)) := ⟨_, rfl⟩
  have HBV := Lib.hid hbv
  clear hbv
  go_cut [167] from 156 to 168 (fun s167 wc => s167 = .bool bv ∧ wc = w6)
  case first =>
    clear HCH HDS HOK
    rcases Nat.eq_zero_or_pos nt with hn0 | hn0
    · subst hn0
      have HE : Hid (bv = false) := Lib.hid (by rw [HBV.out]; rfl)
      clear HBV
      go_wp2_with fail
      go_meet
      exact ⟨by rw [HE.out], rfl⟩
    · have hz : (0 : Int) < (nt : Int) := by omega
      cases hz0 : (z != 0) with
      | false =>
        have HE : Hid (bv = false) := Lib.hid (by rw [HBV.out, hz0, Bool.and_false])
        clear HBV
        go_wp2_with fail
        go_meet
        exact ⟨by rw [HE.out], rfl⟩
      | true =>
        have HE : Hid (bv = true) := Lib.hid (by rw [HBV.out, hz0, decide_eq_true hn0]; rfl)
        clear HBV
        go_wp2_with fail
        go_meet
        exact ⟨by rw [HE.out], rfl⟩
  case rest =>
  obtain ⟨rfl, hwc⟩ := hcut
  rw [hwc]
  clear hwc
  go_upto_if 167 with fail
  go_cut [10] from 168 to 183 (fun s10 wc => ∃ (m : FN) (d : Sl), s10 = .pointer (some ⟨gf, 0, none⟩) ∧ Hid (Below W1.heap.size W1 wc ∧ gf < wc.heap.size ∧ At wc gf 51 (frL m d .nil) ∧ TurnOk X.id m d))
  case first =>
    clear HCH HDS wz hzz
    cases bv with
    | false =>
        go_wp2_with fail
        go_meet
        exact ⟨FN.zero 0, .nil, rfl, Lib.hid ⟨HB6.out, HSF.out, HA6.out, HTZ.out⟩⟩
    | true =>
        have hn0 : 0 < nt := by
          have := HBV.out
          rcases Nat.eq_zero_or_pos nt with h | h
          · subst h; simp at this
          · exact h
        have hz : (0 : Int) < (nt : Int) := by omega
        clear HBV
        obtain ⟨n1, hn1⟩ : ∃ n1, nt = n1 + 1 := ⟨nt - 1, by omega⟩
        have zn1 : (nt : Int) - 1 = (n1 : Int) := by omega
        have wn1 : IntKind.i64.wrap (n1 : Int) = (n1 : Int) := by rw [IntKind.wrap_i64]; omega
        have hwb := withinS_bd ii 0 (n1 : Int) (by omega)
        obtain ⟨jn, hjn⟩ : ∃ jn : Nat, withinS ii 0 (n1 : Int) = (jn : Int) := ⟨(withinS ii 0 (n1 : Int)).toNat, by omega⟩
        have hjl : jn < nt := by omega
        have hjz : (jn : Int) < (nt : Int) := by omega
        have HWI : Hid (∀ W : World, Calls Tryz.prog 18 #[.int .i64 ii, .int .i64 0, .int .i64 n1] W fun e w' => e = .returned (.int .i64 jn) ∧ W = w') := Lib.hid (fun W => by
          have := within_any ii 0 (n1 : Int) W hii.1 (by have := hii.2; omega) (by decide) (by omega) (by omega)
          rw [hjn] at this
          exact this)
        obtain ⟨gA, md, dl, rfl, hr, hgA, htk⟩ := HOK.out jn hjl
        have HTK := Lib.hid htk
        obtain ⟨LF, hLF⟩ : ∃ LF, frL md dl .nil = LF := ⟨_, rfl⟩
        have HFl : Hid (LF.length = 19) := Lib.hid (by rw [← hLF]; rfl)
        have HFo : Hid (LF.all (·.oneCell') = true) := Lib.hid (by rw [← hLF]; rfl)
        have hb6 : Below W.heap.size W w6 := HB1.out.trans (HB6.out.mono HSZ.out)
        have hr6 : w6.rangeAt gA (jn * 19) LF := fun i v hv => (hb6.cell (p := ⟨gA, jn * 19 + i, none⟩) hgA).trans (hr i v (by rw [hLF]; exact hv))
        have HLF := Lib.hid hLF
        obtain ⟨Y5, hY5⟩ : ∃ Y5, w6.drew = Y5 := ⟨_, rfl⟩
        have HS5 : Hid (Y5.cell? ⟨pw, 2, none⟩ = some (.slice (some ⟨gA, 0, none⟩) nt tc) ∧ Y5.cell? ⟨g, 2, none⟩ = some (.int .i64 ii) ∧ Y5.rangeAt gA (jn * 19) LF) := Lib.hid (by rw [← hY5]; exact ⟨q2, q3, hr6⟩)
        have HA5 : Hid (At Y5 gf 51 (frL (FN.zero 0) .nil .nil)) := Lib.hid (by rw [← hY5]; exact HA6.out.drewN 1)
        have HB5 : Hid (Below W1.heap.size W1 Y5 ∧ gf < Y5.heap.size ∧ W1.heap.size ≤ Y5.heap.size) := Lib.hid (by rw [← hY5]; exact ⟨belowN HB6.out 1, HSF.out, HB6.out.size⟩)
        have HKS : Hid (∀ w9, Kept (· = gf) Y5 w9 → w9.cell? ⟨pw, 2, none⟩ = some (.slice (some ⟨gA, 0, none⟩) nt tc) ∧ w9.cell? ⟨g, 2, none⟩ = some (.int .i64 ii) ∧ w9.rangeAt gA (jn * 19) LF) := Lib.hid (fun w9 hk9 => by
          have e1 := HPW.out
          have e2 := HG1.out
          have e3 := HGF.out
          have e4 := HSZ.out
          have e5 := HB5.out.2.2
          obtain ⟨s1, s2, s3⟩ := HS5.out
          exact ⟨(hk9.cell (p := ⟨pw, 2, none⟩) (by show pw < _; omega) (by show ¬ pw = gf; omega)).trans s1, (hk9.cell (p := ⟨g, 2, none⟩) (by show g < _; omega) (by show ¬ g = gf; omega)).trans s2, fun i v hv => (hk9.cell (p := ⟨gA, jn * 19 + i, none⟩) (by show gA < _; omega) (by show ¬ gA = gf; omega)).trans (s3 i v hv)⟩)
        clear hLF hr hr6 hb6 hgA htk hwb hjn hn1 hn0 HOK HTZ
        go_upto_region 28 with fail
        refine wp_region_held_drew (S := (fun w => w.cell? ⟨pw, 2, none⟩ = some (.slice (some ⟨gA, 0, none⟩) nt tc) ∧ w.cell? ⟨g, 2, none⟩ = some (.int .i64 ii) ∧ w.rangeAt gA (jn * 19) LF)) (by kernel_rfl) (by rw [hY5]; exact HS5.out) (fun hHeld => ?_)
        rw [hY5] at hHeld ⊢
        clear hY5
        refine tkq 0 (some 168) (v := ?_) rfl (Or.inl ⟨by rfl, ?_⟩) (by assumption) ?_
        rotate_left
        · intro w hSw; (try dsimp only at hSw); go_simp; first | done | (with_reducible rfl)
        simp only [Act.put, List.setIfInBounds_toArray, List.set_cons_zero, List.set_cons_succ]
        refine tkq 1 (some 169) (v := ?_) rfl (Or.inl ⟨by rfl, ?_⟩) (by assumption) ?_
        rotate_left
        · intro w hSw; (try dsimp only at hSw); go_simp; first | done | (with_reducible rfl)
        simp only [Act.put, List.setIfInBounds_toArray, List.set_cons_zero, List.set_cons_succ]
        refine tkq 2 (some 170) (v := ?_) rfl (Or.inl ⟨by rfl, ?_⟩) (by assumption) ?_
        rotate_left
        · intro w hSw; (try dsimp only at hSw); go_simp; first | done | (with_reducible rfl)
        simp only [Act.put, List.setIfInBounds_toArray, List.set_cons_zero, List.set_cons_succ]
        refine tkq 3 (some 171) (v := ?_) rfl (Or.inl ⟨by rfl, ?_⟩) (by assumption) ?_
        rotate_left
        · intro w hSw; (try dsimp only at hSw); go_simp; first | done | (with_reducible rfl)
        simp only [Act.put, List.setIfInBounds_toArray, List.set_cons_zero, List.set_cons_succ]
        refine tkq 4 (some 172) (v := ?_) rfl (Or.inl ⟨by rfl, ?_⟩) (by assumption) ?_
        rotate_left
        · intro w hSw; (try dsimp only at hSw); go_simp; first | done | (with_reducible rfl)
        simp only [Act.put, List.setIfInBounds_toArray, List.set_cons_zero, List.set_cons_succ]
        refine tkq 5 (some 173) (v := ?_) rfl (Or.inl ⟨by rfl, ?_⟩) (by assumption) ?_
        rotate_left
        · intro w hSw; (try dsimp only at hSw); go_simp; first | done | (with_reducible rfl)
        simp only [Act.put, List.setIfInBounds_toArray, List.set_cons_zero, List.set_cons_succ]
        refine tkq 6 (some 174) (v := ?_) rfl (Or.inl ⟨by rfl, ?_⟩) (by assumption) ?_
        rotate_left
        · intro w hSw; (try dsimp only at hSw); go_simp; first | done | (with_reducible rfl)
        simp only [Act.put, List.setIfInBounds_toArray, List.set_cons_zero, List.set_cons_succ]
        refine tkq 7 (some 175) (v := ?_) rfl (Or.inl ⟨by rfl, ?_⟩) (by assumption) ?_
        rotate_left
        · intro w hSw; (try dsimp only at hSw); go_simp; first | done | (with_reducible rfl)
        simp only [Act.put, List.setIfInBounds_toArray, List.set_cons_zero, List.set_cons_succ]
        refine tkq 8 (some 176) (v := ?_) rfl (Or.inl ⟨by rfl, ?_⟩) (by assumption) ?_
        rotate_left
        · intro w hSw; (try dsimp only at hSw); go_simp; first | done | (with_reducible rfl)
        simp only [Act.put, List.setIfInBounds_toArray, List.set_cons_zero, List.set_cons_succ]
        refine tkq 9 (some 177) (v := ?_) rfl (Or.inl ⟨by rfl, ?_⟩) (by assumption) ?_
        rotate_left
        · intro w hSw; (try dsimp only at hSw); go_simp; first | done | (with_reducible rfl)
        simp only [Act.put, List.setIfInBounds_toArray, List.set_cons_zero, List.set_cons_succ]
        refine tkq 10 (some 178) (v := ?_) rfl (Or.inl ⟨by rfl, ?_⟩) (by assumption) ?_
        rotate_left
        · intro w hSw; (try dsimp only at hSw); go_simp; first | done | (with_reducible rfl)
        simp only [Act.put, List.setIfInBounds_toArray, List.set_cons_zero, List.set_cons_succ]
        refine tkq 11 (some 179) (v := ?_) rfl (Or.inl ⟨by rfl, ?_⟩) (by assumption) ?_
        rotate_left
        · intro w hSw; (try dsimp only at hSw); go_simp; first | done | (with_reducible rfl)
        simp only [Act.put, List.setIfInBounds_toArray, List.set_cons_zero, List.set_cons_succ]
        refine wpAnyH_ready (rs := [12]) (by kernel_rfl) (by simp) ?_
        refine AllReadyH.cons rfl (fun K hK => ?_) AllReadyH.nil
        go_simp
        go_wp2_with (go_at_call 18; (with_reducible refine (HWI.out _).mono ?_); rintro e w8 ⟨rfl, rfl⟩)
        refine hK.out _ _ (HS5.out) (fun hHeld => ?_)
        clear hK K
        refine tkq 13 (some 181) (v := ?_) rfl (Or.inl ⟨by rfl, ?_⟩) (by assumption) ?_
        rotate_left
        · intro w hSw; (try dsimp only at hSw); go_simp; first | done | (with_reducible rfl)
        simp only [Act.put, List.setIfInBounds_toArray, List.set_cons_zero, List.set_cons_succ]
        refine tkq 14 (some 182) (v := ?_) rfl ?_ (by assumption) ?_
        rotate_left
        · refine yl_any 51 (.tmp 181) ?_ gA (jn * 19) ?_ LF _ ?_ Tryz.underlying51 rfl ?_ ?_
          · rfl
          · rfl
          · intro w hSw; exact (by simpa using hSw.2.2)
          · rw [HFl.out]; exact fr_info
          · rfl
        simp only [Act.put, List.setIfInBounds_toArray, List.set_cons_zero, List.set_cons_succ]
        refine wpAnyH_ready (rs := [15]) (by kernel_rfl) (by simp) ?_
        refine AllReadyH.cons rfl (fun K hK => ?_) AllReadyH.nil
        refine step_st_in (by rfl) gf 0 51 _ LF (by rfl) (by rfl) HA5.out (by rw [HFl.out]; exact Nat.le_refl 19) (by rw [HFl.out]; exact fr_info) HFo.out ?_
        intro w9 hA9x hk9
        have HA9 : Hid (At w9 gf 51 LF) := Lib.hid (by rw [HFl.out] at hA9x; simpa [frL] using hA9x)
        have HK9 := Lib.hid hk9
        clear hA9x hk9
        refine hK.out _ _ (HKS.out _ HK9.out) (fun hHeld => ?_)
        clear hK K
        refine wpAnyH_done (by kernel_rfl) ?_ _
        go_wp2_with fail
        go_meet
        exact ⟨md, dl, rfl, Lib.hid ⟨HK9.out.below HB5.out.1 (by have := HB5.out.2.2; omega) (fun j hj => by have := HGF.out; omega), Nat.lt_of_lt_of_le HB5.out.2.1 HK9.out.size, by rw [HLF.out]; exact HA9.out, HTK.out⟩⟩
  case rest =>
    obtain ⟨mf, df, rfl, hC⟩ := hcut
    obtain ⟨hb, hs, hat, htk⟩ := hC.out
    obtain ⟨X', hN, hc1, hc2⟩ := HCH.out wc gf mf df HGF.out hs hb hat htk
    have HDW := Lib.hid (fun (w3 : World) hF => HDS.out wc gf X' w3 hN hb hF)
    clear hC htk HCH HDS HOK HTZ HA6 HB6 HSF HBV wz hzz q0 q1 q2 q3 q4
    have r0 : wc.cell? ⟨g, 0, none⟩ = some (.int .i64 9) := (hb.cell (p := ⟨g, 0, none⟩) HG1.out).trans (by rw [HA1.out.cell]; rfl)
    generalize hLF : frL mf df .nil = LF at hat hc1 hc2
    have HFl : Hid (LF.length = 19) := Lib.hid (by rw [← hLF]; rfl)
    clear hLF
    have HC1 := Lib.hid hc1
    have HC2 := Lib.hid hc2
    have HSS : Hid (∀ w : World, (∀ b, G4 R gf g pw (.slice tA nt tc) b → w.heap[b]? = wc.heap[b]?) → w.cell? ⟨pw, 0, none⟩ = some (.pointer (some ⟨q, 0, none⟩)) ∧ w.cell? ⟨pw, 1, none⟩ = some (.pointer (some ⟨qm, 0, none⟩)) ∧ w.cell? ⟨g, 0, none⟩ = some (.int .i64 9) ∧ w.rangeAt gf 0 LF) := Lib.hid (fun w hk => by
      have hx : ∀ b, G3 R g pw (.slice tA nt tc) b → b < W1.heap.size → w.heap[b]? = W1.heap[b]? := fun b hb' hl => (hk b (.inr hb')).trans (hb.block b hl)
      have hxg := hx g (.inl rfl) HG1.out
      have hxp := hx pw (.inr (.inl rfl)) HPW.out
      have hA' : At w g 36 _ := hxg.trans HA1.out
      have hP' : At w pw 31 [.pointer (some ⟨q, 0, none⟩), .pointer (some ⟨qm, 0, none⟩), .slice tA nt tc] := hxp.trans HP1.out
      have hF' : At w gf 51 LF := (hk gf (.inl rfl)).trans hat
      exact ⟨by rw [hP'.cell]; rfl, by rw [hP'.cell]; rfl, by rw [hA'.cell]; rfl, fun j v hv => by rw [Nat.zero_add, hF'.cell]; exact hv⟩)
    obtain ⟨Y6, hY6⟩ : ∃ Y6, wc.drew = Y6 := ⟨_, rfl⟩
    rw [hY6] at HC1 HC2 HDW
    have HYW : Hid (∀ b, G4 R gf g pw (.slice tA nt tc) b → Y6.heap[b]? = wc.heap[b]?) := Lib.hid (fun b _ => by rw [← hY6]; rfl)
    have HS6 := HSS.out Y6 HYW.out
    clear hb hs hat hN hc1 hc2
    go_upto_region 31 with fail
    refine wp_region_held_drew (S := (fun w => w.cell? ⟨pw, 0, none⟩ = some (.pointer (some ⟨q, 0, none⟩)) ∧ w.rangeAt gf 0 LF)) (by kernel_rfl) (by rw [hY6]; exact ⟨HS6.1, HS6.2.2.2⟩) (fun hHeld => ?_)
    rw [hY6] at hHeld ⊢
    clear hY6
    refine tkq 0 (some 192) (v := ?_) rfl (Or.inl ⟨by rfl, ?_⟩) (by assumption) ?_
    rotate_left
    · intro w hSw; (try dsimp only at hSw); go_simp; first | done | (with_reducible rfl)
    simp only [Act.put, List.setIfInBounds_toArray, List.set_cons_zero, List.set_cons_succ]
    refine tkq 1 (some 193) (v := ?_) rfl (Or.inl ⟨by rfl, ?_⟩) (by assumption) ?_
    rotate_left
    · intro w hSw; (try dsimp only at hSw); go_simp; first | done | (with_reducible rfl)
    simp only [Act.put, List.setIfInBounds_toArray, List.set_cons_zero, List.set_cons_succ]
    refine tkq 2 (some 194) (v := ?_) rfl (Or.inl ⟨by rfl, ?_⟩) (by assumption) ?_
    rotate_left
    · intro w hSw; (try dsimp only at hSw); go_simp; first | done | (with_reducible rfl)
    simp only [Act.put, List.setIfInBounds_toArray, List.set_cons_zero, List.set_cons_succ]
    refine tkq 3 (some 195) (v := ?_) rfl (Or.inl ⟨by rfl, ?_⟩) (by assumption) ?_
    rotate_left
    · intro w hSw; (try dsimp only at hSw); go_simp; first | done | (with_reducible rfl)
    simp only [Act.put, List.setIfInBounds_toArray, List.set_cons_zero, List.set_cons_succ]
    refine tkq 4 (some 196) (v := ?_) rfl ?_ (by assumption) ?_
    rotate_left
    · refine yl_any 51 (.tmp 10) ?_ gf 0 ?_ LF _ ?_ Tryz.underlying51 rfl ?_ ?_
      · rfl
      · rfl
      · intro w hSw; exact hSw.2
      · rw [HFl.out]; exact fr_info
      · rfl
    simp only [Act.put, List.setIfInBounds_toArray, List.set_cons_zero, List.set_cons_succ]
    refine wpAnyH_ready (rs := [5]) (by kernel_rfl) (by simp) ?_
    refine AllReadyH.cons rfl (fun K hK => ?_) AllReadyH.nil
    go_simp
    go_wp2_with (go_at_call 20; (with_reducible refine HC1.out.mono ?_); rintro e w2 ⟨rfl, hH⟩; have HH := Lib.hid hH; have HS2 := HSS.out w2 (fun b hb => (hH.2.2.1 b hb).trans (HYW.out b hb)); clear hH)
    refine hK.out _ _ (⟨HS2.1, HS2.2.2.2⟩) (fun hHeld => ?_)
    clear hK K
    refine wpAnyH_done (by kernel_rfl) ?_ _
    have HC3 := Lib.hid (HC2.out w2 HH.out)
    obtain ⟨Y7, hY7⟩ : ∃ Y7, w2.drew = Y7 := ⟨_, rfl⟩
    rw [hY7] at HC3
    go_upto_region 32 with fail
    refine wp_region_held_drew (S := (fun w => w.cell? ⟨pw, 1, none⟩ = some (.pointer (some ⟨qm, 0, none⟩)) ∧ w.cell? ⟨g, 0, none⟩ = some (.int .i64 9) ∧ w.rangeAt gf 0 LF)) (by kernel_rfl) (by exact HS2.2) (fun hHeld => ?_)
    rw [hY7] at hHeld ⊢
    clear hY7
    refine tkq 0 (some 198) (v := ?_) rfl (Or.inl ⟨by rfl, ?_⟩) (by assumption) ?_
    rotate_left
    · intro w hSw; (try dsimp only at hSw); go_simp; first | done | (with_reducible rfl)
    simp only [Act.put, List.setIfInBounds_toArray, List.set_cons_zero, List.set_cons_succ]
    refine tkq 1 (some 199) (v := ?_) rfl (Or.inl ⟨by rfl, ?_⟩) (by assumption) ?_
    rotate_left
    · intro w hSw; (try dsimp only at hSw); go_simp; first | done | (with_reducible rfl)
    simp only [Act.put, List.setIfInBounds_toArray, List.set_cons_zero, List.set_cons_succ]
    refine tkq 2 (some 200) (v := ?_) rfl (Or.inl ⟨by rfl, ?_⟩) (by assumption) ?_
    rotate_left
    · intro w hSw; (try dsimp only at hSw); go_simp; first | done | (with_reducible rfl)
    simp only [Act.put, List.setIfInBounds_toArray, List.set_cons_zero, List.set_cons_succ]
    refine tkq 3 (some 201) (v := ?_) rfl (Or.inl ⟨by rfl, ?_⟩) (by assumption) ?_
    rotate_left
    · intro w hSw; (try dsimp only at hSw); go_simp; first | done | (with_reducible rfl)
    simp only [Act.put, List.setIfInBounds_toArray, List.set_cons_zero, List.set_cons_succ]
    refine tkq 4 (some 202) (v := ?_) rfl ?_ (by assumption) ?_
    rotate_left
    · refine yl_any 51 (.tmp 10) ?_ gf 0 ?_ LF _ ?_ Tryz.underlying51 rfl ?_ ?_
      · rfl
      · rfl
      · intro w hSw; exact hSw.2.2
      · rw [HFl.out]; exact fr_info
      · rfl
    simp only [Act.put, List.setIfInBounds_toArray, List.set_cons_zero, List.set_cons_succ]
    refine tkq 5 (some 203) (v := ?_) rfl (Or.inl ⟨by rfl, ?_⟩) (by assumption) ?_
    rotate_left
    · intro w hSw; (try dsimp only at hSw); go_simp; first | done | (with_reducible rfl)
    simp only [Act.put, List.setIfInBounds_toArray, List.set_cons_zero, List.set_cons_succ]
    refine tkq 6 (some 204) (v := ?_) rfl (Or.inl ⟨by rfl, ?_⟩) (by assumption) ?_
    rotate_left
    · intro w hSw; (try dsimp only at hSw); go_simp; first | done | (with_reducible rfl)
    simp only [Act.put, List.setIfInBounds_toArray, List.set_cons_zero, List.set_cons_succ]
    refine tkq 7 (some 205) (v := ?_) rfl (Or.inl ⟨by rfl, ?_⟩) (by assumption) ?_
    rotate_left
    · intro w hSw; (try dsimp only at hSw); go_simp; first | done | (with_reducible rfl)
    simp only [Act.put, List.setIfInBounds_toArray, List.set_cons_zero, List.set_cons_succ]
    refine wpAnyH_ready (rs := [8]) (by kernel_rfl) (by simp) ?_
    refine AllReadyH.cons rfl (fun K hK => ?_) AllReadyH.nil
    go_simp
    go_wp2_with (go_at_call 21; (with_reducible refine HC3.out.mono ?_); rintro e w3 ⟨rfl, hF⟩; have HF := Lib.hid hF; clear hF)
    refine hK.out _ _ ((HSS.out w3 (by obtain ⟨_, _, _, _, hh, _⟩ := HF.out; exact fun b hb => (hh b hb).trans (HYW.out b hb))).2) (fun hHeld => ?_)
    clear hK K
    refine wpAnyH_done (by kernel_rfl) ?_ _
    go_wp2_with (first | (go_at_call 25; (with_reducible refine (HDW.out _ HF.out).mono ?_); rintro e w4 ⟨rfl, hD4⟩; have HD4 := Lib.hid hD4; clear hD4) | fail)
    go_ret
    exact ⟨by first | rfl | simp, HD4.out⟩
end
end Go.Proofs.YtbejpafephofaaaGreat
