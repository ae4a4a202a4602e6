/-
  outbuf.Buffer: told, ahead, Waits.
-/
import Derived.Test.YtohahkjikhpamaaDe
import Derived.Test.YtohahkjikhpamaaQh
import Derived.Test.YtohahkjikhpamaaMq0
namespace Go.Proofs.Ytohahkjikhpamaa
set_option linter.unusedVariables false
set_option linter.unusedSimpArgs false
open Go.RowKit
theorem below_drewN {B : Nat} {w w' : World} (h : Below B w w') (n : Nat) : Below B w (w'.drewN n) := h.trans ⟨rfl, rfl, rfl, Nat.le_refl _, fun _ _ => rfl⟩
def tLo (gn off : Nat) : Nat := min off gn
def tHi (gn off : Nat) (n : Int) : Nat := tLo gn off + min n.toNat (gn - tLo gn off)
theorem tHi_le (gn off : Nat) (n : Int) : tLo gn off ≤ tHi gn off n ∧ tHi gn off n ≤ gn := by unfold tHi tLo; omega
set_option maxHeartbeats 1000000 in
set_option maxRecDepth 100000 in
theorem told_any {w : World} {p : Nat} (gn off : Nat) (n : Int) (hlt : p < w.heap.size) (h2 : w.cell? ⟨p, 2, none⟩ = some (.int .u64 gn)) (hg : gn ≤ 1099511627776) (ho : off < 18446744073709551616) (hn : -9223372036854775808 ≤ n ∧ n < 9223372036854775808) :
    Calls Try.prog 34 #[.pointer (some ⟨p, 0, none⟩), .int .u64 off, .int .i64 n] w fun e w' => e = .returned (.agg #[.int .u64 (tLo gn off), .int .u64 (tHi gn off n)]) ∧ Below w.heap.size w w' := by
  have hB0 : Below w.heap.size w (w.alloc (.cells #[.int .u64 0, .int .u64 0] 62)) := (Below.refl _ w).alloc (Nat.le_refl _) _
  have hA1 : At (w.alloc (.cells #[.int .u64 0, .int .u64 0] 62)) w.heap.size 62 [.int .u64 0, .int .u64 0] := At.new w _ _
  have h2' : (w.alloc (.cells #[.int .u64 0, .int .u64 0] 62)).cell? ⟨p, 2, none⟩ = some (.int .u64 gn) := (hB0.cell (p := ⟨p, 2, none⟩) hlt).trans h2
  have d0 := hA1.cell 0
  have d1 := hA1.cell 1
  have f0 := hA1.frozen 0
  have f1 := hA1.frozen 1
  simp only [List.getElem?_cons_zero, List.getElem?_cons_succ] at d0 d1
  have HA := Lib.hid hA1
  have HB := Lib.hid hB0
  clear hB0 hA1
  unfold tHi tLo
  obtain ⟨lo, hlo⟩ : ∃ lo, lo = min off gn := ⟨_, rfl⟩
  obtain ⟨M, hM⟩ : ∃ M, M = n.toNat := ⟨_, rfl⟩
  obtain ⟨D, hD⟩ : ∃ D, D = gn - lo := ⟨_, rfl⟩
  obtain ⟨k, hk⟩ : ∃ k, k = min M D := ⟨_, rfl⟩
  obtain ⟨hi, hhi⟩ : ∃ hi, hi = lo + k := ⟨_, rfl⟩
  rw [← hlo, ← hM, ← hD, ← hk, ← hhi]
  have e1 : (if (gn : Int) < (off : Int) then (gn : Int) else (off : Int)) = (lo : Int) := by split <;> omega
  have e2 : (if n < 0 then 0 else n) = (M : Int) := by split <;> omega
  have e3 : (gn : Int) - (lo : Int) = (D : Int) := by omega
  have e4 : (if (D : Int) < (M : Int) then (D : Int) else (M : Int)) = (k : Int) := by split <;> omega
  have e5 : (lo : Int) + (k : Int) = (hi : Int) := by omega
  have b1 : lo ≤ 1099511627776 := by omega
  have b2 : D ≤ 1099511627776 := by omega
  have b3 : hi ≤ 1099511627776 := by omega
  have b4 : M < 9223372036854775808 := by omega
  have b5 : k ≤ 1099511627776 := by omega
  have w1' : IntKind.u64.wrap (M : Int) = (M : Int) := by rw [IntKind.wrap_u64]; omega
  have w2' : IntKind.u64.wrap (D : Int) = (D : Int) := by rw [IntKind.wrap_u64]; omega
  have w3' : IntKind.u64.wrap (hi : Int) = (hi : Int) := by rw [IntKind.wrap_u64]; omega
  have HM := Lib.hid (And.intro hlo (And.intro hM (And.intro hD (And.intro hk hhi))))
  have HQ : Hid (∀ x y : Int, x = lo → y = hi → (Ending.returned (.agg #[.int .u64 x, .int .u64 y]) = .returned (.agg #[.int .u64 lo, .int .u64 hi]) ∧ Below w.heap.size w (w.alloc (.cells #[.int .u64 x, .int .u64 y] 62)))) := Lib.hid (fun x y hx hy => by subst hx; subst hy; exact ⟨rfl, (Below.refl _ w).alloc (Nat.le_refl _) _⟩)
  clear hlo hM hD hk hhi h2 hlt
  go_enter Try.func34, Try.ntmps34
  go_wp2
  all_goals refine bodyPost_ret (results_cell 6 62 (by rfl) _ 62 _ _ (by rfl) (At.new w _ [_, _]) Try.underlying62 rfl (by kernel_rfl)) rfl ?_
  all_goals exact HQ.out _ _ (by have := HM.out; omega) (by have := HM.out; omega)
/-- What is to be sent next. -/
def ahO (S : OS) (ll : RL) (limit : Nat) : (Int × Int) × Bool :=
  match ll with
  | r :: _ => (r, true)
  | [] => if S.gn < min limit S.bs.length then ((S.gn, (min limit S.bs.length : Nat)), true) else if endO S && decide (S.gn = S.bs.length) then ((S.bs.length, S.bs.length), true) else ((0, 0), false)
def ahV (a : (Int × Int) × Bool) : Array Value := #[.agg #[.int .u64 a.1.1, .int .u64 a.1.2], .bool a.2]
set_option maxHeartbeats 4000000 in
set_option maxRecDepth 100000 in
theorem ahead_at {w : World} {base p pa pl : Nat} {va vl vw : Value} {la ll : RL} {S : OS} (h : Om w base p pa pl va vl vw la ll (S.bs.drop (baseO S)) (baseO S) S.gn S.ov (endO S) S.en S.ea) (hy : Sa S la ll) (hn : ll.length ≤ 2000000) (hL : S.bs.length ≤ 1099511627776) (limit : Nat) (hl : limit < 18446744073709551616) :
    Calls Try.prog 39 #[.pointer (some ⟨p, 0, none⟩), .int .u64 limit] w fun e w' => e = .returned (.tuple (ahV (ahO S ll limit))) ∧ Below w.heap.size w w' := by
  have hB0 : Below w.heap.size w (w.alloc (.cells #[.int .u64 0, .int .u64 0] 62)) := (Below.refl _ w).alloc (Nat.le_refl _) _
  have hA1 : At (w.alloc (.cells #[.int .u64 0, .int .u64 0] 62)) w.heap.size 62 [.int .u64 0, .int .u64 0] := At.new w _ _
  have h1 := h.below hB0
  have hOf : Of (w.alloc (.cells #[.int .u64 0, .int .u64 0] 62)) base p _ S := ⟨pa, pl, va, vl, vw, la, ll, rfl, h1, hy⟩
  have HLEN := Lib.hid (olen_any hOf hL)
  have HSZ : Hid (w.heap.size < (w.alloc (.cells #[.int .u64 0, .int .u64 0] 62)).heap.size) := Lib.hid (by simp)
  have HCNT := Lib.hid (len_any' base pl 2048 vl ll _ h1.sl)
  have HALL := Lib.hid (all_any' base pl 2048 vl ll _ h1.sl hn)
  have h4 := h1.c4
  have HA := Lib.hid hA1
  have HB := Lib.hid hB0
  have HOM := Lib.hid h1
  have hg : S.gn ≤ 1099511627776 ∨ True := .inr trivial
  cases hll : ll with
  | cons r t =>
    have hlz : (0 : Int) < ((r :: t).length : Nat) := by simp
    rw [hll] at HCNT HALL
    obtain ⟨L, hLL⟩ : ∃ L, (r :: t).length = L := ⟨_, rfl⟩
    have hcl : ∀ (w2 : World) (v' : Value) (b : Nat), OwnL w2 b v' (r :: t) → ∃ g c, v' = .slice (some ⟨g, 0, none⟩) L c ∧ w2.cell? ⟨g, 0, none⟩ = some (.int .u64 r.1) ∧ w2.cell? ⟨g, 1, none⟩ = some (.int .u64 r.2) := fun w2 v' b ho => by
      obtain ⟨g, c, e, _, _, h5, h6⟩ := ho.cell (i := 0) rfl
      rw [hLL] at e
      exact ⟨g, c, e, h5, h6⟩
    have HCL := Lib.hid hcl
    rw [hLL] at hlz HCNT
    have h0L : 0 < L := by omega
    clear h h1 hy hOf HLEN hA1 hB0 hcl hLL hg
    unfold ahO
    obtain ⟨ra, rb⟩ := r
    simp only at HCL ⊢
    go_enter Try.func39, Try.ntmps39
    go_wp2_with (first
      | (go_at_call 55; (with_reducible refine HCNT.out.mono ?_); rintro e w2 ⟨rfl, hw2⟩; rw [hw2]; clear hw2)
      | (go_at_call 56; (with_reducible refine HALL.out.mono ?_); rintro e w2 ⟨v', rfl, ho, hB2⟩; obtain ⟨g2, c2, rfl, e0, e1⟩ := HCL.out w2 v' _ ho; have hA2 := HA.out.below hB2 HSZ.out; have d0 := hA2.cell 0; have d1 := hA2.cell 1; have f0 := hA2.frozen 0; have f1 := hA2.frozen 1; simp only [List.getElem?_cons_zero, List.getElem?_cons_succ] at d0 d1; have HA2 := Lib.hid hA2; have HB2 := Lib.hid (HB.out.trans (hB2.mono HB.out.size)); clear ho hA2 hB2))
    refine bodyPost_ret (results_cell_tmp 4 5 62 (by rfl) _ 62 _ _ _ (by rfl) (by rfl) (at_two HA2.out _ _) Try.underlying62 rfl (by kernel_rfl)) rfl ?_
    exact ⟨rfl, (HB2.out.setCell (Nat.le_refl _) _).setCell (Nat.le_refl _) _⟩
  | nil =>
    rw [hll] at HCNT
    have HX : Hid (∀ w2 d, w2 = (w.alloc (.cells #[.int .u64 0, .int .u64 0] 62)).drewN d → w2.cell? ⟨p, 2, none⟩ = some (.int .u64 S.gn) ∧ w2.cell? ⟨p, 6, none⟩ = some (.bool (endO S)) ∧ At w2 w.heap.size 62 [.int .u64 0, .int .u64 0] ∧ Below w.heap.size w w2) := Lib.hid (fun w2 d e => by
      subst e
      exact ⟨(HOM.out.drewN d).c2, (HOM.out.drewN d).c6, HA.out.drewN d, below_drewN HB.out d⟩)
    have hlz : ¬ (0 : Int) < (([] : RL).length : Nat) := by simp
    have hAH : ahO S [] limit = if S.gn < min limit S.bs.length then (((S.gn : Int), ((min limit S.bs.length : Nat) : Int)), true) else if endO S && decide (S.gn = S.bs.length) then (((S.bs.length : Int), (S.bs.length : Int)), true) else ((0, 0), false) := rfl
    rw [hAH]
    clear h h1 hy hOf hA1 hB0 hAH HALL HOM hg
    generalize S.bs.length = len at *
    generalize S.gn = gn at *
    generalize endO S = du at *
    rcases Nat.lt_or_ge len limit with hc | hc
    · rw [Nat.min_eq_right (Nat.le_of_lt hc)]
      have hcz : (len : Int) < (limit : Int) := by omega
      by_cases hs : gn < len
      · rw [if_pos hs]
        have hsz : (gn : Int) < (len : Int) := by omega
        go_enter Try.func39, Try.ntmps39
        go_wp2_with (first
          | (go_at_call 55; (with_reducible refine HCNT.out.mono ?_); rintro e w2 ⟨rfl, hw2⟩; rw [hw2]; clear hw2)
          | (go_at_call 40; (with_reducible refine HLEN.out.mono ?_); rintro e w2 ⟨rfl, d, hw2⟩; obtain ⟨c2, c6, hA2, hB2⟩ := HX.out w2 d hw2; clear hw2; have d0 := hA2.cell 0; have d1 := hA2.cell 1; have f0 := hA2.frozen 0; have f1 := hA2.frozen 1; simp only [List.getElem?_cons_zero, List.getElem?_cons_succ] at d0 d1; have HA2 := Lib.hid hA2; have HB2 := Lib.hid hB2; clear hA2 hB2))
        refine bodyPost_ret (results_cell_tmp 4 5 62 (by rfl) _ 62 _ _ _ (by rfl) (by rfl) (at_two HA2.out _ _) Try.underlying62 rfl (by kernel_rfl)) rfl ?_
        exact ⟨rfl, (HB2.out.setCell (Nat.le_refl _) _).setCell (Nat.le_refl _) _⟩
      · rw [if_neg hs]
        have hsz : ¬ (gn : Int) < (len : Int) := by omega
        cases du
        · simp only [Bool.false_and, Bool.false_eq_true, if_false]
          go_enter Try.func39, Try.ntmps39
          go_wp2_with (first
            | (go_at_call 55; (with_reducible refine HCNT.out.mono ?_); rintro e w2 ⟨rfl, hw2⟩; rw [hw2]; clear hw2)
            | (go_at_call 40; (with_reducible refine HLEN.out.mono ?_); rintro e w2 ⟨rfl, d, hw2⟩; obtain ⟨c2, c6, hA2, hB2⟩ := HX.out w2 d hw2; clear hw2; have d0 := hA2.cell 0; have d1 := hA2.cell 1; have f0 := hA2.frozen 0; have f1 := hA2.frozen 1; simp only [List.getElem?_cons_zero, List.getElem?_cons_succ] at d0 d1; have HA2 := Lib.hid hA2; have HB2 := Lib.hid hB2; clear hA2 hB2))
          refine bodyPost_ret (results_cell_tmp 4 5 62 (by rfl) _ 62 _ _ _ (by rfl) (by rfl) (at_two HA2.out _ _) Try.underlying62 rfl (by kernel_rfl)) rfl ?_
          exact ⟨rfl, (HB2.out.setCell (Nat.le_refl _) _).setCell (Nat.le_refl _) _⟩
        · by_cases he : gn = len
          · subst he
            simp only [decide_true, Bool.and_self, if_true]
            go_enter Try.func39, Try.ntmps39
            go_wp2_with (first
              | (go_at_call 55; (with_reducible refine HCNT.out.mono ?_); rintro e w2 ⟨rfl, hw2⟩; rw [hw2]; clear hw2)
              | (go_at_call 40; (with_reducible refine HLEN.out.mono ?_); rintro e w2 ⟨rfl, d, hw2⟩; obtain ⟨c2, c6, hA2, hB2⟩ := HX.out w2 d hw2; clear hw2; have d0 := hA2.cell 0; have d1 := hA2.cell 1; have f0 := hA2.frozen 0; have f1 := hA2.frozen 1; simp only [List.getElem?_cons_zero, List.getElem?_cons_succ] at d0 d1; have HA2 := Lib.hid hA2; have HB2 := Lib.hid hB2; clear hA2 hB2))
            refine bodyPost_ret (results_cell_tmp 4 5 62 (by rfl) _ 62 _ _ _ (by rfl) (by rfl) (at_two HA2.out _ _) Try.underlying62 rfl (by kernel_rfl)) rfl ?_
            exact ⟨rfl, (HB2.out.setCell (Nat.le_refl _) _).setCell (Nat.le_refl _) _⟩
          · have hez : ¬ (gn : Int) = (len : Int) := by omega
            simp only [he, decide_false, Bool.and_false, Bool.false_eq_true, if_false]
            go_enter Try.func39, Try.ntmps39
            go_wp2_with (first
              | (go_at_call 55; (with_reducible refine HCNT.out.mono ?_); rintro e w2 ⟨rfl, hw2⟩; rw [hw2]; clear hw2)
              | (go_at_call 40; (with_reducible refine HLEN.out.mono ?_); rintro e w2 ⟨rfl, d, hw2⟩; obtain ⟨c2, c6, hA2, hB2⟩ := HX.out w2 d hw2; clear hw2; have d0 := hA2.cell 0; have d1 := hA2.cell 1; have f0 := hA2.frozen 0; have f1 := hA2.frozen 1; simp only [List.getElem?_cons_zero, List.getElem?_cons_succ] at d0 d1; have HA2 := Lib.hid hA2; have HB2 := Lib.hid hB2; clear hA2 hB2))
            refine bodyPost_ret (results_cell_tmp 4 5 62 (by rfl) _ 62 _ _ _ (by rfl) (by rfl) (at_two HA2.out _ _) Try.underlying62 rfl (by kernel_rfl)) rfl ?_
            exact ⟨rfl, (HB2.out.setCell (Nat.le_refl _) _).setCell (Nat.le_refl _) _⟩
    · rw [Nat.min_eq_left hc]
      have hcz : ¬ (len : Int) < (limit : Int) := by omega
      by_cases hs : gn < limit
      · rw [if_pos hs]
        have hsz : (gn : Int) < (limit : Int) := by omega
        go_enter Try.func39, Try.ntmps39
        go_wp2_with (first
          | (go_at_call 55; (with_reducible refine HCNT.out.mono ?_); rintro e w2 ⟨rfl, hw2⟩; rw [hw2]; clear hw2)
          | (go_at_call 40; (with_reducible refine HLEN.out.mono ?_); rintro e w2 ⟨rfl, d, hw2⟩; obtain ⟨c2, c6, hA2, hB2⟩ := HX.out w2 d hw2; clear hw2; have d0 := hA2.cell 0; have d1 := hA2.cell 1; have f0 := hA2.frozen 0; have f1 := hA2.frozen 1; simp only [List.getElem?_cons_zero, List.getElem?_cons_succ] at d0 d1; have HA2 := Lib.hid hA2; have HB2 := Lib.hid hB2; clear hA2 hB2))
        refine bodyPost_ret (results_cell_tmp 4 5 62 (by rfl) _ 62 _ _ _ (by rfl) (by rfl) (at_two HA2.out _ _) Try.underlying62 rfl (by kernel_rfl)) rfl ?_
        exact ⟨rfl, (HB2.out.setCell (Nat.le_refl _) _).setCell (Nat.le_refl _) _⟩
      · rw [if_neg hs]
        have hsz : ¬ (gn : Int) < (limit : Int) := by omega
        cases du
        · simp only [Bool.false_and, Bool.false_eq_true, if_false]
          go_enter Try.func39, Try.ntmps39
          go_wp2_with (first
            | (go_at_call 55; (with_reducible refine HCNT.out.mono ?_); rintro e w2 ⟨rfl, hw2⟩; rw [hw2]; clear hw2)
            | (go_at_call 40; (with_reducible refine HLEN.out.mono ?_); rintro e w2 ⟨rfl, d, hw2⟩; obtain ⟨c2, c6, hA2, hB2⟩ := HX.out w2 d hw2; clear hw2; have d0 := hA2.cell 0; have d1 := hA2.cell 1; have f0 := hA2.frozen 0; have f1 := hA2.frozen 1; simp only [List.getElem?_cons_zero, List.getElem?_cons_succ] at d0 d1; have HA2 := Lib.hid hA2; have HB2 := Lib.hid hB2; clear hA2 hB2))
          refine bodyPost_ret (results_cell_tmp 4 5 62 (by rfl) _ 62 _ _ _ (by rfl) (by rfl) (at_two HA2.out _ _) Try.underlying62 rfl (by kernel_rfl)) rfl ?_
          exact ⟨rfl, (HB2.out.setCell (Nat.le_refl _) _).setCell (Nat.le_refl _) _⟩
        · by_cases he : gn = len
          · subst he
            simp only [decide_true, Bool.and_self, if_true]
            go_enter Try.func39, Try.ntmps39
            go_wp2_with (first
              | (go_at_call 55; (with_reducible refine HCNT.out.mono ?_); rintro e w2 ⟨rfl, hw2⟩; rw [hw2]; clear hw2)
              | (go_at_call 40; (with_reducible refine HLEN.out.mono ?_); rintro e w2 ⟨rfl, d, hw2⟩; obtain ⟨c2, c6, hA2, hB2⟩ := HX.out w2 d hw2; clear hw2; have d0 := hA2.cell 0; have d1 := hA2.cell 1; have f0 := hA2.frozen 0; have f1 := hA2.frozen 1; simp only [List.getElem?_cons_zero, List.getElem?_cons_succ] at d0 d1; have HA2 := Lib.hid hA2; have HB2 := Lib.hid hB2; clear hA2 hB2))
            refine bodyPost_ret (results_cell_tmp 4 5 62 (by rfl) _ 62 _ _ _ (by rfl) (by rfl) (at_two HA2.out _ _) Try.underlying62 rfl (by kernel_rfl)) rfl ?_
            exact ⟨rfl, (HB2.out.setCell (Nat.le_refl _) _).setCell (Nat.le_refl _) _⟩
          · have hez : ¬ (gn : Int) = (len : Int) := by omega
            simp only [he, decide_false, Bool.and_false, Bool.false_eq_true, if_false]
            go_enter Try.func39, Try.ntmps39
            go_wp2_with (first
              | (go_at_call 55; (with_reducible refine HCNT.out.mono ?_); rintro e w2 ⟨rfl, hw2⟩; rw [hw2]; clear hw2)
              | (go_at_call 40; (with_reducible refine HLEN.out.mono ?_); rintro e w2 ⟨rfl, d, hw2⟩; obtain ⟨c2, c6, hA2, hB2⟩ := HX.out w2 d hw2; clear hw2; have d0 := hA2.cell 0; have d1 := hA2.cell 1; have f0 := hA2.frozen 0; have f1 := hA2.frozen 1; simp only [List.getElem?_cons_zero, List.getElem?_cons_succ] at d0 d1; have HA2 := Lib.hid hA2; have HB2 := Lib.hid hB2; clear hA2 hB2))
            refine bodyPost_ret (results_cell_tmp 4 5 62 (by rfl) _ 62 _ _ _ (by rfl) (by rfl) (at_two HA2.out _ _) Try.underlying62 rfl (by kernel_rfl)) rfl ?_
            exact ⟨rfl, (HB2.out.setCell (Nat.le_refl _) _).setCell (Nat.le_refl _) _⟩
end Go.Proofs.Ytohahkjikhpamaa
