/-
  outbuf.Buffer: told, ahead, Waits.
-/
import Derived.Test.YtohahkjikhpamaaMq7
import Derived.Test.YtohahkjikhpamaaMq4
import Derived.Test.YtohahkjikhpamaaMq1
import Derived.Test.YtohahkjikhpamaaQm
import Derived.Test.YtohahkjikhpamaaQk
import Derived.Test.YtohahkjikhpamaaMq0
namespace Go.Proofs.Ytohahkjikhpamaa
section
set_option linter.unusedVariables false
set_option linter.unusedSimpArgs false
open Go.RowKit
theorem below_drewN {B : Nat} {w w' : World} (h : Below B w w') (n : Nat) : Below B w (w'.drewN n) := h.trans ⟨rfl, rfl, rfl, Nat.le_refl _, fun _ _ => rfl⟩
def tLo (gn off : Nat) : Nat := min off gn
def tHi (gn off : Nat) (n : Int) : Nat := tLo gn off + min n.toNat (gn - tLo gn off)
theorem tHi_le (gn off : Nat) (n : Int) : tLo gn off ≤ tHi gn off n ∧ tHi gn off n ≤ gn := by unfold tHi tLo; omega
set_option maxHeartbeats 1000000 in
set_option maxRecDepth 100000 in
theorem told_any {w : World} {p : Nat} (gn off : Nat) (n : Int) (hlt : p < w.heap.size) (h2 : w.cell? ⟨p, 2, none⟩ = some (.int .u64 gn)) (hg : gn ≤ 1099511627776) (ho : off < 18446744073709551616) (hn : -9223372036854775808 ≤ n ∧ n < 9223372036854775808) :
    Calls Try.prog 34 #[.pointer (some ⟨p, 0, none⟩), .int .u64 off, .int .i64 n] w fun e w' => e = .returned (.agg #[.int .u64 (tLo gn off), .int .u64 (tHi gn off n)]) ∧ Below w.heap.size w w' := by
  have hB0 : Below w.heap.size w (w.alloc (.cells #[.int .u64 0, .int .u64 0] 62)) := (Below.refl _ w).alloc (Nat.le_refl _) _
  have hA1 : At (w.alloc (.cells #[.int .u64 0, .int .u64 0] 62)) w.heap.size 62 [.int .u64 0, .int .u64 0] := At.new w _ _
  have h2' : (w.alloc (.cells #[.int .u64 0, .int .u64 0] 62)).cell? ⟨p, 2, none⟩ = some (.int .u64 gn) := (hB0.cell (p := ⟨p, 2, none⟩) hlt).trans h2
  have d0 := hA1.cell 0
  have d1 := hA1.cell 1
  have f0 := hA1.frozen 0
  have f1 := hA1.frozen 1
  simp only [List.getElem?_cons_zero, List.getElem?_cons_succ] at d0 d1
  have HA := Lib.hid hA1
  have HB := Lib.hid hB0
  clear hB0 hA1
  unfold tHi tLo
  obtain ⟨lo, hlo⟩ : ∃ lo, lo = min off gn := ⟨_, rfl⟩
  obtain ⟨M, hM⟩ : ∃ M, M = n.toNat := ⟨_, rfl⟩
  obtain ⟨D, hD⟩ : ∃ D, D = gn - lo := ⟨_, rfl⟩
  obtain ⟨k, hk⟩ : ∃ k, k = min M D := ⟨_, rfl⟩
  obtain ⟨hi, hhi⟩ : ∃ hi, hi = lo + k := ⟨_, rfl⟩
  rw [← hlo, ← hM, ← hD, ← hk, ← hhi]
  have e1 : (if (gn : Int) < (off : Int) then (gn : Int) else (off : Int)) = (lo : Int) := by split <;> omega
  have e2 : (if n < 0 then 0 else n) = (M : Int) := by split <;> omega
  have e3 : (gn : Int) - (lo : Int) = (D : Int) := by omega
  have e4 : (if (D : Int) < (M : Int) then (D : Int) else (M : Int)) = (k : Int) := by split <;> omega
  have e5 : (lo : Int) + (k : Int) = (hi : Int) := by omega
  have b1 : lo ≤ 1099511627776 := by omega
  have b2 : D ≤ 1099511627776 := by omega
  have b3 : hi ≤ 1099511627776 := by omega
  have b4 : M < 9223372036854775808 := by omega
  have b5 : k ≤ 1099511627776 := by omega
  have w1' : IntKind.u64.wrap (M : Int) = (M : Int) := by rw [IntKind.wrap_u64]; omega
  have w2' : IntKind.u64.wrap (D : Int) = (D : Int) := by rw [IntKind.wrap_u64]; omega
  have w3' : IntKind.u64.wrap (hi : Int) = (hi : Int) := by rw [IntKind.wrap_u64]; omega
  have HM := Lib.hid (And.intro hlo (And.intro hM (And.intro hD (And.intro hk hhi))))
  have HQ : Hid (∀ x y : Int, x = lo → y = hi → (Ending.returned (.agg #[.int .u64 x, .int .u64 y]) = .returned (.agg #[.int .u64 lo, .int .u64 hi]) ∧ Below w.heap.size w (w.alloc (.cells #[.int .u64 x, .int .u64 y] 62)))) := Lib.hid (fun x y hx hy => by subst hx; subst hy; exact ⟨rfl, (Below.refl _ w).alloc (Nat.le_refl _) _⟩)
  clear hlo hM hD hk hhi h2 hlt
  go_enter Try.func34, Try.ntmps34
  go_wp2
  all_goals refine bodyPost_ret (results_cell 6 62 (by rfl) _ 62 _ _ (by rfl) (At.new w _ [_, _]) Try.underlying62 rfl (by kernel_rfl)) rfl ?_
  all_goals exact HQ.out _ _ (by have := HM.out; omega) (by have := HM.out; omega)
/-- What is to be sent next. -/
def ahO (S : OS) (ll : RL) (limit : Nat) : (Int × Int) × Bool :=
  match ll with
  | r :: _ => (r, true)
  | [] => if S.gn < min limit S.bs.length then ((S.gn, (min limit S.bs.length : Nat)), true) else if endO S && decide (S.gn = S.bs.length) then ((S.bs.length, S.bs.length), true) else ((0, 0), false)
def ahV (a : (Int × Int) × Bool) : Array Value := #[.agg #[.int .u64 a.1.1, .int .u64 a.1.2], .bool a.2]
set_option maxHeartbeats 4000000 in
set_option maxRecDepth 100000 in
theorem ahead_at {w : World} {base p pa pl : Nat} {va vl vw : Value} {la ll : RL} {S : OS} (h : Om w base p pa pl va vl vw la ll (S.bs.drop (baseO S)) (baseO S) S.gn S.ov (endO S) S.en S.ea) (hy : Sa S la ll) (hn : ll.length ≤ 2000000) (hL : S.bs.length ≤ 1099511627776) (limit : Nat) (hl : limit < 18446744073709551616) :
    Calls Try.prog 39 #[.pointer (some ⟨p, 0, none⟩), .int .u64 limit] w fun e w' => e = .returned (.tuple (ahV (ahO S ll limit))) ∧ Below w.heap.size w w' := by
  have hB0 : Below w.heap.size w (w.alloc (.cells #[.int .u64 0, .int .u64 0] 62)) := (Below.refl _ w).alloc (Nat.le_refl _) _
  have hA1 : At (w.alloc (.cells #[.int .u64 0, .int .u64 0] 62)) w.heap.size 62 [.int .u64 0, .int .u64 0] := At.new w _ _
  have h1 := h.below hB0
  have hOf : Of (w.alloc (.cells #[.int .u64 0, .int .u64 0] 62)) base p _ S := ⟨pa, pl, va, vl, vw, la, ll, rfl, h1, hy⟩
  have HLEN := Lib.hid (olen_any hOf hL)
  have HSZ : Hid (w.heap.size < (w.alloc (.cells #[.int .u64 0, .int .u64 0] 62)).heap.size) := Lib.hid (by simp)
  have HCNT := Lib.hid (len_any' base pl 2048 vl ll _ h1.sl)
  have HALL := Lib.hid (all_any' base pl 2048 vl ll _ h1.sl hn)
  have h4 := h1.c4
  have HA := Lib.hid hA1
  have HB := Lib.hid hB0
  have HOM := Lib.hid h1
  have hg : S.gn ≤ 1099511627776 ∨ True := .inr trivial
  cases hll : ll with
  | cons r t =>
    have hlz : (0 : Int) < ((r :: t).length : Nat) := by simp
    rw [hll] at HCNT HALL
    obtain ⟨L, hLL⟩ : ∃ L, (r :: t).length = L := ⟨_, rfl⟩
    have hcl : ∀ (w2 : World) (v' : Value) (b : Nat), OwnL w2 b v' (r :: t) → ∃ g c, v' = .slice (some ⟨g, 0, none⟩) L c ∧ w2.cell? ⟨g, 0, none⟩ = some (.int .u64 r.1) ∧ w2.cell? ⟨g, 1, none⟩ = some (.int .u64 r.2) := fun w2 v' b ho => by
      obtain ⟨g, c, e, _, _, h5, h6⟩ := ho.cell (i := 0) rfl
      rw [hLL] at e
      exact ⟨g, c, e, h5, h6⟩
    have HCL := Lib.hid hcl
    rw [hLL] at hlz HCNT
    have h0L : 0 < L := by omega
    clear h h1 hy hOf HLEN hA1 hB0 hcl hLL hg
    unfold ahO
    obtain ⟨ra, rb⟩ := r
    simp only at HCL ⊢
    go_enter Try.func39, Try.ntmps39
    go_wp2_with (first
      | (go_at_call 55; (with_reducible refine HCNT.out.mono ?_); rintro e w2 ⟨rfl, hw2⟩; rw [hw2]; clear hw2)
      | (go_at_call 56; (with_reducible refine HALL.out.mono ?_); rintro e w2 ⟨v', rfl, ho, hB2⟩; obtain ⟨g2, c2, rfl, e0, e1⟩ := HCL.out w2 v' _ ho; have hA2 := HA.out.below hB2 HSZ.out; have d0 := hA2.cell 0; have d1 := hA2.cell 1; have f0 := hA2.frozen 0; have f1 := hA2.frozen 1; simp only [List.getElem?_cons_zero, List.getElem?_cons_succ] at d0 d1; have HA2 := Lib.hid hA2; have HB2 := Lib.hid (HB.out.trans (hB2.mono HB.out.size)); clear ho hA2 hB2))
    refine bodyPost_ret (results_cell_tmp 4 5 62 (by rfl) _ 62 _ _ _ (by rfl) (by rfl) (at_two HA2.out _ _) Try.underlying62 rfl (by kernel_rfl)) rfl ?_
    exact ⟨rfl, (HB2.out.setCell (Nat.le_refl _) _).setCell (Nat.le_refl _) _⟩
  | nil =>
    rw [hll] at HCNT
    have HX : Hid (∀ w2 d, w2 = (w.alloc (.cells #[.int .u64 0, .int .u64 0] 62)).drewN d → w2.cell? ⟨p, 2, none⟩ = some (.int .u64 S.gn) ∧ w2.cell? ⟨p, 6, none⟩ = some (.bool (endO S)) ∧ At w2 w.heap.size 62 [.int .u64 0, .int .u64 0] ∧ Below w.heap.size w w2) := Lib.hid (fun w2 d e => by
      subst e
      exact ⟨(HOM.out.drewN d).c2, (HOM.out.drewN d).c6, HA.out.drewN d, below_drewN HB.out d⟩)
    have hlz : ¬ (0 : Int) < (([] : RL).length : Nat) := by simp
    have hAH : ahO S [] limit = if S.gn < min limit S.bs.length then (((S.gn : Int), ((min limit S.bs.length : Nat) : Int)), true) else if endO S && decide (S.gn = S.bs.length) then (((S.bs.length : Int), (S.bs.length : Int)), true) else ((0, 0), false) := rfl
    rw [hAH]
    clear h h1 hy hOf hA1 hB0 hAH HALL HOM hg
    generalize S.bs.length = len at *
    generalize S.gn = gn at *
    generalize endO S = du at *
    rcases Nat.lt_or_ge len limit with hc | hc
    · rw [Nat.min_eq_right (Nat.le_of_lt hc)]
      have hcz : (len : Int) < (limit : Int) := by omega
      by_cases hs : gn < len
      · rw [if_pos hs]
        have hsz : (gn : Int) < (len : Int) := by omega
        go_enter Try.func39, Try.ntmps39
        go_wp2_with (first
          | (go_at_call 55; (with_reducible refine HCNT.out.mono ?_); rintro e w2 ⟨rfl, hw2⟩; rw [hw2]; clear hw2)
          | (go_at_call 40; (with_reducible refine HLEN.out.mono ?_); rintro e w2 ⟨rfl, d, hw2⟩; obtain ⟨c2, c6, hA2, hB2⟩ := HX.out w2 d hw2; clear hw2; have d0 := hA2.cell 0; have d1 := hA2.cell 1; have f0 := hA2.frozen 0; have f1 := hA2.frozen 1; simp only [List.getElem?_cons_zero, List.getElem?_cons_succ] at d0 d1; have HA2 := Lib.hid hA2; have HB2 := Lib.hid hB2; clear hA2 hB2))
        refine bodyPost_ret (results_cell_tmp 4 5 62 (by rfl) _ 62 _ _ _ (by rfl) (by rfl) (at_two HA2.out _ _) Try.underlying62 rfl (by kernel_rfl)) rfl ?_
        exact ⟨rfl, (HB2.out.setCell (Nat.le_refl _) _).setCell (Nat.le_refl _) _⟩
      · rw [if_neg hs]
        have hsz : ¬ (gn : Int) < (len : Int) := by omega
        cases du
        · simp only [Bool.false_and, Bool.false_eq_true, if_false]
          go_enter Try.func39, Try.ntmps39
          go_wp2_with (first
            | (go_at_call 55; (with_reducible refine HCNT.out.mono ?_); rintro e w2 ⟨rfl, hw2⟩; rw [hw2]; clear hw2)
            | (go_at_call 40; (with_reducible refine HLEN.out.mono ?_); rintro e w2 ⟨rfl, d, hw2⟩; obtain ⟨c2, c6, hA2, hB2⟩ := HX.out w2 d hw2; clear hw2; have d0 := hA2.cell 0; have d1 := hA2.cell 1; have f0 := hA2.frozen 0; have f1 := hA2.frozen 1; simp only [List.getElem?_cons_zero, List.getElem?_cons_succ] at d0 d1; have HA2 := Lib.hid hA2; have HB2 := Lib.hid hB2; clear hA2 hB2))
          refine bodyPost_ret (results_cell_tmp 4 5 62 (by rfl) _ 62 _ _ _ (by rfl) (by rfl) (at_two HA2.out _ _) Try.underlying62 rfl (by kernel_rfl)) rfl ?_
          exact ⟨rfl, (HB2.out.setCell (Nat.le_refl _) _).setCell (Nat.le_refl _) _⟩
        · by_cases he : gn = len
          · subst he
            simp only [decide_true, Bool.and_self, if_true]
            go_enter Try.func39, Try.ntmps39
            go_wp2_with (first
              | (go_at_call 55; (with_reducible refine HCNT.out.mono ?_); rintro e w2 ⟨rfl, hw2⟩; rw [hw2]; clear hw2)
              | (go_at_call 40; (with_reducible refine HLEN.out.mono ?_); rintro e w2 ⟨rfl, d, hw2⟩; obtain ⟨c2, c6, hA2, hB2⟩ := HX.out w2 d hw2; clear hw2; have d0 := hA2.cell 0; have d1 := hA2.cell 1; have f0 := hA2.frozen 0; have f1 := hA2.frozen 1; simp only [List.getElem?_cons_zero, List.getElem?_cons_succ] at d0 d1; have HA2 := Lib.hid hA2; have HB2 := Lib.hid hB2; clear hA2 hB2))
            refine bodyPost_ret (results_cell_tmp 4 5 62 (by rfl) _ 62 _ _ _ (by rfl) (by rfl) (at_two HA2.out _ _) Try.underlying62 rfl (by kernel_rfl)) rfl ?_
            exact ⟨rfl, (HB2.out.setCell (Nat.le_refl _) _).setCell (Nat.le_refl _) _⟩
          · have hez : ¬ (gn : Int) = (len : Int) := by omega
            simp only [he, decide_false, Bool.and_false, Bool.false_eq_true, if_false]
            go_enter Try.func39, Try.ntmps39
            go_wp2_with (first
              | (go_at_call 55; (with_reducible refine HCNT.out.mono ?_); rintro e w2 ⟨rfl, hw2⟩; rw [hw2]; clear hw2)
              | (go_at_call 40; (with_reducible refine HLEN.out.mono ?_); rintro e w2 ⟨rfl, d, hw2⟩; obtain ⟨c2, c6, hA2, hB2⟩ := HX.out w2 d hw2; clear hw2; have d0 := hA2.cell 0; have d1 := hA2.cell 1; have f0 := hA2.frozen 0; have f1 := hA2.frozen 1; simp only [List.getElem?_cons_zero, List.getElem?_cons_succ] at d0 d1; have HA2 := Lib.hid hA2; have HB2 := Lib.hid hB2; clear hA2 hB2))
            refine bodyPost_ret (results_cell_tmp 4 5 62 (by rfl) _ 62 _ _ _ (by rfl) (by rfl) (at_two HA2.out _ _) Try.underlying62 rfl (by kernel_rfl)) rfl ?_
            exact ⟨rfl, (HB2.out.setCell (Nat.le_refl _) _).setCell (Nat.le_refl _) _⟩
    · rw [Nat.min_eq_left hc]
      have hcz : ¬ (len : Int) < (limit : Int) := by omega
      by_cases hs : gn < limit
      · rw [if_pos hs]
        have hsz : (gn : Int) < (limit : Int) := by omega
        go_enter Try.func39, Try.ntmps39
        go_wp2_with (first
          | (go_at_call 55; (with_reducible refine HCNT.out.mono ?_); rintro e w2 ⟨rfl, hw2⟩; rw [hw2]; clear hw2)
          | (go_at_call 40; (with_reducible refine HLEN.out.mono ?_); rintro e w2 ⟨rfl, d, hw2⟩; obtain ⟨c2, c6, hA2, hB2⟩ := HX.out w2 d hw2; clear hw2; have d0 := hA2.cell 0; have d1 := hA2.cell 1; have f0 := hA2.frozen 0; have f1 := hA2.frozen 1; simp only [List.getElem?_cons_zero, List.getElem?_cons_succ] at d0 d1; have HA2 := Lib.hid hA2; have HB2 := Lib.hid hB2; clear hA2 hB2))
        refine bodyPost_ret (results_cell_tmp 4 5 62 (by rfl) _ 62 _ _ _ (by rfl) (by rfl) (at_two HA2.out _ _) Try.underlying62 rfl (by kernel_rfl)) rfl ?_
        exact ⟨rfl, (HB2.out.setCell (Nat.le_refl _) _).setCell (Nat.le_refl _) _⟩
      · rw [if_neg hs]
        have hsz : ¬ (gn : Int) < (limit : Int) := by omega
        cases du
        · simp only [Bool.false_and, Bool.false_eq_true, if_false]
          go_enter Try.func39, Try.ntmps39
          go_wp2_with (first
            | (go_at_call 55; (with_reducible refine HCNT.out.mono ?_); rintro e w2 ⟨rfl, hw2⟩; rw [hw2]; clear hw2)
            | (go_at_call 40; (with_reducible refine HLEN.out.mono ?_); rintro e w2 ⟨rfl, d, hw2⟩; obtain ⟨c2, c6, hA2, hB2⟩ := HX.out w2 d hw2; clear hw2; have d0 := hA2.cell 0; have d1 := hA2.cell 1; have f0 := hA2.frozen 0; have f1 := hA2.frozen 1; simp only [List.getElem?_cons_zero, List.getElem?_cons_succ] at d0 d1; have HA2 := Lib.hid hA2; have HB2 := Lib.hid hB2; clear hA2 hB2))
          refine bodyPost_ret (results_cell_tmp 4 5 62 (by rfl) _ 62 _ _ _ (by rfl) (by rfl) (at_two HA2.out _ _) Try.underlying62 rfl (by kernel_rfl)) rfl ?_
          exact ⟨rfl, (HB2.out.setCell (Nat.le_refl _) _).setCell (Nat.le_refl _) _⟩
        · by_cases he : gn = len
          · subst he
            simp only [decide_true, Bool.and_self, if_true]
            go_enter Try.func39, Try.ntmps39
            go_wp2_with (first
              | (go_at_call 55; (with_reducible refine HCNT.out.mono ?_); rintro e w2 ⟨rfl, hw2⟩; rw [hw2]; clear hw2)
              | (go_at_call 40; (with_reducible refine HLEN.out.mono ?_); rintro e w2 ⟨rfl, d, hw2⟩; obtain ⟨c2, c6, hA2, hB2⟩ := HX.out w2 d hw2; clear hw2; have d0 := hA2.cell 0; have d1 := hA2.cell 1; have f0 := hA2.frozen 0; have f1 := hA2.frozen 1; simp only [List.getElem?_cons_zero, List.getElem?_cons_succ] at d0 d1; have HA2 := Lib.hid hA2; have HB2 := Lib.hid hB2; clear hA2 hB2))
            refine bodyPost_ret (results_cell_tmp 4 5 62 (by rfl) _ 62 _ _ _ (by rfl) (by rfl) (at_two HA2.out _ _) Try.underlying62 rfl (by kernel_rfl)) rfl ?_
            exact ⟨rfl, (HB2.out.setCell (Nat.le_refl _) _).setCell (Nat.le_refl _) _⟩
          · have hez : ¬ (gn : Int) = (len : Int) := by omega
            simp only [he, decide_false, Bool.and_false, Bool.false_eq_true, if_false]
            go_enter Try.func39, Try.ntmps39
            go_wp2_with (first
              | (go_at_call 55; (with_reducible refine HCNT.out.mono ?_); rintro e w2 ⟨rfl, hw2⟩; rw [hw2]; clear hw2)
              | (go_at_call 40; (with_reducible refine HLEN.out.mono ?_); rintro e w2 ⟨rfl, d, hw2⟩; obtain ⟨c2, c6, hA2, hB2⟩ := HX.out w2 d hw2; clear hw2; have d0 := hA2.cell 0; have d1 := hA2.cell 1; have f0 := hA2.frozen 0; have f1 := hA2.frozen 1; simp only [List.getElem?_cons_zero, List.getElem?_cons_succ] at d0 d1; have HA2 := Lib.hid hA2; have HB2 := Lib.hid hB2; clear hA2 hB2))
            refine bodyPost_ret (results_cell_tmp 4 5 62 (by rfl) _ 62 _ _ _ (by rfl) (by rfl) (at_two HA2.out _ _) Try.underlying62 rfl (by kernel_rfl)) rfl ?_
            exact ⟨rfl, (HB2.out.setCell (Nat.le_refl _) _).setCell (Nat.le_refl _) _⟩
end
section
set_option linter.unusedVariables false
set_option linter.unusedSimpArgs false
open Go.RowKit
/-- A buffer: what was read, the highest end, the end; whether that is known; what came first at each offset. -/
structure BS where
  rd : Nat
  hi : Nat
  fi : Nat
  en : Bool
  g : Nat → Option Int
structure BS.ok (S : BS) : Prop where
  rh : S.rd ≤ S.hi
  hr : S.hi ≤ S.rd + 2048
  hm : S.hi ≤ 1099511628288
  fm : S.fi ≤ 1099511628288
  no : ∀ n, S.hi ≤ n → S.g n = none
  byt : ∀ n x, S.g n = some x → 0 ≤ x ∧ x < 256
  al : ∀ n, n < S.rd → (S.g n).isSome = true
/-- So many bytes are there without a gap. -/
def IsR (g : Nat → Option Int) (rd k : Nat) : Prop := (∀ i, i < k → (g (rd + i)).isSome = true) ∧ g (rd + k) = none
theorem isR_ex (g : Nat → Option Int) : ∀ (m rd : Nat), g (rd + m) = none → ∃ k, k ≤ m ∧ IsR g rd k
  | 0, rd, h => ⟨0, Nat.le_refl _, fun i hi => absurd hi (by omega), h⟩
  | m + 1, rd, h => by
    cases h0 : g rd with
    | none => exact ⟨0, by omega, fun i hi => absurd hi (by omega), h0⟩
    | some x =>
      obtain ⟨k, h1, h2, h3⟩ := isR_ex g m (rd + 1) (by rw [← h]; congr 1; omega)
      refine ⟨k + 1, by omega, fun i hi => ?_, by rw [← h3]; congr 1; omega⟩
      cases i with
      | zero => rw [Nat.add_zero, h0]; rfl
      | succ j => have := h2 j (by omega); rw [show rd + (j + 1) = rd + 1 + j by omega]; exact this
theorem BS.ok.ready {S : BS} (h : S.ok) : ∃ k, S.rd + k ≤ S.hi ∧ IsR S.g S.rd k := by
  obtain ⟨k, h1, h2⟩ := isR_ex S.g (S.hi - S.rd) S.rd (h.no _ (by have := h.rh; omega))
  exact ⟨k, by have := h.rh; omega, h2⟩
theorem IsR.uniq {g : Nat → Option Int} {rd k j : Nat} (h : IsR g rd k) (h' : IsR g rd j) : k = j := by
  rcases Nat.lt_trichotomy k j with hl | rfl | hl
  · have := h'.1 k hl
    rw [h.2] at this
    cases this
  · rfl
  · have := h.1 j hl
    rw [h'.2] at this
    cases this
theorem IsR.le {S : BS} {k : Nat} (h : S.ok) (h' : IsR S.g S.rd k) : S.rd + k ≤ S.hi := by
  obtain ⟨j, h1, h2⟩ := h.ready
  rw [h'.uniq h2]
  exact h1
/-- The program's ranges and bytes keep what came from rd on. -/
structure Pm (rd : Nat) (l : RL) (W : List Int) (g : Nat → Option Int) : Prop where
  gd : Gd l
  rng : ∀ r ∈ l, (rd : Int) ≤ r.1 ∧ r.2 ≤ rd + W.length
  wl : W.length ≤ 2048
  has : ∀ n : Nat, rd ≤ n → hasL l n = (g n).isSome
  byt : ∀ (n : Nat) x, rd ≤ n → g n = some x → W[n - rd]? = some x
theorem gd_len : ∀ (l : RL) (lo hi : Int), Gd l → (∀ r ∈ l, lo ≤ r.1 ∧ r.2 ≤ hi) → lo ≤ hi + 1 → (l.length : Int) * 2 ≤ hi + 1 - lo
  | [], lo, hi, _, _, h => by simp; omega
  | r :: t, lo, hi, hg, hb, h => by
    have h' := gd_cons.1 hg
    have h1 := hb r (List.mem_cons_self ..)
    have h2 := h'.1
    unfold OkR at h2
    have ih := gd_len t (lo + 2) hi h'.2.1 (fun s hs => ⟨by have := h'.2.2 s hs; omega, (hb s (List.mem_cons_of_mem _ hs)).2⟩) (by omega)
    rw [List.length_cons]
    omega
theorem Pm.len {rd : Nat} {l : RL} {W : List Int} {g : Nat → Option Int} (h : Pm rd l W g) : l.length ≤ 1024 := by
  have := gd_len l rd (rd + W.length) h.gd h.rng (by omega)
  have := h.wl
  omega
theorem gapE_spec : ∀ (l : RL) (a to : Int), gapE l a to ≤ to ∧ (∀ r ∈ l, a < r.1 → gapE l a to ≤ r.1) ∧ (a < to → a < gapE l a to)
  | [], a, to => ⟨Int.le_refl _, fun r h => (by cases h), fun h => h⟩
  | r :: t, a, to => by
    have e : gapE (r :: t) a to = gapE t a (if a < r.1 then min to r.1 else to) := rfl
    obtain ⟨h1, h2, h3⟩ := gapE_spec t a (if a < r.1 then min to r.1 else to)
    rw [e]
    generalize gapE t a (if a < r.1 then min to r.1 else to) = E at *
    by_cases hc : a < r.1
    · rw [if_pos hc] at h1 h3
      refine ⟨by omega, fun s hs hl => ?_, fun h => h3 (by omega)⟩
      rcases List.mem_cons.1 hs with rfl | hs
      · omega
      · exact h2 s hs hl
    · rw [if_neg hc] at h1 h3
      refine ⟨h1, fun s hs hl => ?_, h3⟩
      rcases List.mem_cons.1 hs with rfl | hs
      · exact absurd hl hc
      · exact h2 s hs hl
theorem gapF_spec {l : RL} (hg : Gd l) (f : Int) : f ≤ gapF l f ∧ (∀ n, f ≤ n → n < gapF l f → hasL l n = true) ∧ hasL l (gapF l f) = false := by
  obtain ⟨A, B, e, ha, hb⟩ := split_at (fun r => decide (f < r.2)) l (hg.mono _ fun a b h1 h2 h3 h4 => by unfold OkR at *; simp at *; omega)
  have ha' : ∀ r ∈ A, r.2 ≤ f := fun r hr => by have := ha r hr; simp at this; exact this
  have hb' : ∀ r ∈ B, f < r.2 := fun r hr => by have := hb r hr; simpa using this
  have hga := gap_at hg e ha' hb'
  have hat := has_at hg e ha' hb'
  cases B with
  | nil =>
    obtain ⟨h1, h2⟩ : gapF l f = f ∧ ∀ to, gapE l f to = to := hga
    rw [h1]
    exact ⟨Int.le_refl _, fun n h h' => by omega, hat⟩
  | cons r t =>
    obtain ⟨hA, hB⟩ : (r.1 ≤ f → gapF l f = r.2 ∧ ∀ to, gapE l r.2 to = minHead t to) ∧ (f < r.1 → gapF l f = f ∧ ∀ to, gapE l f to = min to r.1) := hga
    have hgr := gd_cons.1 (gd_app.1 (e ▸ hg)).2.1
    have hr := hb' r (List.mem_cons_self ..)
    by_cases hrf : r.1 ≤ f
    · rw [(hA hrf).1]
      refine ⟨by omega, fun n h h' => ?_, ?_⟩
      · rw [has_true]
        exact ⟨r, by rw [e]; exact List.mem_append_right _ (List.mem_cons_self ..), by omega, h'⟩
      · have hat2 := has_at (n := r.2) (A := A ++ [r]) (B := t) hg (by rw [e]; simp) (fun x hx => by
          rcases List.mem_append.1 hx with hx | hx
          · have := ha' x hx; omega
          · rw [List.mem_singleton] at hx
            subst hx
            omega) (fun x hx => by
          have h1 := hgr.2.2 x hx
          have h2 := hgr.2.1.1 x hx
          unfold OkR at h2
          omega)
        rw [hat2]
        cases t with
        | nil => rfl
        | cons s u =>
          have := hgr.2.2 s (List.mem_cons_self ..)
          show decide (s.1 ≤ r.2) = false
          simp
          omega
    · rw [(hB (by omega)).1]
      refine ⟨Int.le_refl _, fun n h h' => by omega, ?_⟩
      rw [hat]
      show decide (r.1 ≤ f) = false
      simp
      omega
/-- What Gap answers, in words. -/
theorem gap_cases {l : RL} (hg : Gd l) (f to : Nat) :
    (gapV l f to = #[.agg #[.int .u64 0, .int .u64 0], .bool false] ∧ ∀ n : Nat, f ≤ n → n < to → hasL l n = true) ∨
    ∃ a e : Nat, gapV l f to = #[.agg #[.int .u64 a, .int .u64 e], .bool true] ∧ f ≤ a ∧ a < e ∧ e ≤ to ∧ (∀ n : Nat, f ≤ n → n < a → hasL l n = true) ∧ (∀ n : Nat, a ≤ n → n < e → hasL l n = false) := by
  obtain ⟨h1, h2, h3⟩ := gapF_spec hg f
  obtain ⟨k1, k2, k3⟩ := gapE_spec l (gapF l f) to
  unfold gapV
  split
  · rename_i h
    exact .inl ⟨rfl, fun n hn hn' => h2 n (by omega) (by omega)⟩
  · rename_i h
    right
    obtain ⟨a, ha⟩ : ∃ a : Nat, gapF l f = (a : Int) := ⟨(gapF l f).toNat, by omega⟩
    rw [ha] at h1 h2 h3 k1 k2 k3 h ⊢
    have k3' := k3 (by omega)
    obtain ⟨e, he⟩ : ∃ e : Nat, gapE l a to = (e : Int) := ⟨(gapE l a to).toNat, by omega⟩
    rw [he] at k1 k2 k3' ⊢
    clear k3
    refine ⟨a, e, rfl, by omega, by omega, by omega, fun n hn hn' => h2 n (by omega) (by omega), fun n hn hn' => ?_⟩
    cases hh : hasL l n with
    | false => rfl
    | true =>
      obtain ⟨r, hr, hr1, hr2⟩ := has_true.1 hh
      by_cases hc : (a : Int) < r.1
      · have := k2 r hr hc
        omega
      · have : hasL l a = true := has_true.2 ⟨r, hr, by omega, by omega⟩
        rw [h3] at this
        cases this
end
end Go.Proofs.Ytohahkjikhpamaa
