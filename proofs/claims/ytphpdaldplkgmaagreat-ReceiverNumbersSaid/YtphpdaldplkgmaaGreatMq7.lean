/-
  An Ack's ranges as they are read (frame.readAck): numbers that wrap round and all.
-/
import Derived.Test.YtphpdaldplkgmaaGreatMq6
import Derived.Test.YtphpdaldplkgmaaGreatMq4
import Derived.Test.YtphpdaldplkgmaaGreatWack
import Derived.Test.YtphpdaldplkgmaaGreatMq1
import Derived.Test.YtphpdaldplkgmaaGreatMq0
import Derived.IntWalk
import Derived.Test.YtphpdaldplkgmaaGreatMq3
namespace Go.Proofs.YtphpdaldplkgmaaGreat
section
set_option linter.unusedVariables false
set_option linter.unusedSimpArgs false
open Go.RowKit
/-- A number of 64 bits. -/
def W64 (x : Int) : Int := x % 18446744073709551616
theorem wrap_u64 (x : Int) : IntKind.u64.wrap x = W64 x := by rw [IntKind.wrap_u64]; rfl
end
section
set_option linter.unusedVariables false
open Go.RowKit
end
section
set_option linter.unusedVariables false
open Go.RowKit
end
section
set_option linter.unusedVariables false
open Go.RowKit
theorem steps_snoc (a b lo hi : Int) : ∀ (l : RS) (p : Int), stepsOK p (l ++ [(a, b)] ++ [(lo, hi)]) = (stepsOK p (l ++ [(a, b)]) && (decide (b < lo) && decide (lo < hi)))
  | [], p => by simp [stepsOK, Bool.and_assoc]
  | (x, y) :: l, p => by
    have := steps_snoc a b lo hi l y
    simp only [List.cons_append, stepsOK]
    rw [this]
    simp [Bool.and_assoc]
end
section
set_option linter.unusedVariables false
open Go.RowKit
theorem tmod_bd (k m : Int) (hm : 0 < m) : -(m - 1) ≤ k.tmod m ∧ k.tmod m ≤ m - 1 := by
  rcases Int.lt_or_le k 0 with h | h
  · rw [show k = -(-k) by omega, Int.neg_tmod, Int.tmod_eq_emod_of_nonneg (by omega)]
    have := Int.emod_nonneg (-k) (b := m) (by omega)
    have := Int.emod_lt_of_pos (-k) hm
    omega
  · rw [Int.tmod_eq_emod_of_nonneg h]
    have := Int.emod_nonneg k (b := m) (by omega)
    have := Int.emod_lt_of_pos k hm
    omega
theorem tmod_emod (k m : Int) (hm : 0 < m) : k % m = if k.tmod m < 0 then k.tmod m + m else k.tmod m := by
  have hb := tmod_bd k m hm
  have e : k.tmod m % m = k % m := by
    rw [Int.tmod_def, Int.sub_mul_emod_self_left]
  rw [← e]
  split
  · rw [← Int.add_emod_right, Int.emod_eq_of_lt (by omega) (by omega)]
  · exact Int.emod_eq_of_lt (by omega) (by omega)
def withinS (n lo hi : Int) : Int := if lo ≤ n ∧ n ≤ hi then n else lo + n % (hi - lo + 1)
theorem withinS_bd (n lo hi : Int) (h : lo ≤ hi) : lo ≤ withinS n lo hi ∧ withinS n lo hi ≤ hi := by
  unfold withinS
  have a := Int.emod_nonneg n (b := hi - lo + 1) (by omega)
  have b := Int.emod_lt_of_pos n (b := hi - lo + 1) (by omega)
  split <;> omega
theorem within_any (n lo hi : Int) (w : World) (hn0 : -9223372036854775808 ≤ n) (hn1 : n ≤ 9223372036854775807) (hlo : -4611686018427387904 ≤ lo) (hlh : lo ≤ hi) (hhi : hi ≤ 4611686018427387902) :
    Calls Tryz.prog 13 #[.int .i64 n, .int .i64 lo, .int .i64 hi] w fun e w' => e = .returned (.int .i64 (withinS n lo hi)) ∧ w = w' := by
  by_cases hin : lo ≤ n ∧ n ≤ hi
  · have hfin : withinS n lo hi = n := by unfold withinS; rw [if_pos hin]
    have H := Lib.hid hfin; clear hfin
    obtain ⟨h1, h2⟩ := hin
    go_enter Tryz.func13, Tryz.ntmps13
    go_wp2
    go_ret
    exact ⟨ret_int (by rw [H.out]), rfl⟩
  · have hfin : withinS n lo hi = lo + if n.tmod (hi - lo + 1) < 0 then n.tmod (hi - lo + 1) + (hi - lo + 1) else n.tmod (hi - lo + 1) := by
      unfold withinS; rw [if_neg hin, tmod_emod _ _ (by omega)]
    have H := Lib.hid hfin; clear hfin
    have hb := tmod_bd n (hi - lo + 1) (by omega)
    obtain ⟨hb0, hb1⟩ := hb
    rcases Int.lt_or_le n 0 with hneg | hneg
    · rcases Int.lt_or_le n lo with h1 | h1
      · go_enter Tryz.func13, Tryz.ntmps13
        go_wp2
        all_goals
          go_ret
          exact ⟨ret_int (by rw [H.out]; split <;> omega), rfl⟩
      · have h2 : hi < n := by omega
        go_enter Tryz.func13, Tryz.ntmps13
        go_wp2
        all_goals
          go_ret
          exact ⟨ret_int (by rw [H.out]; split <;> omega), rfl⟩
    · rw [Int.tmod_eq_emod_of_nonneg hneg] at H hb0 hb1
      rcases Int.lt_or_le n lo with h1 | h1
      · go_enter Tryz.func13, Tryz.ntmps13
        go_wp2
        all_goals
          go_ret
          exact ⟨ret_int (by rw [H.out]; split <;> omega), rfl⟩
      · have h2 : hi < n := by omega
        go_enter Tryz.func13, Tryz.ntmps13
        go_wp2
        all_goals
          go_ret
          exact ⟨ret_int (by rw [H.out]; split <;> omega), rfl⟩
end
section
set_option linter.unusedVariables false
open Go.RowKit
def kindsL : List Int := [0, 1, 2, 4, 5, 6, 8, 16, 17, 18, 20, 24, 25, 26, 27, 28, 30]
set_option maxRecDepth 100000 in
set_option maxHeartbeats 1000000 in
theorem kinds_any (w : World) : Calls Tryz.prog 36 #[] w fun e w' => e = .returned (.slice (some ⟨w.heap.size, 0, none⟩) 17 17) ∧ w' = w.alloc (.cells (kindsL.map (Value.int .i64)).toArray 3) := by
  go_enter Tryz.func36, Tryz.ntmps36
  go_wp2
  go_ret
  exact ⟨rfl, rfl⟩
def cidX (n : Int) : Int := withinS n 0 1048576 % 5
set_option maxRecDepth 100000 in
set_option maxHeartbeats 1000000 in
theorem cidk_any (n : Int) (w : World) (hn0 : -9223372036854775808 ≤ n) (hn1 : n ≤ 9223372036854775807) (hb : 0 ≤ withinS n 0 1048576 ∧ withinS n 0 1048576 ≤ 1048576) :
    Calls Tryz.prog 38 #[.int .i64 n] w (FrPost (.agg #[.int .u8 1, .int .u8 (cidX n), .int .u8 7, .int .u8 0, .int .u8 0, .int .u8 0, .int .u8 0, .int .u8 0]) w) := by
  have HW := fun W => within_any n 0 1048576 W hn0 hn1 (by omega) (by omega) (by omega)
  have hB := fun o => (Below.refl w.heap.size w).alloc (Nat.le_refl _) o
  have hx : withinS n 0 1048576 % 5 = cidX n := rfl
  obtain ⟨h, hh⟩ : ∃ x, withinS n 0 1048576 = x := ⟨_, rfl⟩
  rw [hh] at HW hb hx
  obtain ⟨h0, h1⟩ := hb
  have hx0 : 0 ≤ h % 5 := by omega
  have hx1 : h % 5 < 256 := by omega
  have ht : h.tmod 5 = h % 5 := Int.tmod_eq_emod_of_nonneg h0
  obtain ⟨x, hxx⟩ : ∃ x, h % 5 = x := ⟨_, rfl⟩
  rw [hxx] at hx hx0 hx1 ht
  have HX := Lib.hid hx
  clear hh hxx hx
  go_enter Tryz.func38, Tryz.ntmps38
  go_wp2_with fail
  refine (HW _).mono ?_
  rintro e w' ⟨rfl, rfl⟩
  go_wp2_with fail
  have hA := At.new w 52 [.int .u8 1, .int .u8 x, .int .u8 7, .int .u8 0, .int .u8 0, .int .u8 0, .int .u8 0, .int .u8 0]
  refine bodyPost_ret (results_cell 2 52 (by rfl) _ 52 _ _ (by rfl) hA Tryz.underlying52 rfl (by kernel_rfl)) rfl ?_
  exact ⟨by rw [← HX.out], hB _⟩
end
section
set_option linter.unusedVariables false
open Go.RowKit
/-- Cut: no more than k bytes. -/
theorem cut_any (A : Option Addr) (n c k : Nat) (w : World) (hn : n ≤ c) (hc : c ≤ maxLen) (hk : k ≤ 1000) (hA : k < n → A ≠ none) :
    Calls Tryz.prog 24 #[.slice A n c, .int .i64 k] w fun e w' => e = .returned (.slice A (min n k) c) ∧ w = w' := by
  unfold maxLen at hc
  rcases Nat.lt_or_ge k n with h | h
  · cases A with
    | none => exact absurd rfl (hA h)
    | some ad =>
      rw [Nat.min_eq_right (by omega)]
      go_enter Tryz.func24, Tryz.ntmps24
      go_wp2

      go_ret
      exact ⟨rfl, rfl⟩
  · rw [Nat.min_eq_left h]
    go_enter Tryz.func24, Tryz.ntmps24
    go_wp2
    go_ret
    exact ⟨rfl, rfl⟩
def smallT : List Int := [63, 64, 16383, 16384, 1073741823, 1073741824, 4611686018427387903, 0]
def smallS (n : Int) : Int := if n % 5 = 0 then n / 5 % 20 else if n % 5 = 1 then smallT.getD (n / 5 % 8).toNat 0 else n % 4611686018427387904
theorem smallS_bd (n : Int) (h0 : 0 ≤ n) : 0 ≤ smallS n ∧ smallS n ≤ 4611686018427387903 := by
  unfold smallS
  split
  · omega
  · split
    · have : n / 5 % 8 = 0 ∨ n / 5 % 8 = 1 ∨ n / 5 % 8 = 2 ∨ n / 5 % 8 = 3 ∨ n / 5 % 8 = 4 ∨ n / 5 % 8 = 5 ∨ n / 5 % 8 = 6 ∨ n / 5 % 8 = 7 := by omega
      rcases this with h | h | h | h | h | h | h | h <;> rw [h] <;> decide
    · omega
theorem and_mask62 (n : Int) (h0 : 0 ≤ n) (h1 : n < 18446744073709551616) : bits BinOp.and IntKind.u64 n 4611686018427387903 = n % 4611686018427387904 := by
  rw [u64_and _ _ h0 h1 (by omega) (by omega), show (4611686018427387903 : Int).toNat = 4611686018427387903 by decide, nat_mask62]; omega
set_option maxHeartbeats 4000000 in
theorem small_any (n : Int) (w : World) (h0 : 0 ≤ n) (h1 : n < 18446744073709551616) :
    Calls Tryz.prog 10 #[.int .u64 n] w fun e w' => e = .returned (.int .u64 (smallS n)) ∧ Below w.heap.size w w' := by
  by_cases hz : n % 5 = 0
  · have hf : smallS n = n / 5 % 20 := by unfold smallS; rw [if_pos hz]
    have H := Lib.hid hf; clear hf
    go_enter Tryz.func10, Tryz.ntmps10
    go_wp2
    go_ret
    exact ⟨ret_int (by rw [H.out]), Below.refl _ _⟩
  · by_cases ho : n % 5 = 1
    · have h8 : n / 5 % 8 = 0 ∨ n / 5 % 8 = 1 ∨ n / 5 % 8 = 2 ∨ n / 5 % 8 = 3 ∨ n / 5 % 8 = 4 ∨ n / 5 % 8 = 5 ∨ n / 5 % 8 = 6 ∨ n / 5 % 8 = 7 := by omega
      have hf : smallS n = smallT.getD (n / 5 % 8).toNat 0 := by unfold smallS; rw [if_neg hz, if_pos ho]
      rcases h8 with h | h | h | h | h | h | h | h
      all_goals
        rw [h] at hf
        have H := Lib.hid hf; clear hf
        go_enter Tryz.func10, Tryz.ntmps10
        go_wp2
        go_ret
        exact ⟨ret_int (by rw [H.out]; rfl), (Below.refl _ _).alloc (Nat.le_refl _) _⟩
    · have hf : smallS n = n % 4611686018427387904 := by unfold smallS; rw [if_neg hz, if_neg ho]
      have hm := and_mask62 n h0 h1
      have H := Lib.hid (hm.trans hf.symm); clear hf hm
      go_enter Tryz.func10, Tryz.ntmps10
      go_wp2
      go_ret
      exact ⟨ret_int (by rw [← H.out]), Below.refl _ _⟩
end
end Go.Proofs.YtphpdaldplkgmaaGreat
