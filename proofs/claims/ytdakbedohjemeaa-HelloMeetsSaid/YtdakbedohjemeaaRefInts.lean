/-
  What the document's own answers (narthexref1) of Low, Extend, Rot, Zig, Zag, Clamp are, for every number of its kind; Within of the statements' book where lo is at most hi.
-/
import Derived.Test.YtdakbedohjemeaaMq1
namespace Go.Proofs.Ytdakbedohjemeaa
set_option linter.unusedVariables false
open Go.RowKit
theorem tmod_bd (k m : Int) (hm : 0 < m) : -(m - 1) ≤ k.tmod m ∧ k.tmod m ≤ m - 1 := by
  rcases Int.lt_or_le k 0 with h | h
  · rw [show k = -(-k) by omega, Int.neg_tmod, Int.tmod_eq_emod_of_nonneg (by omega)]
    have := Int.emod_nonneg (-k) (b := m) (by omega)
    have := Int.emod_lt_of_pos (-k) hm
    omega
  · rw [Int.tmod_eq_emod_of_nonneg h]
    have := Int.emod_nonneg k (b := m) (by omega)
    have := Int.emod_lt_of_pos k hm
    omega
theorem tmod_emod (k m : Int) (hm : 0 < m) : k % m = if k.tmod m < 0 then k.tmod m + m else k.tmod m := by
  have hb := tmod_bd k m hm
  have e : k.tmod m % m = k % m := by
    rw [Int.tmod_def, Int.sub_mul_emod_self_left]
  rw [← e]
  split
  · rw [← Int.add_emod_right, Int.emod_eq_of_lt (by omega) (by omega)]
  · exact Int.emod_eq_of_lt (by omega) (by omega)
theorem rrot_any (n k : Int) (w : World) (h0 : 0 ≤ n) (h1 : n < 18446744073709551616) (hk : k ≤ 9223372036854775807) (hk0 : -9223372036854775808 ≤ k) :
    Calls Try.prog 64 #[.int .u64 n, .int .i64 k] w fun e w' => e = .returned (.int .u64 (rotS n (k % 64).toNat)) ∧ w = w' := by
  have ht : (k.tmod 64 + 64) % 64 = k % 64 := by
    have := Int.tmod_def k 64; omega
  obtain ⟨l, hl, hl63⟩ : ∃ l : Nat, (k.tmod 64 + 64) % 64 = (l : Int) ∧ (l : Int) ≤ 63 := ⟨(k % 64).toNat, by omega, by omega⟩
  have hlk : (k % 64).toNat = l := by omega
  have b0 : -63 ≤ k.tmod 64 := (tmod_bd k 64 (by omega)).1
  have b1 : k.tmod 64 ≤ 63 := by have := (tmod_bd k 64 (by omega)).2; omega
  have hfin := rot_or n l h0 h1 (by omega)
  rw [hlk]
  have H := Lib.hid hfin; clear hfin hlk ht
  go_enter Try.func64, Try.ntmps64
  go_wp2
  go_ret
  exact ⟨by simp [H.out], rfl⟩
def withinS (n lo hi : Int) : Int := if lo ≤ n ∧ n ≤ hi then n else lo + n % (hi - lo + 1)
theorem withinS_bd (n lo hi : Int) (h : lo ≤ hi) : lo ≤ withinS n lo hi ∧ withinS n lo hi ≤ hi := by
  unfold withinS
  have a := Int.emod_nonneg n (b := hi - lo + 1) (by omega)
  have b := Int.emod_lt_of_pos n (b := hi - lo + 1) (by omega)
  split <;> omega
theorem within_any (n lo hi : Int) (w : World) (hn0 : -9223372036854775808 ≤ n) (hn1 : n ≤ 9223372036854775807) (hlo : -4611686018427387904 ≤ lo) (hlh : lo ≤ hi) (hhi : hi ≤ 4611686018427387902) :
    Calls Try.prog 17 #[.int .i64 n, .int .i64 lo, .int .i64 hi] w fun e w' => e = .returned (.int .i64 (withinS n lo hi)) ∧ w = w' := by
  by_cases hin : lo ≤ n ∧ n ≤ hi
  · have hfin : withinS n lo hi = n := by unfold withinS; rw [if_pos hin]
    have H := Lib.hid hfin; clear hfin
    obtain ⟨h1, h2⟩ := hin
    go_enter Try.func17, Try.ntmps17
    go_wp2
    go_ret
    exact ⟨ret_int (by rw [H.out]), rfl⟩
  · have hfin : withinS n lo hi = lo + if n.tmod (hi - lo + 1) < 0 then n.tmod (hi - lo + 1) + (hi - lo + 1) else n.tmod (hi - lo + 1) := by
      unfold withinS; rw [if_neg hin, tmod_emod _ _ (by omega)]
    have H := Lib.hid hfin; clear hfin
    have hb := tmod_bd n (hi - lo + 1) (by omega)
    obtain ⟨hb0, hb1⟩ := hb
    rcases Int.lt_or_le n 0 with hneg | hneg
    · rcases Int.lt_or_le n lo with h1 | h1
      · go_enter Try.func17, Try.ntmps17
        go_wp2
        all_goals
          go_ret
          exact ⟨ret_int (by rw [H.out]; split <;> omega), rfl⟩
      · have h2 : hi < n := by omega
        go_enter Try.func17, Try.ntmps17
        go_wp2
        all_goals
          go_ret
          exact ⟨ret_int (by rw [H.out]; split <;> omega), rfl⟩
    · rw [Int.tmod_eq_emod_of_nonneg hneg] at H hb0 hb1
      rcases Int.lt_or_le n lo with h1 | h1
      · go_enter Try.func17, Try.ntmps17
        go_wp2
        all_goals
          go_ret
          exact ⟨ret_int (by rw [H.out]; split <;> omega), rfl⟩
      · have h2 : hi < n := by omega
        go_enter Try.func17, Try.ntmps17
        go_wp2
        all_goals
          go_ret
          exact ⟨ret_int (by rw [H.out]; split <;> omega), rfl⟩
end Go.Proofs.Ytdakbedohjemeaa
