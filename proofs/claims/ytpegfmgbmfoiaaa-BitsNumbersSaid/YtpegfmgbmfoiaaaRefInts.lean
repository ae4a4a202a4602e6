/-
  What the document's own answers (narthexref1) of Low, Extend, Rot, Zig, Zag, Clamp are, for every number of its kind; Within of the statements' book where lo is at most hi.
-/
import Derived.Test.YtpegfmgbmfoiaaaInts
namespace Go.Proofs.Ytpegfmgbmfoiaaa
set_option linter.unusedVariables false
open Go.RowKit
theorem rlow_any (n k : Int) (w : World) (h0 : 0 ≤ n) (h1 : n < 18446744073709551616) (hk : k ≤ 9223372036854775807) (hk0 : -9223372036854775808 ≤ k) :
    Calls Try.prog 28 #[.int .u64 n, .int .i64 k] w fun e w' => e = .returned (.int .u64 (lowS n k)) ∧ w = w' := by
  rcases Int.lt_or_le k 1 with h | h
  · go_enter Try.func28, Try.ntmps28
    go_wp2
    go_ret
    exact ⟨by simp [lowS, h], rfl⟩
  · rcases Int.lt_or_le 63 k with h2 | h2
    · go_enter Try.func28, Try.ntmps28
      go_wp2
      go_ret
      exact ⟨by simp [lowS, Int.not_lt.2 h, h2], rfl⟩
    · have hfin := low_and n k.toNat h0 h1 (by omega)
      have H := Lib.hid hfin; clear hfin
      go_enter Try.func28, Try.ntmps28
      go_wp2
      go_ret
      exact ⟨by simp [lowS, Int.not_lt.2 h, Int.not_lt.2 h2, H.out], rfl⟩
theorem lowS_bd (n k : Int) (h0 : 0 ≤ n) (h1 : n < 18446744073709551616) : 0 ≤ lowS n k ∧ lowS n k < 18446744073709551616 := by
  unfold lowS
  have hp := pow_pos' k.toNat
  have a := Int.emod_nonneg n (b := 2 ^ k.toNat) (by omega)
  have b : n % 2 ^ k.toNat ≤ n := by
    rcases Int.lt_or_le n (2 ^ k.toNat) with h | h
    · rw [Int.emod_eq_of_lt h0 h]; omega
    · have := Int.emod_lt_of_pos n hp; omega
  split
  · omega
  · split <;> omega
theorem rext_any (n k : Int) (w : World) (h0 : 0 ≤ n) (h1 : n < 18446744073709551616) (hk : k ≤ 9223372036854775807) (hk0 : -9223372036854775808 ≤ k) :
    Calls Try.prog 29 #[.int .u64 n, .int .i64 k] w fun e w' => e = .returned (.int .i64 (extS n k)) ∧ w = w' := by
  rcases Int.lt_or_le k 1 with h | h
  · go_enter Try.func29, Try.ntmps29
    go_wp2
    go_ret
    exact ⟨by simp [extS, h], rfl⟩
  · rcases Int.lt_or_le 63 k with h2 | h2
    · have hfin : wrap64 n = extS n k := by
        have := ext_shift n 0 64 (by omega) (by omega)
        rw [Int.pow_zero, Int.mul_one, Int.ediv_one, IntKind.wrap_u64, show n % 18446744073709551616 = n by omega] at this
        rw [this, extS, if_neg (by omega), show (min k 64).toNat = 64 by omega]
      have H := Lib.hid hfin; clear hfin
      go_enter Try.func29, Try.ntmps29
      go_wp2
      go_ret
      exact ⟨by simp [H.out], rfl⟩
    · have eL : lowS n k = n % 2 ^ k.toNat := by rw [lowS, if_neg (by omega), if_neg (by omega)]
      have eE : extS n k = if lowS n k < 2 ^ (k.toNat - 1) then lowS n k else lowS n k - 2 ^ (k.toNat - 1) - 2 ^ (k.toNat - 1) := by
        rw [extS, if_neg (by omega), show min k 64 = k by omega, signS, eL]
        have : (2 : Int) ^ k.toNat = 2 ^ (k.toNat - 1) * 2 := by rw [← Int.pow_succ]; congr 1; omega
        split
        · rfl
        · omega
      have hp := pow_pos' (k.toNat - 1)
      have hl := pow_le64 (a := (k.toNat - 1)) (by omega)
      have hr0 : 0 ≤ lowS n k := (lowS_bd n k h0 h1).1
      have hr1 : lowS n k < 2 ^ (k.toNat - 1) * 2 := by
        rw [eL, ← Int.pow_succ, show (k.toNat - 1).succ = k.toNat by omega]
        exact Int.emod_lt_of_pos _ (pow_pos' _)
      clear eL
      have hp2 : (2 : Int) ^ (k.toNat - 1) ≤ 4611686018427387904 := by
        rw [show (4611686018427387904 : Int) = 2 ^ 62 by decide]
        have h1 : (2 : Nat) ^ (k.toNat - 1) ≤ 2 ^ 62 := Nat.pow_le_pow_right (by decide) (by omega)
        have h2 : ((2 : Int) ^ (k.toNat - 1)) = ((2 ^ (k.toNat - 1) : Nat) : Int) := by simp
        rw [h2]; omega
      by_cases ht : lowS n k < 2 ^ (k.toNat - 1)
      · have hb : (lowS n k / 2 ^ (k.toNat - 1) == 1) = false := by
          rw [Int.ediv_eq_zero_of_lt hr0 ht]; rfl
        rw [if_pos ht] at eE
        have H := Lib.hid eE; clear eE
        go_enter Try.func29, Try.ntmps29
        go_wp2_with (go_at_call 28; refine (rlow_any _ _ _ (by omega) (by omega) (by omega) (by omega)).mono ?_; rintro e w' ⟨rfl, rfl⟩)
        go_ret
        exact ⟨by rw [H.out]; rfl, rfl⟩
      · have hb : (lowS n k / 2 ^ (k.toNat - 1) == 1) = true := by
          rw [beq_iff_eq]
          rw [show lowS n k = (lowS n k - 2 ^ (k.toNat - 1)) + 2 ^ (k.toNat - 1) * 1 by omega, Int.add_mul_ediv_left _ _ (by omega), Int.ediv_eq_zero_of_lt (by omega) (by omega)]; rfl
        rw [if_neg ht] at eE
        have H := Lib.hid eE; clear eE
        go_enter Try.func29, Try.ntmps29
        go_wp2_with (go_at_call 28; refine (rlow_any _ _ _ (by omega) (by omega) (by omega) (by omega)).mono ?_; rintro e w' ⟨rfl, rfl⟩)
        go_ret
        exact ⟨by rw [H.out]; rfl, rfl⟩
theorem rclamp_any (n k : Int) (w : World) (hn0 : -9223372036854775808 ≤ n) (hn1 : n ≤ 9223372036854775807) (hk : k ≤ 9223372036854775807) (hk0 : -9223372036854775808 ≤ k) :
    Calls Try.prog 33 #[.int .i64 n, .int .i64 k] w fun e w' => e = .returned (.int .i64 (clampS n k)) ∧ w = w' := by
  rcases Int.lt_or_le k 1 with h | h
  · have hfin : clampS n k = max (-1) (min n 0) := by unfold clampS; rw [show (min (max k 1) 64).toNat = 1 by omega]; rfl
    have H := Lib.hid hfin; clear hfin
    go_enter Try.func33, Try.ntmps33
    go_wp2
    all_goals
      go_ret
      exact ⟨ret_int (by rw [H.out]; omega), rfl⟩
  · rcases Int.lt_or_le 63 k with h2 | h2
    · have hfin : clampS n k = n := by
        unfold clampS; rw [show (min (max k 1) 64).toNat = 64 by omega, show 64 - 1 = 63 by decide, p63]; omega
      have H := Lib.hid hfin; clear hfin
      go_enter Try.func33, Try.ntmps33
      go_wp2
      go_ret
      exact ⟨by rw [H.out]; rfl, rfl⟩
    · have hfin : clampS n k = max (-(2 ^ (k.toNat - 1))) (min n (2 ^ (k.toNat - 1) - 1)) := by
        unfold clampS; rw [show (min (max k 1) 64).toNat - 1 = k.toNat - 1 by omega]
      have hp := pow_pos' (k.toNat - 1)
      have hp2 : (2 : Int) ^ (k.toNat - 1) ≤ 4611686018427387904 := by
        rw [show (4611686018427387904 : Int) = 2 ^ 62 by decide]
        have h1 : (2 : Nat) ^ (k.toNat - 1) ≤ 2 ^ 62 := Nat.pow_le_pow_right (by decide) (by omega)
        have h2 : ((2 : Int) ^ (k.toNat - 1)) = ((2 ^ (k.toNat - 1) : Nat) : Int) := by simp
        rw [h2]; omega
      have H := Lib.hid hfin; clear hfin
      go_enter Try.func33, Try.ntmps33
      go_wp2
      all_goals
        go_ret
        exact ⟨ret_int (by rw [H.out]; omega), rfl⟩
theorem tmod_bd (k m : Int) (hm : 0 < m) : -(m - 1) ≤ k.tmod m ∧ k.tmod m ≤ m - 1 := by
  rcases Int.lt_or_le k 0 with h | h
  · rw [show k = -(-k) by omega, Int.neg_tmod, Int.tmod_eq_emod_of_nonneg (by omega)]
    have := Int.emod_nonneg (-k) (b := m) (by omega)
    have := Int.emod_lt_of_pos (-k) hm
    omega
  · rw [Int.tmod_eq_emod_of_nonneg h]
    have := Int.emod_nonneg k (b := m) (by omega)
    have := Int.emod_lt_of_pos k hm
    omega
theorem tmod_emod (k m : Int) (hm : 0 < m) : k % m = if k.tmod m < 0 then k.tmod m + m else k.tmod m := by
  have hb := tmod_bd k m hm
  have e : k.tmod m % m = k % m := by
    rw [Int.tmod_def, Int.sub_mul_emod_self_left]
  rw [← e]
  split
  · rw [← Int.add_emod_right, Int.emod_eq_of_lt (by omega) (by omega)]
  · exact Int.emod_eq_of_lt (by omega) (by omega)
theorem rrot_any (n k : Int) (w : World) (h0 : 0 ≤ n) (h1 : n < 18446744073709551616) (hk : k ≤ 9223372036854775807) (hk0 : -9223372036854775808 ≤ k) :
    Calls Try.prog 30 #[.int .u64 n, .int .i64 k] w fun e w' => e = .returned (.int .u64 (rotS n (k % 64).toNat)) ∧ w = w' := by
  have ht : (k.tmod 64 + 64) % 64 = k % 64 := by
    have := Int.tmod_def k 64; omega
  obtain ⟨l, hl, hl63⟩ : ∃ l : Nat, (k.tmod 64 + 64) % 64 = (l : Int) ∧ (l : Int) ≤ 63 := ⟨(k % 64).toNat, by omega, by omega⟩
  have hlk : (k % 64).toNat = l := by omega
  have b0 : -63 ≤ k.tmod 64 := (tmod_bd k 64 (by omega)).1
  have b1 : k.tmod 64 ≤ 63 := by have := (tmod_bd k 64 (by omega)).2; omega
  have hfin := rot_or n l h0 h1 (by omega)
  rw [hlk]
  have H := Lib.hid hfin; clear hfin hlk ht
  go_enter Try.func30, Try.ntmps30
  go_wp2
  go_ret
  exact ⟨by simp [H.out], rfl⟩
theorem rzig_any (n : Int) (w : World) (h0 : -9223372036854775808 ≤ n) (h1 : n ≤ 9223372036854775807) :
    Calls Try.prog 31 #[.int .i64 n] w fun e w' => e = .returned (.int .u64 (zigS n)) ∧ w = w' := by
  have hfin : zigS n = if n < 0 then -2 * n - 1 else 2 * n := rfl
  have H := Lib.hid hfin; clear hfin
  go_enter Try.func31, Try.ntmps31
  go_wp2
  all_goals
    go_ret
    exact ⟨ret_int (by rw [H.out]; split <;> omega), rfl⟩
theorem rzag_any (n : Int) (w : World) (h0 : 0 ≤ n) (h1 : n < 18446744073709551616) :
    Calls Try.prog 32 #[.int .u64 n] w fun e w' => e = .returned (.int .i64 (zagS n)) ∧ w = w' := by
  have hfin : zagS n = if n % 2 = 1 then -(n / 2) - 1 else n / 2 := rfl
  by_cases h : n % 2 = 1
  · rw [if_pos h] at hfin
    have H := Lib.hid hfin; clear hfin
    go_enter Try.func32, Try.ntmps32
    go_wp2
    go_ret
    exact ⟨ret_int (by rw [H.out]), rfl⟩
  · rw [if_neg h] at hfin
    have H := Lib.hid hfin; clear hfin
    go_enter Try.func32, Try.ntmps32
    go_wp2
    go_ret
    exact ⟨ret_int (by rw [H.out]), rfl⟩
def withinS (n lo hi : Int) : Int := if lo ≤ n ∧ n ≤ hi then n else lo + n % (hi - lo + 1)
theorem withinS_bd (n lo hi : Int) (h : lo ≤ hi) : lo ≤ withinS n lo hi ∧ withinS n lo hi ≤ hi := by
  unfold withinS
  have a := Int.emod_nonneg n (b := hi - lo + 1) (by omega)
  have b := Int.emod_lt_of_pos n (b := hi - lo + 1) (by omega)
  split <;> omega
theorem within_any (n lo hi : Int) (w : World) (hn0 : -9223372036854775808 ≤ n) (hn1 : n ≤ 9223372036854775807) (hlo : -4611686018427387904 ≤ lo) (hlh : lo ≤ hi) (hhi : hi ≤ 4611686018427387902) :
    Calls Try.prog 15 #[.int .i64 n, .int .i64 lo, .int .i64 hi] w fun e w' => e = .returned (.int .i64 (withinS n lo hi)) ∧ w = w' := by
  by_cases hin : lo ≤ n ∧ n ≤ hi
  · have hfin : withinS n lo hi = n := by unfold withinS; rw [if_pos hin]
    have H := Lib.hid hfin; clear hfin
    obtain ⟨h1, h2⟩ := hin
    go_enter Try.func15, Try.ntmps15
    go_wp2
    go_ret
    exact ⟨ret_int (by rw [H.out]), rfl⟩
  · have hfin : withinS n lo hi = lo + if n.tmod (hi - lo + 1) < 0 then n.tmod (hi - lo + 1) + (hi - lo + 1) else n.tmod (hi - lo + 1) := by
      unfold withinS; rw [if_neg hin, tmod_emod _ _ (by omega)]
    have H := Lib.hid hfin; clear hfin
    have hb := tmod_bd n (hi - lo + 1) (by omega)
    obtain ⟨hb0, hb1⟩ := hb
    rcases Int.lt_or_le n 0 with hneg | hneg
    · rcases Int.lt_or_le n lo with h1 | h1
      · go_enter Try.func15, Try.ntmps15
        go_wp2
        all_goals
          go_ret
          exact ⟨ret_int (by rw [H.out]; split <;> omega), rfl⟩
      · have h2 : hi < n := by omega
        go_enter Try.func15, Try.ntmps15
        go_wp2
        all_goals
          go_ret
          exact ⟨ret_int (by rw [H.out]; split <;> omega), rfl⟩
    · rw [Int.tmod_eq_emod_of_nonneg hneg] at H hb0 hb1
      rcases Int.lt_or_le n lo with h1 | h1
      · go_enter Try.func15, Try.ntmps15
        go_wp2
        all_goals
          go_ret
          exact ⟨ret_int (by rw [H.out]; split <;> omega), rfl⟩
      · have h2 : hi < n := by omega
        go_enter Try.func15, Try.ntmps15
        go_wp2
        all_goals
          go_ret
          exact ⟨ret_int (by rw [H.out]; split <;> omega), rfl⟩
end Go.Proofs.Ytpegfmgbmfoiaaa
