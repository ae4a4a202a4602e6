/-
  What the document's own answers (narthexref3) of Width, Cut and Whole are, for every number, width and mark.
-/
import Derived.Test.YtdcnfkejnhenoaaPn2
namespace Go.Proofs.Ytdcnfkejnhenoaa
set_option linter.unusedVariables false
open Go.RowKit
theorem and_low (n : Int) (K : Nat) (M : Int) (h0 : 0 ≤ n) (h1 : n < 18446744073709551616) (hK : K ≤ 63) (hM : (2 : Int) ^ K - 1 = M) :
    bits BinOp.and IntKind.u64 n M = n % 2 ^ K := by
  have h := low_and n K h0 h1 hK
  have hp := pow_pos' K
  have hl := pow_le64 hK
  have e1 : IntKind.u64.wrap ((2 : Int) ^ K) = 2 ^ K := by rw [IntKind.wrap_u64]; omega
  have e2 : IntKind.u64.wrap ((2 : Int) ^ K - 1) = 2 ^ K - 1 := by rw [IntKind.wrap_u64]; omega
  rw [e1, e2, hM] at h
  exact h
theorem rpcut_any (n k : Int) (w : World) (h0 : 0 ≤ n) (h1 : n < 18446744073709551616) (hk0 : -9223372036854775808 ≤ k) (hk1 : k ≤ 9223372036854775807) :
    Calls Try.prog 15 #[.int .u64 n, .int .i64 k] w fun e w' => e = .returned (.int .u32 (cutS n k)) ∧ w = w' := by
  have h4 := pW_four k
  have hf : cutS n k = n % winS k := rfl
  unfold winS at hf
  have a1 : bits BinOp.and IntKind.u64 n 255 = n % 256 := and_low n 8 _ h0 h1 (by omega) rfl
  have a2 : bits BinOp.and IntKind.u64 n 65535 = n % 65536 := and_low n 16 _ h0 h1 (by omega) rfl
  have a3 : bits BinOp.and IntKind.u64 n 16777215 = n % 16777216 := and_low n 24 _ h0 h1 (by omega) rfl
  have a4 : bits BinOp.and IntKind.u64 n 4294967295 = n % 4294967296 := and_low n 32 _ h0 h1 (by omega) rfl
  have c1 : IntKind.u64.wrap (IntKind.u64.wrap 256 - 1) = 255 := by decide
  have c2 : IntKind.u64.wrap (IntKind.u64.wrap 65536 - 1) = 65535 := by decide
  have c3 : IntKind.u64.wrap (IntKind.u64.wrap 16777216 - 1) = 16777215 := by decide
  have c4 : IntKind.u64.wrap (IntKind.u64.wrap 4294967296 - 1) = 4294967295 := by decide
  have hkk : k < 1 ∨ k = 1 ∨ k = 2 ∨ k = 3 ∨ k = 4 ∨ 4 < k := by omega
  unfold pW at h4 hf
  rcases hkk with hk | rfl | rfl | rfl | rfl | hk
  · rw [show min (max k 1) 4 = 1 by omega] at hf
    simp only [reduceIte, Int.reduceEq] at hf
    have H := Lib.hid hf; clear hf h4
    go_enter Try.func15, Try.ntmps15
    go_wp2
    go_ret
    exact ⟨ret_int (by rw [H.out] <;> simp [c1, a1]), rfl⟩
  · rw [show min (max (1 : Int) 1) 4 = 1 by omega] at hf
    simp only [reduceIte, Int.reduceEq] at hf
    have H := Lib.hid hf; clear hf h4
    go_enter Try.func15, Try.ntmps15
    go_wp2
    go_ret
    exact ⟨ret_int (by rw [H.out] <;> simp [c1, a1]), rfl⟩
  · rw [show min (max (2 : Int) 1) 4 = 2 by omega] at hf
    simp only [reduceIte, Int.reduceEq] at hf
    have H := Lib.hid hf; clear hf h4
    go_enter Try.func15, Try.ntmps15
    go_wp2
    go_ret
    exact ⟨ret_int (by rw [H.out] <;> simp [c2, a2]), rfl⟩
  · rw [show min (max (3 : Int) 1) 4 = 3 by omega] at hf
    simp only [reduceIte, Int.reduceEq] at hf
    have H := Lib.hid hf; clear hf h4
    go_enter Try.func15, Try.ntmps15
    go_wp2
    go_ret
    exact ⟨ret_int (by rw [H.out] <;> simp [c3, a3]), rfl⟩
  · rw [show min (max (4 : Int) 1) 4 = 4 by omega] at hf
    simp only [reduceIte, Int.reduceEq] at hf
    have H := Lib.hid hf; clear hf h4
    go_enter Try.func15, Try.ntmps15
    go_wp2
    go_ret
    exact ⟨ret_int (by rw [H.out] <;> simp [c4, a4]), rfl⟩
  · rw [show min (max k 1) 4 = 4 by omega] at hf
    simp only [reduceIte, Int.reduceEq] at hf
    have H := Lib.hid hf; clear hf h4
    go_enter Try.func15, Try.ntmps15
    go_wp2
    go_ret
    exact ⟨ret_int (by rw [H.out] <;> simp [c4, a4]), rfl⟩
theorem win_of (k : Int) : (pW k = 1 → winS k = 256) ∧ (pW k = 2 → winS k = 65536) ∧ (pW k = 3 → winS k = 16777216) ∧ (pW k = 4 → winS k = 4294967296) := by
  unfold winS
  refine ⟨fun h => ?_, fun h => ?_, fun h => ?_, fun h => ?_⟩ <;> rw [h] <;> rfl
theorem width_key (n a d d' : Int) (has : Bool) (h : d' ≤ 8388608 ∧ d = d' ∨ 8388608 < d' ∧ 8388608 < d) (e : pDist n a has = d') :
    widthS n a has = if d ≤ 128 then 1 else if d ≤ 32768 then 2 else if d ≤ 8388608 then 3 else 4 := by
  unfold widthS
  rw [e, pOf]
  (repeat' split) <;> omega
set_option maxRecDepth 100000 in
theorem rwidth_f1 (n a : Int) (w : World) (h0 : 0 ≤ n) (h1 : n < 18446744073709551616) (ha0 : 0 ≤ a) (ha1 : a < 18446744073709551616) (hn : 4611686018427387902 < n) :
    Calls Try.prog 14 #[.int .u64 n, .int .u64 a, .bool false] w fun e w' => e = .returned (.int .i64 (widthS n a false)) ∧ w = w' := by
  have hf : pDist n a false = 4611686018427387903 + 1 := by unfold pDist; rw [if_neg (by simp)]; omega
  have hk := width_key n a (4611686018427387903) _ _ (by omega) hf
  have H := Lib.hid hk; clear hk hf
  go_enter Try.func14, Try.ntmps14
  go_wp2
  go_loopw [8] (fun i wr => ∃ k : Nat, 1 ≤ k ∧ k ≤ 4 ∧ i = .int .i64 k ∧ wr = w ∧ (2 ≤ k → 128 < 4611686018427387903) ∧ (3 ≤ k → 32768 < 4611686018427387903) ∧ (4 ≤ k → 8388608 < 4611686018427387903)) (fun i _ => 4 - (intOf i).toNat)
  case atStart => exact ⟨1, by omega, by omega, rfl, rfl, by omega, by omega, by omega⟩
  case round =>
    obtain ⟨k, hk1, hk4, rfl, rfl, q2, q3, q4⟩ := hrel
    have hk : k = 1 ∨ k = 2 ∨ k = 3 ∨ k = 4 := by omega
    rcases hk with rfl | rfl | rfl | rfl
    · rcases Int.lt_or_le 128 4611686018427387903 with hc | hc
      · go_wp2
        go_roundw
        case rel => exact ⟨2, by omega, by omega, by go_num, by trivial, by omega, by omega, by omega⟩
        case measure => simp [intOf]
      · exfalso; omega
    · rcases Int.lt_or_le 32768 4611686018427387903 with hc | hc
      · go_wp2
        go_roundw
        case rel => exact ⟨3, by omega, by omega, by go_num, by trivial, by omega, by omega, by omega⟩
        case measure => simp [intOf]
      · exfalso; omega
    · rcases Int.lt_or_le 8388608 4611686018427387903 with hc | hc
      · go_wp2
        go_roundw
        case rel => exact ⟨4, by omega, by omega, by go_num, by trivial, by omega, by omega, by omega⟩
        case measure => simp [intOf]
      · exfalso; omega
    · go_wp2
      go_ret
      exact ⟨ret_int (by rw [H.out]; (repeat' split) <;> first | rfl | omega), rfl⟩
set_option maxRecDepth 100000 in
theorem rwidth_f2 (n a : Int) (w : World) (h0 : 0 ≤ n) (h1 : n < 18446744073709551616) (ha0 : 0 ≤ a) (ha1 : a < 18446744073709551616) (hn : n ≤ 4611686018427387902) :
    Calls Try.prog 14 #[.int .u64 n, .int .u64 a, .bool false] w fun e w' => e = .returned (.int .i64 (widthS n a false)) ∧ w = w' := by
  have hf : pDist n a false = n + 1 := by unfold pDist; rw [if_neg (by simp)]; omega
  have hk := width_key n a (n + 1) _ _ (by omega) hf
  have H := Lib.hid hk; clear hk hf
  go_enter Try.func14, Try.ntmps14
  go_wp2
  go_loopw [8] (fun i wr => ∃ k : Nat, 1 ≤ k ∧ k ≤ 4 ∧ i = .int .i64 k ∧ wr = w ∧ (2 ≤ k → 128 < n + 1) ∧ (3 ≤ k → 32768 < n + 1) ∧ (4 ≤ k → 8388608 < n + 1)) (fun i _ => 4 - (intOf i).toNat)
  case atStart => exact ⟨1, by omega, by omega, rfl, rfl, by omega, by omega, by omega⟩
  case round =>
    obtain ⟨k, hk1, hk4, rfl, rfl, q2, q3, q4⟩ := hrel
    have hk : k = 1 ∨ k = 2 ∨ k = 3 ∨ k = 4 := by omega
    rcases hk with rfl | rfl | rfl | rfl
    · rcases Int.lt_or_le 128 (n + 1) with hc | hc
      · go_wp2
        go_roundw
        case rel => exact ⟨2, by omega, by omega, by go_num, by trivial, by omega, by omega, by omega⟩
        case measure => simp [intOf]
      · go_wp2
        go_ret
        exact ⟨ret_int (by rw [H.out]; (repeat' split) <;> first | rfl | omega), rfl⟩
    · rcases Int.lt_or_le 32768 (n + 1) with hc | hc
      · go_wp2
        go_roundw
        case rel => exact ⟨3, by omega, by omega, by go_num, by trivial, by omega, by omega, by omega⟩
        case measure => simp [intOf]
      · go_wp2
        go_ret
        exact ⟨ret_int (by rw [H.out]; (repeat' split) <;> first | rfl | omega), rfl⟩
    · rcases Int.lt_or_le 8388608 (n + 1) with hc | hc
      · go_wp2
        go_roundw
        case rel => exact ⟨4, by omega, by omega, by go_num, by trivial, by omega, by omega, by omega⟩
        case measure => simp [intOf]
      · go_wp2
        go_ret
        exact ⟨ret_int (by rw [H.out]; (repeat' split) <;> first | rfl | omega), rfl⟩
    · go_wp2
      go_ret
      exact ⟨ret_int (by rw [H.out]; (repeat' split) <;> first | rfl | omega), rfl⟩
set_option maxRecDepth 100000 in
theorem rwidth_t1 (n a : Int) (w : World) (h0 : 0 ≤ n) (h1 : n < 18446744073709551616) (ha0 : 0 ≤ a) (ha1 : a < 18446744073709551616) (hlt : n ≤ a) (hn : 4611686018427387902 < n) :
    Calls Try.prog 14 #[.int .u64 n, .int .u64 a, .bool true] w fun e w' => e = .returned (.int .i64 (widthS n a true)) ∧ w = w' := by
  have hdd : decide (a < n) = false := by simp; omega
  have hf : pDist n a true = 4611686018427387903 + 1 := by unfold pDist; rw [if_neg (by omega)]; omega
  have hk := width_key n a (4611686018427387903) _ _ (by omega) hf
  have H := Lib.hid hk; clear hk hf
  go_enter Try.func14, Try.ntmps14
  go_wp2
  go_loopw [8] (fun i wr => ∃ k : Nat, 1 ≤ k ∧ k ≤ 4 ∧ i = .int .i64 k ∧ wr = w ∧ (2 ≤ k → 128 < 4611686018427387903) ∧ (3 ≤ k → 32768 < 4611686018427387903) ∧ (4 ≤ k → 8388608 < 4611686018427387903)) (fun i _ => 4 - (intOf i).toNat)
  case atStart => exact ⟨1, by omega, by omega, rfl, rfl, by omega, by omega, by omega⟩
  case round =>
    obtain ⟨k, hk1, hk4, rfl, rfl, q2, q3, q4⟩ := hrel
    have hk : k = 1 ∨ k = 2 ∨ k = 3 ∨ k = 4 := by omega
    rcases hk with rfl | rfl | rfl | rfl
    · rcases Int.lt_or_le 128 4611686018427387903 with hc | hc
      · go_wp2
        go_roundw
        case rel => exact ⟨2, by omega, by omega, by go_num, by trivial, by omega, by omega, by omega⟩
        case measure => simp [intOf]
      · exfalso; omega
    · rcases Int.lt_or_le 32768 4611686018427387903 with hc | hc
      · go_wp2
        go_roundw
        case rel => exact ⟨3, by omega, by omega, by go_num, by trivial, by omega, by omega, by omega⟩
        case measure => simp [intOf]
      · exfalso; omega
    · rcases Int.lt_or_le 8388608 4611686018427387903 with hc | hc
      · go_wp2
        go_roundw
        case rel => exact ⟨4, by omega, by omega, by go_num, by trivial, by omega, by omega, by omega⟩
        case measure => simp [intOf]
      · exfalso; omega
    · go_wp2
      go_ret
      exact ⟨ret_int (by rw [H.out]; (repeat' split) <;> first | rfl | omega), rfl⟩
set_option maxRecDepth 100000 in
theorem rwidth_t2 (n a : Int) (w : World) (h0 : 0 ≤ n) (h1 : n < 18446744073709551616) (ha0 : 0 ≤ a) (ha1 : a < 18446744073709551616) (hlt : n ≤ a) (hn : n ≤ 4611686018427387902) :
    Calls Try.prog 14 #[.int .u64 n, .int .u64 a, .bool true] w fun e w' => e = .returned (.int .i64 (widthS n a true)) ∧ w = w' := by
  have hdd : decide (a < n) = false := by simp; omega
  have hf : pDist n a true = n + 1 := by unfold pDist; rw [if_neg (by omega)]; omega
  have hk := width_key n a (n + 1) _ _ (by omega) hf
  have H := Lib.hid hk; clear hk hf
  go_enter Try.func14, Try.ntmps14
  go_wp2
  go_loopw [8] (fun i wr => ∃ k : Nat, 1 ≤ k ∧ k ≤ 4 ∧ i = .int .i64 k ∧ wr = w ∧ (2 ≤ k → 128 < n + 1) ∧ (3 ≤ k → 32768 < n + 1) ∧ (4 ≤ k → 8388608 < n + 1)) (fun i _ => 4 - (intOf i).toNat)
  case atStart => exact ⟨1, by omega, by omega, rfl, rfl, by omega, by omega, by omega⟩
  case round =>
    obtain ⟨k, hk1, hk4, rfl, rfl, q2, q3, q4⟩ := hrel
    have hk : k = 1 ∨ k = 2 ∨ k = 3 ∨ k = 4 := by omega
    rcases hk with rfl | rfl | rfl | rfl
    · rcases Int.lt_or_le 128 (n + 1) with hc | hc
      · go_wp2
        go_roundw
        case rel => exact ⟨2, by omega, by omega, by go_num, by trivial, by omega, by omega, by omega⟩
        case measure => simp [intOf]
      · go_wp2
        go_ret
        exact ⟨ret_int (by rw [H.out]; (repeat' split) <;> first | rfl | omega), rfl⟩
    · rcases Int.lt_or_le 32768 (n + 1) with hc | hc
      · go_wp2
        go_roundw
        case rel => exact ⟨3, by omega, by omega, by go_num, by trivial, by omega, by omega, by omega⟩
        case measure => simp [intOf]
      · go_wp2
        go_ret
        exact ⟨ret_int (by rw [H.out]; (repeat' split) <;> first | rfl | omega), rfl⟩
    · rcases Int.lt_or_le 8388608 (n + 1) with hc | hc
      · go_wp2
        go_roundw
        case rel => exact ⟨4, by omega, by omega, by go_num, by trivial, by omega, by omega, by omega⟩
        case measure => simp [intOf]
      · go_wp2
        go_ret
        exact ⟨ret_int (by rw [H.out]; (repeat' split) <;> first | rfl | omega), rfl⟩
    · go_wp2
      go_ret
      exact ⟨ret_int (by rw [H.out]; (repeat' split) <;> first | rfl | omega), rfl⟩
set_option maxRecDepth 100000 in
theorem rwidth_t3 (n a : Int) (w : World) (h0 : 0 ≤ n) (h1 : n < 18446744073709551616) (ha0 : 0 ≤ a) (ha1 : a < 18446744073709551616) (hlt : a < n) (hn : 4611686018427387903 < n - a) :
    Calls Try.prog 14 #[.int .u64 n, .int .u64 a, .bool true] w fun e w' => e = .returned (.int .i64 (widthS n a true)) ∧ w = w' := by
  have hdd : decide (a < n) = true := by simp; omega
  have hf : pDist n a true = n - a := by unfold pDist; rw [if_pos ⟨rfl, hlt⟩]
  have hk := width_key n a (4611686018427387903) _ _ (by omega) hf
  have H := Lib.hid hk; clear hk hf
  go_enter Try.func14, Try.ntmps14
  go_wp2
  go_loopw [8] (fun i wr => ∃ k : Nat, 1 ≤ k ∧ k ≤ 4 ∧ i = .int .i64 k ∧ wr = w ∧ (2 ≤ k → 128 < 4611686018427387903) ∧ (3 ≤ k → 32768 < 4611686018427387903) ∧ (4 ≤ k → 8388608 < 4611686018427387903)) (fun i _ => 4 - (intOf i).toNat)
  case atStart => exact ⟨1, by omega, by omega, rfl, rfl, by omega, by omega, by omega⟩
  case round =>
    obtain ⟨k, hk1, hk4, rfl, rfl, q2, q3, q4⟩ := hrel
    have hk : k = 1 ∨ k = 2 ∨ k = 3 ∨ k = 4 := by omega
    rcases hk with rfl | rfl | rfl | rfl
    · rcases Int.lt_or_le 128 4611686018427387903 with hc | hc
      · go_wp2
        go_roundw
        case rel => exact ⟨2, by omega, by omega, by go_num, by trivial, by omega, by omega, by omega⟩
        case measure => simp [intOf]
      · exfalso; omega
    · rcases Int.lt_or_le 32768 4611686018427387903 with hc | hc
      · go_wp2
        go_roundw
        case rel => exact ⟨3, by omega, by omega, by go_num, by trivial, by omega, by omega, by omega⟩
        case measure => simp [intOf]
      · exfalso; omega
    · rcases Int.lt_or_le 8388608 4611686018427387903 with hc | hc
      · go_wp2
        go_roundw
        case rel => exact ⟨4, by omega, by omega, by go_num, by trivial, by omega, by omega, by omega⟩
        case measure => simp [intOf]
      · exfalso; omega
    · go_wp2
      go_ret
      exact ⟨ret_int (by rw [H.out]; (repeat' split) <;> first | rfl | omega), rfl⟩
set_option maxRecDepth 100000 in
theorem rwidth_t4 (n a : Int) (w : World) (h0 : 0 ≤ n) (h1 : n < 18446744073709551616) (ha0 : 0 ≤ a) (ha1 : a < 18446744073709551616) (hlt : a < n) (hm : n ≤ 4611686018427387902) (hn : n - a ≤ 4611686018427387903) :
    Calls Try.prog 14 #[.int .u64 n, .int .u64 a, .bool true] w fun e w' => e = .returned (.int .i64 (widthS n a true)) ∧ w = w' := by
  have hdd : decide (a < n) = true := by simp; omega
  have hf : pDist n a true = n - a := by unfold pDist; rw [if_pos ⟨rfl, hlt⟩]
  have hk := width_key n a (n - a) _ _ (by omega) hf
  have H := Lib.hid hk; clear hk hf
  go_enter Try.func14, Try.ntmps14
  go_wp2
  go_loopw [8] (fun i wr => ∃ k : Nat, 1 ≤ k ∧ k ≤ 4 ∧ i = .int .i64 k ∧ wr = w ∧ (2 ≤ k → 128 < n - a) ∧ (3 ≤ k → 32768 < n - a) ∧ (4 ≤ k → 8388608 < n - a)) (fun i _ => 4 - (intOf i).toNat)
  case atStart => exact ⟨1, by omega, by omega, rfl, rfl, by omega, by omega, by omega⟩
  case round =>
    obtain ⟨k, hk1, hk4, rfl, rfl, q2, q3, q4⟩ := hrel
    have hk : k = 1 ∨ k = 2 ∨ k = 3 ∨ k = 4 := by omega
    rcases hk with rfl | rfl | rfl | rfl
    · rcases Int.lt_or_le 128 (n - a) with hc | hc
      · go_wp2
        go_roundw
        case rel => exact ⟨2, by omega, by omega, by go_num, by trivial, by omega, by omega, by omega⟩
        case measure => simp [intOf]
      · go_wp2
        go_ret
        exact ⟨ret_int (by rw [H.out]; (repeat' split) <;> first | rfl | omega), rfl⟩
    · rcases Int.lt_or_le 32768 (n - a) with hc | hc
      · go_wp2
        go_roundw
        case rel => exact ⟨3, by omega, by omega, by go_num, by trivial, by omega, by omega, by omega⟩
        case measure => simp [intOf]
      · go_wp2
        go_ret
        exact ⟨ret_int (by rw [H.out]; (repeat' split) <;> first | rfl | omega), rfl⟩
    · rcases Int.lt_or_le 8388608 (n - a) with hc | hc
      · go_wp2
        go_roundw
        case rel => exact ⟨4, by omega, by omega, by go_num, by trivial, by omega, by omega, by omega⟩
        case measure => simp [intOf]
      · go_wp2
        go_ret
        exact ⟨ret_int (by rw [H.out]; (repeat' split) <;> first | rfl | omega), rfl⟩
    · go_wp2
      go_ret
      exact ⟨ret_int (by rw [H.out]; (repeat' split) <;> first | rfl | omega), rfl⟩
set_option maxRecDepth 100000 in
theorem rwidth_t5 (n a : Int) (w : World) (h0 : 0 ≤ n) (h1 : n < 18446744073709551616) (ha0 : 0 ≤ a) (ha1 : a < 18446744073709551616) (hlt : a < n) (hm : 4611686018427387902 < n) (hn : n - a ≤ 4611686018427387903) :
    Calls Try.prog 14 #[.int .u64 n, .int .u64 a, .bool true] w fun e w' => e = .returned (.int .i64 (widthS n a true)) ∧ w = w' := by
  have hdd : decide (a < n) = true := by simp; omega
  have hf : pDist n a true = n - a := by unfold pDist; rw [if_pos ⟨rfl, hlt⟩]
  have hk := width_key n a (n - a) _ _ (by omega) hf
  have H := Lib.hid hk; clear hk hf
  go_enter Try.func14, Try.ntmps14
  go_wp2
  go_loopw [8] (fun i wr => ∃ k : Nat, 1 ≤ k ∧ k ≤ 4 ∧ i = .int .i64 k ∧ wr = w ∧ (2 ≤ k → 128 < n - a) ∧ (3 ≤ k → 32768 < n - a) ∧ (4 ≤ k → 8388608 < n - a)) (fun i _ => 4 - (intOf i).toNat)
  case atStart => exact ⟨1, by omega, by omega, rfl, rfl, by omega, by omega, by omega⟩
  case round =>
    obtain ⟨k, hk1, hk4, rfl, rfl, q2, q3, q4⟩ := hrel
    have hk : k = 1 ∨ k = 2 ∨ k = 3 ∨ k = 4 := by omega
    rcases hk with rfl | rfl | rfl | rfl
    · rcases Int.lt_or_le 128 (n - a) with hc | hc
      · go_wp2
        go_roundw
        case rel => exact ⟨2, by omega, by omega, by go_num, by trivial, by omega, by omega, by omega⟩
        case measure => simp [intOf]
      · go_wp2
        go_ret
        exact ⟨ret_int (by rw [H.out]; (repeat' split) <;> first | rfl | omega), rfl⟩
    · rcases Int.lt_or_le 32768 (n - a) with hc | hc
      · go_wp2
        go_roundw
        case rel => exact ⟨3, by omega, by omega, by go_num, by trivial, by omega, by omega, by omega⟩
        case measure => simp [intOf]
      · go_wp2
        go_ret
        exact ⟨ret_int (by rw [H.out]; (repeat' split) <;> first | rfl | omega), rfl⟩
    · rcases Int.lt_or_le 8388608 (n - a) with hc | hc
      · go_wp2
        go_roundw
        case rel => exact ⟨4, by omega, by omega, by go_num, by trivial, by omega, by omega, by omega⟩
        case measure => simp [intOf]
      · go_wp2
        go_ret
        exact ⟨ret_int (by rw [H.out]; (repeat' split) <;> first | rfl | omega), rfl⟩
    · go_wp2
      go_ret
      exact ⟨ret_int (by rw [H.out]; (repeat' split) <;> first | rfl | omega), rfl⟩
theorem rwidth_any (n a : Int) (has : Bool) (w : World) (h0 : 0 ≤ n) (h1 : n < 18446744073709551616) (ha0 : 0 ≤ a) (ha1 : a < 18446744073709551616) :
    Calls Try.prog 14 #[.int .u64 n, .int .u64 a, .bool has] w fun e w' => e = .returned (.int .i64 (widthS n a has)) ∧ w = w' := by
  cases has
  · rcases Int.lt_or_le 4611686018427387902 n with h | h
    · exact rwidth_f1 n a w h0 h1 ha0 ha1 h
    · exact rwidth_f2 n a w h0 h1 ha0 ha1 h
  · rcases Int.lt_or_le a n with hl | hl
    · rcases Int.lt_or_le 4611686018427387903 (n - a) with h | h
      · exact rwidth_t3 n a w h0 h1 ha0 ha1 hl h
      · rcases Int.lt_or_le 4611686018427387902 n with hm | hm
        · exact rwidth_t5 n a w h0 h1 ha0 ha1 hl hm h
        · exact rwidth_t4 n a w h0 h1 ha0 ha1 hl hm h
    · rcases Int.lt_or_le 4611686018427387902 n with h | h
      · exact rwidth_t1 n a w h0 h1 ha0 ha1 hl h
      · exact rwidth_t2 n a w h0 h1 ha0 ha1 hl h
theorem rpcut_quiet (n k m : Int) (w : World) (h0 : 0 ≤ n) (h1 : n < 18446744073709551616) (hk0 : -9223372036854775808 ≤ k) (hk1 : k ≤ 9223372036854775807) (e : cutS n k = m) (j : Nat) :
    Calls Try.prog 15 #[.int .u64 n, .int .i64 k] (w.drewN j) fun e w'' => e = .returned (.int .u32 m) ∧ ∃ d, w'' = w.drewN d := by
  subst e
  exact Calls.quiet_of_same ((rpcut_any n k (w.drewN j) h0 h1 hk0 hk1).mono fun _ _ h => ⟨h.1, h.2.symm⟩)
end Go.Proofs.Ytdcnfkejnhenoaa
