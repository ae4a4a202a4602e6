/-
  What the document's own answers (narthexref3) of Width, Cut and Whole are, for every number, width and mark.
-/
import Derived.Test.YtehdilgnlhhjdaaPn2
namespace Go.Proofs.Ytehdilgnlhhjdaa
set_option linter.unusedVariables false
open Go.RowKit
theorem and_low (n : Int) (K : Nat) (M : Int) (h0 : 0 ≤ n) (h1 : n < 18446744073709551616) (hK : K ≤ 63) (hM : (2 : Int) ^ K - 1 = M) :
    bits BinOp.and IntKind.u64 n M = n % 2 ^ K := by
  have h := low_and n K h0 h1 hK
  have hp := pow_pos' K
  have hl := pow_le64 hK
  have e1 : IntKind.u64.wrap ((2 : Int) ^ K) = 2 ^ K := by rw [IntKind.wrap_u64]; omega
  have e2 : IntKind.u64.wrap ((2 : Int) ^ K - 1) = 2 ^ K - 1 := by rw [IntKind.wrap_u64]; omega
  rw [e1, e2, hM] at h
  exact h
theorem rpcut_any (n k : Int) (w : World) (h0 : 0 ≤ n) (h1 : n < 18446744073709551616) (hk0 : -9223372036854775808 ≤ k) (hk1 : k ≤ 9223372036854775807) :
    Calls Try.prog 22 #[.int .u64 n, .int .i64 k] w fun e w' => e = .returned (.int .u32 (cutS n k)) ∧ w = w' := by
  have h4 := pW_four k
  have hf : cutS n k = n % winS k := rfl
  unfold winS at hf
  have a1 : bits BinOp.and IntKind.u64 n 255 = n % 256 := and_low n 8 _ h0 h1 (by omega) rfl
  have a2 : bits BinOp.and IntKind.u64 n 65535 = n % 65536 := and_low n 16 _ h0 h1 (by omega) rfl
  have a3 : bits BinOp.and IntKind.u64 n 16777215 = n % 16777216 := and_low n 24 _ h0 h1 (by omega) rfl
  have a4 : bits BinOp.and IntKind.u64 n 4294967295 = n % 4294967296 := and_low n 32 _ h0 h1 (by omega) rfl
  have c1 : IntKind.u64.wrap (IntKind.u64.wrap 256 - 1) = 255 := by decide
  have c2 : IntKind.u64.wrap (IntKind.u64.wrap 65536 - 1) = 65535 := by decide
  have c3 : IntKind.u64.wrap (IntKind.u64.wrap 16777216 - 1) = 16777215 := by decide
  have c4 : IntKind.u64.wrap (IntKind.u64.wrap 4294967296 - 1) = 4294967295 := by decide
  have hkk : k < 1 ∨ k = 1 ∨ k = 2 ∨ k = 3 ∨ k = 4 ∨ 4 < k := by omega
  unfold pW at h4 hf
  rcases hkk with hk | rfl | rfl | rfl | rfl | hk
  · rw [show min (max k 1) 4 = 1 by omega] at hf
    simp only [reduceIte, Int.reduceEq] at hf
    have H := Lib.hid hf; clear hf h4
    go_enter Try.func22, Try.ntmps22
    go_wp2
    go_ret
    exact ⟨ret_int (by rw [H.out] <;> simp [c1, a1]), rfl⟩
  · rw [show min (max (1 : Int) 1) 4 = 1 by omega] at hf
    simp only [reduceIte, Int.reduceEq] at hf
    have H := Lib.hid hf; clear hf h4
    go_enter Try.func22, Try.ntmps22
    go_wp2
    go_ret
    exact ⟨ret_int (by rw [H.out] <;> simp [c1, a1]), rfl⟩
  · rw [show min (max (2 : Int) 1) 4 = 2 by omega] at hf
    simp only [reduceIte, Int.reduceEq] at hf
    have H := Lib.hid hf; clear hf h4
    go_enter Try.func22, Try.ntmps22
    go_wp2
    go_ret
    exact ⟨ret_int (by rw [H.out] <;> simp [c2, a2]), rfl⟩
  · rw [show min (max (3 : Int) 1) 4 = 3 by omega] at hf
    simp only [reduceIte, Int.reduceEq] at hf
    have H := Lib.hid hf; clear hf h4
    go_enter Try.func22, Try.ntmps22
    go_wp2
    go_ret
    exact ⟨ret_int (by rw [H.out] <;> simp [c3, a3]), rfl⟩
  · rw [show min (max (4 : Int) 1) 4 = 4 by omega] at hf
    simp only [reduceIte, Int.reduceEq] at hf
    have H := Lib.hid hf; clear hf h4
    go_enter Try.func22, Try.ntmps22
    go_wp2
    go_ret
    exact ⟨ret_int (by rw [H.out] <;> simp [c4, a4]), rfl⟩
  · rw [show min (max k 1) 4 = 4 by omega] at hf
    simp only [reduceIte, Int.reduceEq] at hf
    have H := Lib.hid hf; clear hf h4
    go_enter Try.func22, Try.ntmps22
    go_wp2
    go_ret
    exact ⟨ret_int (by rw [H.out] <;> simp [c4, a4]), rfl⟩
theorem win_of (k : Int) : (pW k = 1 → winS k = 256) ∧ (pW k = 2 → winS k = 65536) ∧ (pW k = 3 → winS k = 16777216) ∧ (pW k = 4 → winS k = 4294967296) := by
  unfold winS
  refine ⟨fun h => ?_, fun h => ?_, fun h => ?_, fun h => ?_⟩ <;> rw [h] <;> rfl
theorem rpcut_quiet (n k m : Int) (w : World) (h0 : 0 ≤ n) (h1 : n < 18446744073709551616) (hk0 : -9223372036854775808 ≤ k) (hk1 : k ≤ 9223372036854775807) (e : cutS n k = m) (j : Nat) :
    Calls Try.prog 22 #[.int .u64 n, .int .i64 k] (w.drewN j) fun e w'' => e = .returned (.int .u32 m) ∧ ∃ d, w'' = w.drewN d := by
  subst e
  exact Calls.quiet_of_same ((rpcut_any n k (w.drewN j) h0 h1 hk0 hk1).mono fun _ _ h => ⟨h.1, h.2.symm⟩)
end Go.Proofs.Ytehdilgnlhhjdaa
