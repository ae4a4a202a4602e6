/-
  Whether rows of bytes as strings, and arrays of eight bytes, are the same.
-/
import Derived.Test.YtkahndjflhgccaaMe
import Derived.Test.YtkahndjflhgccaaMc
import Derived.ChangeKeysEq
namespace Go.Proofs.Ytkahndjflhgccaa
set_option linter.unusedVariables false
open Go.RowKit
def cidB (m m' : FN) : Bool := m.c0 == m'.c0 && (m.c1 == m'.c1 && (m.c2 == m'.c2 && (m.c3 == m'.c3 && (m.c4 == m'.c4 && (m.c5 == m'.c5 && (m.c6 == m'.c6 && m.c7 == m'.c7))))))
theorem run_cid (W : World) (m m' : FN) : (Op.equalIn 10000 29 (.agg #[.int .u8 m.c0, .int .u8 m.c1, .int .u8 m.c2, .int .u8 m.c3, .int .u8 m.c4, .int .u8 m.c5, .int .u8 m.c6, .int .u8 m.c7])
    (.agg #[.int .u8 m'.c0, .int .u8 m'.c1, .int .u8 m'.c2, .int .u8 m'.c3, .int .u8 m'.c4, .int .u8 m'.c5, .int .u8 m'.c6, .int .u8 m'.c7])).run Try.prog W = .ok (cidB m m') W := by
  have hp : Try.prog.plainKey 5 = true := by kernel_rfl
  have hu : Try.prog.underlying 5 = some (.int .u8) := Try.underlying5
  have hc : Try.prog.cellsOf 5 = 1 := by kernel_rfl
  obtain ⟨i, hi⟩ : ∃ i, Try.prog.info? 5 = some i := by
    cases h : Try.prog.info? 5 with
    | some i => exact ⟨i, rfl⟩
    | none => exact absurd (show (Try.prog.info? 5).isSome = true by kernel_rfl) (by rw [h]; simp)
  rw [show (10000 : Nat) = 9999 + 1 from rfl, run_equalIn_array W 9999 _ _ (n := 8) Try.underlying29 hi, hc, show (9999 : Nat) = 9998 + 1 from rfl]
  rw [show List.range 8 = [0, 1, 2, 3, 4, 5, 6, 7] from rfl]
  unfold cidB
  rw [step_items W _ .u8 hp hu 9998 1 _ _ 0 _ m.c0 m'.c0 rfl rfl]
  cases (m.c0 == m'.c0) <;> simp only [Bool.false_and, Bool.true_and, if_true, Bool.false_eq_true, if_false]
  rw [step_items W _ .u8 hp hu 9998 1 _ _ 1 _ m.c1 m'.c1 rfl rfl]
  cases (m.c1 == m'.c1) <;> simp only [Bool.false_and, Bool.true_and, if_true, Bool.false_eq_true, if_false]
  rw [step_items W _ .u8 hp hu 9998 1 _ _ 2 _ m.c2 m'.c2 rfl rfl]
  cases (m.c2 == m'.c2) <;> simp only [Bool.false_and, Bool.true_and, if_true, Bool.false_eq_true, if_false]
  rw [step_items W _ .u8 hp hu 9998 1 _ _ 3 _ m.c3 m'.c3 rfl rfl]
  cases (m.c3 == m'.c3) <;> simp only [Bool.false_and, Bool.true_and, if_true, Bool.false_eq_true, if_false]
  rw [step_items W _ .u8 hp hu 9998 1 _ _ 4 _ m.c4 m'.c4 rfl rfl]
  cases (m.c4 == m'.c4) <;> simp only [Bool.false_and, Bool.true_and, if_true, Bool.false_eq_true, if_false]
  rw [step_items W _ .u8 hp hu 9998 1 _ _ 5 _ m.c5 m'.c5 rfl rfl]
  cases (m.c5 == m'.c5) <;> simp only [Bool.false_and, Bool.true_and, if_true, Bool.false_eq_true, if_false]
  rw [step_items W _ .u8 hp hu 9998 1 _ _ 6 _ m.c6 m'.c6 rfl rfl]
  cases (m.c6 == m'.c6) <;> simp only [Bool.false_and, Bool.true_and, if_true, Bool.false_eq_true, if_false]
  rw [step_items W _ .u8 hp hu 9998 1 _ _ 7 _ m.c7 m'.c7 rfl rfl]
  cases (m.c7 == m'.c7) <;> simp [Op.eqItems]
end Go.Proofs.Ytkahndjflhgccaa
