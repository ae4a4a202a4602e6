/-
  LockBack returns true at every input: its walk.
-/
import Derived.Test.YtehdilgnlhhjdaaL2
namespace Go.Proofs.Ytehdilgnlhhjdaa
set_option linter.unusedVariables false
set_option linter.unusedSimpArgs false
open Go.RowKit Go.ChangeShapes Go.WideShapes Go.Deep
/-- A row that came in, cut to no more than k bytes. -/
theorem InRow.cutk {w : World} {A : Option Addr} {n c : Nat} {bs : List Int} (h : InRow w A n c bs) (k : Nat) : Rd w w.heap.size A (min n k) (bs.take (min n k)) ∧ min n k ≤ k ∧ min n k ≤ n ∧ min n k ≤ c ∧ c ≤ maxLen ∧ (k < n → A ≠ none) := by
  obtain ⟨h1, h2, h3, h4⟩ := h
  exact ⟨h1.cut (Nat.min_le_left _ _), Nat.min_le_right _ _, Nat.min_le_left _ _, Nat.le_trans (Nat.min_le_left _ _) h2, h3, fun hk e => by have := h4 e; omega⟩
end Go.Proofs.Ytehdilgnlhhjdaa
