/-
  What the document's own answers (narthexref3) of Width, Cut and Whole are, for every number, width and mark.
-/
import Derived.Test.YtehdilgnlhhjdaaPn2
namespace Go.Proofs.Ytehdilgnlhhjdaa
set_option linter.unusedVariables false
open Go.RowKit
theorem win_of (k : Int) : (pW k = 1 → winS k = 256) ∧ (pW k = 2 → winS k = 65536) ∧ (pW k = 3 → winS k = 16777216) ∧ (pW k = 4 → winS k = 4294967296) := by
  unfold winS
  refine ⟨fun h => ?_, fun h => ?_, fun h => ?_, fun h => ?_⟩ <;> rw [h] <;> rfl
end Go.Proofs.Ytehdilgnlhhjdaa
