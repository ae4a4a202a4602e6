/-
  The document's own mask (narthexref9).
-/
import Derived.Test.YtehdilgnlhhjdaaMq16
import Derived.Test.YtehdilgnlhhjdaaHre
namespace Go.Proofs.Ytehdilgnlhhjdaa
set_option linter.unusedVariables false
set_option linter.unusedSimpArgs false
open Go.RowKit Go.ChangeShapes Go.WideShapes Go.Deep
theorem turnF_head (bs : List Int) (x : Int) (h : 0 < bs.length) : (turnF bs x).getD 0 0 = xorB (bs.getD 0 0) x := by
  unfold turnF
  rw [List.getD_eq_getElem?_getD, List.getElem?_set_self h]
  rfl
end Go.Proofs.Ytehdilgnlhhjdaa
