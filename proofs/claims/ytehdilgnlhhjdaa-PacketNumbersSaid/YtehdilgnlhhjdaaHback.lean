/-
  The head that is drawn may be written.
-/
import Derived.Test.YtehdilgnlhhjdaaMq5
import Derived.Test.YtehdilgnlhhjdaaHk0
import Derived.Test.YtehdilgnlhhjdaaHk1
import Derived.Test.YtehdilgnlhhjdaaMq15
import Derived.Test.YtehdilgnlhhjdaaMq12
namespace Go.Proofs.Ytehdilgnlhhjdaa
set_option linter.unusedVariables false
set_option linter.unusedSimpArgs false
open Go.RowKit
section
variable {ops : Array Oper} {rest : List Oper} {a : Act} {w : World} {Q : Exit → Act → World → Prop} {dst : Option Tmp} {x y : Operand} {t : TypeId} {pos : String} {after : Array Edge} {g : Option (Nat × Bool)}
end
theorem henc_bd (m : HN) (tok : List Int) (n : Int) (h : tok.length ≤ 32) : 0 < (hencS m tok n).length ∧ (hencS m tok n).length ≤ 1000 := by
  unfold hencS
  split
  · have e : (m.t.l).length = 8 := rfl
    simp only [List.length_cons]; omega
  · have e1 : (m.t.l).length = 8 := rfl
    have e2 : (m.f.l).length = 8 := rfl
    have e3 := textB_le tok
    have e4 : (twoB (16384 + n)).length = 2 := rfl
    have e5 : (if m.s = 0 then textB tok else []).length ≤ 40 := by split; omega; simp
    simp only [List.length_append, List.length_cons, List.length_nil]; omega
end Go.Proofs.Ytehdilgnlhhjdaa
