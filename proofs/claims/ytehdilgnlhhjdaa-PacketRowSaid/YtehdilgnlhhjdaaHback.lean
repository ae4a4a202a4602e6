/-
  The head that is drawn may be written.
-/
import Derived.Test.YtehdilgnlhhjdaaMq6
import Derived.Test.YtehdilgnlhhjdaaHk0
import Derived.Test.YtehdilgnlhhjdaaHk1
import Derived.Test.YtehdilgnlhhjdaaMq15
import Derived.Test.YtehdilgnlhhjdaaMq13
import Derived.Test.YtehdilgnlhhjdaaMq5
namespace Go.Proofs.Ytehdilgnlhhjdaa
set_option linter.unusedVariables false
set_option linter.unusedSimpArgs false
open Go.RowKit
theorem khead_any (P : Nat → Prop) (S T F W : Int) (d : Sl) (ph : Bool) (bs : List Int) (w : World) (hd : InD w P d bs) (hS : -9223372036854775808 ≤ S ∧ S ≤ 9223372036854775807) (hT : -9223372036854775808 ≤ T ∧ T ≤ 9223372036854775807) (hF : -9223372036854775808 ≤ F ∧ F ≤ 9223372036854775807) (hW : -9223372036854775808 ≤ W ∧ W ≤ 9223372036854775807) :
    Calls Try.prog 12 #[.agg (xL S T F W d ph).toArray] w (KHPost w P) := by
  have h := withinS_bd S 0 2 (by decide)
  have h3 : withinS S 0 2 = 0 ∨ withinS S 0 2 = 1 ∨ withinS S 0 2 = 2 := by omega
  rcases h3 with h3 | h3 | h3
  · exact khead_0 P S T F W d ph bs w hd hS hT hF hW h3
  · exact khead_1 P S T F W d ph bs w hd hS hT hF hW h3
  · exact khead_2 P S T F W d ph bs w hd hS hT hF hW h3
section
variable {ops : Array Oper} {rest : List Oper} {a : Act} {w : World} {Q : Exit → Act → World → Prop} {dst : Option Tmp} {x y : Operand} {t : TypeId} {pos : String} {after : Array Edge} {g : Option (Nat × Bool)}
end
theorem henc_bd (m : HN) (tok : List Int) (n : Int) (h : tok.length ≤ 32) : 0 < (hencS m tok n).length ∧ (hencS m tok n).length ≤ 1000 := by
  unfold hencS
  split
  · have e : (m.t.l).length = 8 := rfl
    simp only [List.length_cons]; omega
  · have e1 : (m.t.l).length = 8 := rfl
    have e2 : (m.f.l).length = 8 := rfl
    have e3 := textB_le tok
    have e4 : (twoB (16384 + n)).length = 2 := rfl
    have e5 : (if m.s = 0 then textB tok else []).length ≤ 40 := by split; omega; simp
    simp only [List.length_append, List.length_cons, List.length_nil]; omega
end Go.Proofs.Ytehdilgnlhhjdaa
