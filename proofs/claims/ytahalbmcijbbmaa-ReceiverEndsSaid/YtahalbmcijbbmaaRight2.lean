/-
  frame.Right, for every frame.
-/
import Derived.Test.YtahalbmcijbbmaaRight
namespace Go.Proofs.Ytahalbmcijbbmaa
set_option linter.unusedVariables false
set_option linter.unusedSimpArgs false
open Go.RowKit
section
variable {ops : Array Oper} {rest : List Oper} {a : Act} {w : World} {Q : Exit → Act → World → Prop} {dst : Option Tmp} {x y : Operand} {t : TypeId} {pos : String} {after : Array Edge} {g : Option (Nat × Bool)}
/-- A whole frame's load, its guard met. -/
theorem ld_fr_g (p : Nat) (l : List Value) (hg : Region.wanted ⟨dst, .load 46 x, t, pos, after, g⟩ (yielded ops a.tmps) = true) (hx : a.eval x = .pointer (some ⟨p, 0, none⟩)) (hA : At w p 46 l) (hl : l.length = 19)
    (h : wpList Try.prog ops Q rest (a.put dst (.agg l.toArray)) w) : wpList Try.prog ops Q (⟨dst, .load 46 x, t, pos, after, g⟩ :: rest) a w := by
  refine wpList_step fun K hK => ?_
  rw [if_pos hg]
  exact wp_load_mid _ _ rfl p 0 hx l _ hA.rangeAt Try.underlying46 rfl (by rw [hl]; exact fr_info) (hK _ _ h)
end
end Go.Proofs.Ytahalbmcijbbmaa
