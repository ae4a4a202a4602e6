/-
  The document's own Reveal (narthexref9).
-/
import Derived.Test.YtehdilgnlhhjdaaJh
namespace Go.Proofs.Ytehdilgnlhhjdaa
set_option linter.unusedVariables false
set_option linter.unusedSimpArgs false
open Go.RowKit Go.ChangeShapes Go.WideShapes Go.Deep
section
variable {P : Program} {w : World} {fn : Func} {tmps : Array Value}
end
/-- What stays while the mask is taken off. -/
structure RaS (gk gh : Nat) (K : List Value) (s : Int) (W : World) : Prop where
  k : At W gk 24 K
  s : W.cell? ⟨gh, 0, none⟩ = some (.int .i64 s)
theorem RaS.below {gk gh : Nat} {K : List Value} {s : Int} {W W' : World} (h : RaS gk gh K s W) (k : Below W.heap.size W W') : RaS gk gh K s W' := ⟨h.k.below k h.k.lt, cell_below h.s k⟩
/-- What stays while the head is told. -/
structure RbS (gh : Nat) (L : List Value) (wd : Int) (W : World) : Prop where
  h : At W gh 30 L
  w : W.cell? ⟨gh, 18, none⟩ = some (.int .i64 wd)
theorem RbS.kept {S : Nat → Prop} {gh : Nat} {L : List Value} {wd : Int} {W W' : World} (h : RbS gh L wd W) (k : Kept S W W') (h1 : ¬ S gh) : RbS gh L wd W' := ⟨h.h.kept k h1, by rw [k.cell (p := ⟨gh, 18, none⟩) h.h.lt h1]; exact h.w⟩
theorem turnB_head (bs ms : List Int) (a k : Nat) (x : Int) (ha : 1 ≤ a) (h : 0 < bs.length) : (turnB bs ms a k x).getD 0 0 = xorB (bs.getD 0 0) (andB (ms.getD 0 0) x) := by
  unfold turnB
  rw [List.getD_eq_getElem?_getD, turnL_at _ _ _ _ _ (by rw [turnF_len]; exact h), if_neg (by omega)]
  show (turnF bs _).getD 0 0 = _
  rw [turnF_head _ _ h]
end Go.Proofs.Ytehdilgnlhhjdaa
