/-
  The document's own Protect (narthexref9).
-/
import Derived.Test.YtehdilgnlhhjdaaJg
namespace Go.Proofs.Ytehdilgnlhhjdaa
set_option linter.unusedVariables false
set_option linter.unusedSimpArgs false
open Go.RowKit Go.ChangeShapes Go.WideShapes Go.Deep
section
variable {ops : Array Oper} {rest : List Oper} {a : Act} {w : World} {Q : Exit → Act → World → Prop} {dst : Option Tmp} {x y : Operand} {t : TypeId} {pos : String} {after : Array Edge} {g : Option (Nat × Bool)}
end
/-- Keys of the document and a head in their blocks. -/
structure RkS (gk gh : Nat) (K L : List Value) (key wd s : Int) (W : World) : Prop where
  k : At W gk 24 K
  h : At W gh 30 L
  ck : W.cell? ⟨gk, 0, none⟩ = some (.int .u64 key)
  cw : W.cell? ⟨gh, 18, none⟩ = some (.int .i64 wd)
  cs : W.cell? ⟨gh, 0, none⟩ = some (.int .i64 s)
theorem RkS.kept {S : Nat → Prop} {gk gh : Nat} {K L : List Value} {key wd s : Int} {W W' : World} (h : RkS gk gh K L key wd s W) (k : Kept S W W') (h1 : ¬ S gk) (h2 : ¬ S gh) : RkS gk gh K L key wd s W' :=
  ⟨(k.block _ h.k.lt h1).trans h.k, (k.block _ h.h.lt h2).trans h.h, by rw [k.cell (p := ⟨gk, 0, none⟩) h.k.lt h1]; exact h.ck, by rw [k.cell (p := ⟨gh, 18, none⟩) h.h.lt h2]; exact h.cw, by rw [k.cell (p := ⟨gh, 0, none⟩) h.h.lt h2]; exact h.cs⟩
theorem RkS.below {gk gh : Nat} {K L : List Value} {key wd s : Int} {W W' : World} (h : RkS gk gh K L key wd s W) (k : Below W.heap.size W W') : RkS gk gh K L key wd s W' := h.kept (Kept.of_below k (fun _ => False)) (fun x => x) (fun x => x)
theorem RkS.belowB {gk gh : Nat} {K L : List Value} {key wd s : Int} {B : Nat} {W W' : World} (h : RkS gk gh K L key wd s W) (k : Below B W W') (h1 : gk < B) (h2 : gh < B) : RkS gk gh K L key wd s W' :=
  ⟨h.k.below k h1, h.h.below k h2, by rw [k.cell (p := ⟨gk, 0, none⟩) h1]; exact h.ck, by rw [k.cell (p := ⟨gh, 18, none⟩) h2]; exact h.cw, by rw [k.cell (p := ⟨gh, 0, none⟩) h2]; exact h.cs⟩
/-- What the document's Protect answers. -/
def RProPost (sk mk n : Int) (m : HN) (tok pay : List Int) (w : World) (e : Ending) (w' : World) : Prop :=
  ∃ v, e = .returned (.tuple #[v, .bool (mayB n m tok pay)]) ∧ Own w' w.heap.size 5 v (if mayB n m tok pay = true then packS sk mk n m tok pay else []) ∧ Below w.heap.size w w'
theorem RProPost.no {sk mk n : Int} {m : HN} {tok pay : List Int} {w w' : World} (h : mayB n m tok pay = false) (hb : Below w.heap.size w w') : RProPost sk mk n m tok pay w (.returned (.tuple #[.slice none 0 0, .bool false])) w' := by
  unfold RProPost; rw [h]; exact ⟨_, rfl, Own.none_ _ _ _, hb⟩
theorem RProPost.yes {sk mk n : Int} {m : HN} {tok pay : List Int} {w w' : World} {v : Value} (h : mayB n m tok pay = true) (ho : Own w' w.heap.size 5 v (packS sk mk n m tok pay)) (hb : Below w.heap.size w w') : RProPost sk mk n m tok pay w (.returned (.tuple #[v, .bool true])) w' := by
  unfold RProPost; rw [h, if_pos rfl]; exact ⟨_, rfl, ho, hb⟩
end Go.Proofs.Ytehdilgnlhhjdaa
