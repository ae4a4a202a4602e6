/-
  The document's own Decode of params (narthexref6): what it says is decodeS.
-/
import Derived.Test.YtdakbedohjemeaaPd
import Derived.Test.YtdakbedohjemeaaMq4
import Derived.Deep.Cut
namespace Go.Proofs.Ytdakbedohjemeaa
set_option linter.unusedVariables false
set_option linter.unusedSimpArgs false
open Go.RowKit Go.ChangeShapes Go.WideShapes Go.Deep
def RdecPost (bs : List Int) (w : World) (e : Ending) (w' : World) : Prop :=
  (match decodeS bs with
  | none => e = .returned (.tuple #[pmV .zero, .bool false])
  | some p => e = .returned (.tuple #[pmV p, .bool true])) ∧ Below w.heap.size w w'
theorem RdecPost.no {bs : List Int} {w w' : World} (h : decodeS bs = none) (hb : Below w.heap.size w w') : RdecPost bs w (.returned (.tuple #[pmV .zero, .bool false])) w' := by
  unfold RdecPost; rw [h]; exact ⟨rfl, hb⟩
theorem RdecPost.yes {bs : List Int} {w w' : World} {p : PN} (h : decodeS bs = some p) (hb : Below w.heap.size w w') : RdecPost bs w (.returned (.tuple #[pmV p, .bool true])) w' := by
  unfold RdecPost; rw [h]; exact ⟨rfl, hb⟩
end Go.Proofs.Ytdakbedohjemeaa
