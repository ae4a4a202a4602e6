/-
  Two, three numbers that were put are read.
-/
import Derived.Test.YtcobcgbpmkpljaaRd3
import Derived.Test.YtcobcgbpmkpljaaWack
import Derived.Test.YtcobcgbpmkpljaaTake
namespace Go.Proofs.Ytcobcgbpmkpljaa
set_option linter.unusedVariables false
open Go.RowKit
theorem var_two (x y : Int) (hx : Vr x) (hy : Vr y) (more : List Int) : varR (putL [x, y] ++ more, false) = x ∧ varR (varN (putL [x, y] ++ more, false)) = y ∧ varN (varN (putL [x, y] ++ more, false)) = (more, false) := by
  have e : putL [x, y] ++ more = putS x ++ (putS y ++ more) := by simp [putL]
  rw [e, (var_app x hx _).1, (var_app x hx _).2, (var_app y hy _).1, (var_app y hy _).2]
  exact ⟨rfl, rfl, rfl⟩
theorem var_three (x y z : Int) (hx : Vr x) (hy : Vr y) (hz : Vr z) (more : List Int) : varR (putL [x, y, z] ++ more, false) = x ∧ varR (varN (putL [x, y, z] ++ more, false)) = y ∧ varR (varN (varN (putL [x, y, z] ++ more, false))) = z ∧
    varN (varN (varN (putL [x, y, z] ++ more, false))) = (more, false) := by
  have e : putL [x, y, z] ++ more = putS x ++ (putS y ++ (putS z ++ more)) := by simp [putL]
  rw [e, (var_app x hx _).1, (var_app x hx _).2, (var_app y hy _).1, (var_app y hy _).2, (var_app z hz _).1, (var_app z hz _).2]
  exact ⟨rfl, rfl, rfl, rfl⟩
end Go.Proofs.Ytcobcgbpmkpljaa
