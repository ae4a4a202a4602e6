/-
  Plain arithmetic for layer 1: what masks, shifts and turns of 64-bit numbers come to. No condition beyond those of each lemma. Imports nothing of the translation.
-/
import Derived.WalkKit
import Derived.Laws.BitsAllLaws
import Derived.Laws.Bits64b
import Derived.Laws.DeepNot64
import Derived.Test.YtohahkjikhpamaaProg
import Derived.ProofKit
import Derived.OpenShut
import Derived.Lib.Hide
import Derived.Outline
import Derived.WalkLawsBesides
import Derived.WalkSpells
import Derived.RegionTactic
import Derived.ChangeAlike
import Derived.Deep.QuietTactic
import Derived.BigQuiet
import Derived.Test.YtohahkjikhpamaaMq13
import Derived.SizedLaws
namespace Go.Proofs.Ytohahkjikhpamaa
section
set_option linter.unusedVariables false
open Go.RowKit
theorem wrapI (n : Int) : wrap64 n = (n + 9223372036854775808) % 18446744073709551616 - 9223372036854775808 := by unfold wrap64; rfl
end
section
set_option linter.unusedVariables false
open Go.RowKit
theorem ret_int {k : IntKind} {a b : Int} (h : a = b) : Ending.returned (.int k a) = .returned (.int k b) := by rw [h]
end
section
set_option linter.unusedVariables false
open Go.RowKit
end
section
set_option linter.unusedVariables false
open Go.RowKit Go.ChangeShapes Go.WideShapes Go.Deep
end
end Go.Proofs.Ytohahkjikhpamaa
