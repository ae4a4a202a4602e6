/-
  The document's own reader (narthexref2) answers what package octet's does; Two and Text and Of of package octet.
-/
import Derived.Test.YtbejpafephofaaaGreatMq17
import Derived.Test.YtbejpafephofaaaGreatMq24
import Derived.Test.YtbejpafephofaaaGreatMq23
namespace Go.Proofs.YtbejpafephofaaaGreat
section
set_option linter.unusedVariables false
open Go.RowKit
set_option maxRecDepth 100000 in
theorem Rdr.drewN {w : World} {p : Nat} {T : TypeId} {P : Nat → Prop} {s : St} (h : Rdr w p T P s) (n : Nat) : Rdr (w.drewN n) p T P s := h.kept ((Kept.refl (fun _ => False) w).drewN n) (fun h => h) (fun _ _ h => h)
end
section
set_option linter.unusedVariables false
open Go.RowKit
end
section
set_option linter.unusedVariables false
open Go.RowKit
end
section
set_option linter.unusedVariables false
open Go.RowKit
end
end Go.Proofs.YtbejpafephofaaaGreat
