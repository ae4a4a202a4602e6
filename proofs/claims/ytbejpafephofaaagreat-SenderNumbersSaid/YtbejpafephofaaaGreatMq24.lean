/-
  What may be of a frame, by the document's own answer (narthexref4.Right): at an Ack; as frame.Right says, for every frame.
-/
import Derived.Test.YtbejpafephofaaaGreatFqr
import Derived.Test.YtbejpafephofaaaGreatWack
import Derived.Test.YtbejpafephofaaaGreatMq16
namespace Go.Proofs.YtbejpafephofaaaGreat
section
set_option linter.unusedVariables false
set_option linter.unusedSimpArgs false
open Go.RowKit
theorem rightB_4 (s o l c f q y c0 c1 c2 c3 c4 c5 c6 c7 : Int) (fin : Bool) (ds : List Int) (rs : RS) (dn : Nat) (hd : ds.length = dn) (s0 : 0 ≤ s) (o0 : 0 ≤ o) (l0 : 0 ≤ l) (c_0 : 0 ≤ c) (f0 : 0 ≤ f) (q0 : 0 ≤ q) (y0 : 0 ≤ y) :
    rightB ⟨4, s, o, fin, l, c, f, q, y, c0, c1, c2, c3, c4, c5, c6, c7⟩ ds rs = (smL [s, c] && (decide (f ≤ 1099511627776))) := by
  subst hd
  rw [Bool.eq_iff_iff]
  simp [rightB, knownB, nrB, smB, askN, drB, askDs, FN.zero, glS, smL]
  try omega
end
section
set_option linter.unusedVariables false
open Go.RowKit
end
end Go.Proofs.YtbejpafephofaaaGreat
