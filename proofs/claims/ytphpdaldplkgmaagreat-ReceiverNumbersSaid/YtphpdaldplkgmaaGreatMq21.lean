/-
  What may be of a frame, by the document's own answer (narthexref4.Right): at an Ack; as frame.Right says, for every frame.
-/
import Derived.Test.YtphpdaldplkgmaaGreatFqr
import Derived.Test.YtphpdaldplkgmaaGreatWack
import Derived.Test.YtphpdaldplkgmaaGreatMq6
import Derived.Test.YtphpdaldplkgmaaGreatMq4
import Derived.Test.YtphpdaldplkgmaaGreatMq20
namespace Go.Proofs.YtphpdaldplkgmaaGreat
section
set_option linter.unusedVariables false
set_option linter.unusedSimpArgs false
open Go.RowKit
theorem rightB_0 (s o l c f q y c0 c1 c2 c3 c4 c5 c6 c7 : Int) (fin : Bool) (ds : List Int) (rs : RS) (dn : Nat) (hd : ds.length = dn) (s0 : 0 ≤ s) (o0 : 0 ≤ o) (l0 : 0 ≤ l) (c_0 : 0 ≤ c) (f0 : 0 ≤ f) (q0 : 0 ≤ q) (y0 : 0 ≤ y) :
    rightB ⟨0, s, o, fin, l, c, f, q, y, c0, c1, c2, c3, c4, c5, c6, c7⟩ ds rs = (true) := by
  subst hd
  rw [Bool.eq_iff_iff]
  simp [rightB, knownB, nrB, smB, askN, drB, askDs, FN.zero, glS, smL]
  try omega
theorem rightB_5 (s o l c f q y c0 c1 c2 c3 c4 c5 c6 c7 : Int) (fin : Bool) (ds : List Int) (rs : RS) (dn : Nat) (hd : ds.length = dn) (s0 : 0 ≤ s) (o0 : 0 ≤ o) (l0 : 0 ≤ l) (c_0 : 0 ≤ c) (f0 : 0 ≤ f) (q0 : 0 ≤ q) (y0 : 0 ≤ y) :
    rightB ⟨5, s, o, fin, l, c, f, q, y, c0, c1, c2, c3, c4, c5, c6, c7⟩ ds rs = (smL [s, c]) := by
  subst hd
  rw [Bool.eq_iff_iff]
  simp [rightB, knownB, nrB, smB, askN, drB, askDs, FN.zero, glS, smL]
  try omega
theorem rightB_17 (s o l c f q y c0 c1 c2 c3 c4 c5 c6 c7 : Int) (fin : Bool) (ds : List Int) (rs : RS) (dn : Nat) (hd : ds.length = dn) (s0 : 0 ≤ s) (o0 : 0 ≤ o) (l0 : 0 ≤ l) (c_0 : 0 ≤ c) (f0 : 0 ≤ f) (q0 : 0 ≤ q) (y0 : 0 ≤ y) :
    rightB ⟨17, s, o, fin, l, c, f, q, y, c0, c1, c2, c3, c4, c5, c6, c7⟩ ds rs = (smL [s] && (decide (l ≤ 1099511627776))) := by
  subst hd
  rw [Bool.eq_iff_iff]
  simp [rightB, knownB, nrB, smB, askN, drB, askDs, FN.zero, glS, smL]
  try omega
end
section
set_option linter.unusedVariables false
open Go.RowKit
end
end Go.Proofs.YtphpdaldplkgmaaGreat
