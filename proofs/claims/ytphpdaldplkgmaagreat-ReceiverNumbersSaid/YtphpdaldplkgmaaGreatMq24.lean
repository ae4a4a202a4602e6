/-
  The document's own Same of two Acks.
-/
import Derived.Test.YtphpdaldplkgmaaGreatSame
import Derived.IntWalk
import Derived.BigRegion
import Derived.Test.YtphpdaldplkgmaaGreatMq5
namespace Go.Proofs.YtphpdaldplkgmaaGreat
section
set_option linter.unusedVariables false
set_option linter.unusedSimpArgs false
open Go.RowKit
end
section
set_option linter.unusedVariables false
open Go.RowKit
set_option linter.unusedSimpArgs false
theorem rsame_any (P : Nat → Prop) (m m' : FN) (d d' r r' : Sl) (ds ds' : List Int) (rs rs' : RS) (w : World) (hf : Fits w P m d r ds rs) (hf' : Fits w P m' d' r' ds' rs') (hkk : m.k = 0 ∨ m.k = 5 ∨ m.k = 17) :
    Calls Tryz.prog 20 #[frV m d r, frV m' d' r'] w (FrPost (.bool (sameB m m' ds ds' rs rs')) w) := by
  obtain ⟨k, s, o, fin, l, c, f, q, y, c0, c1, c2, c3, c4, c5, c6, c7⟩ := m
  obtain ⟨k', s', o', fin', l', c', f', q', y', c0', c1', c2', c3', c4', c5', c6', c7'⟩ := m'
  by_cases hk : k = k'
  · subst hk
    simp only at hkk
    rcases hkk with rfl | rfl | rfl
    · exact rsame_0 (hf := hf) (hf' := hf')
    · exact rsame_5 (hf := hf) (hf' := hf')
    · exact rsame_17 (hf := hf) (hf' := hf')
  · exact rsame_ne (hf := hf) (hf' := hf') (hk := by simpa [bne] using hk)
end
end Go.Proofs.YtphpdaldplkgmaaGreat
