/-
  A frame that is right, as bytes, by the document's own answer (narthexref4.One): an Ack, and every frame.
-/
import Derived.Test.YtphpdaldplkgmaaGreatFqp
import Derived.IntWalk
namespace Go.Proofs.YtphpdaldplkgmaaGreat
set_option linter.unusedVariables false
set_option linter.unusedSimpArgs false
open Go.RowKit
theorem rone_any (P : Nat → Prop) (m : FN) (d r : Sl) (ds : List Int) (rs : RS) (w : World) (hf : Fits w P m d r ds rs) (hr : rightB m ds rs = true) (hkk : m.k = 0 ∨ m.k = 5 ∨ m.k = 17) : Calls Tryz.prog 35 #[frV m d r] w (VPost w.heap.size (oneS m ds rs) w) := by
  obtain ⟨k, s, o, fin, l, c, f, q, y, c0, c1, c2, c3, c4, c5, c6, c7⟩ := m
  obtain ⟨dA, dn, dc⟩ := d
  obtain ⟨rA, rn, rc⟩ := r
  simp only at hkk
  rcases hkk with rfl | rfl | rfl
  · exact rone_0 P s o l c f q y c0 c1 c2 c3 c4 c5 c6 c7 fin dA dn dc rA rn rc ds rs w hf hr
  · exact rone_5 P s o l c f q y c0 c1 c2 c3 c4 c5 c6 c7 fin dA dn dc rA rn rc ds rs w hf hr
  · exact rone_17 P s o l c f q y c0 c1 c2 c3 c4 c5 c6 c7 fin dA dn dc rA rn rc ds rs w hf hr
end Go.Proofs.YtphpdaldplkgmaaGreat
