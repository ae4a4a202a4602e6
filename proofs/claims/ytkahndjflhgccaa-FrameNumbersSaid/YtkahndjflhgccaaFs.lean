/-
  What the program's Same says is what the document's Same says.
-/
import Derived.Test.YtkahndjflhgccaaFsame
namespace Go.Proofs.Ytkahndjflhgccaa
set_option linter.unusedVariables false
set_option linter.unusedSimpArgs false
open Go.RowKit
theorem fsB_same (m n : FN) (ds ds' : List Int) (rs rs' : RS) : fsB (askN m) (askN n) (askDs m.k ds) (askDs n.k ds') (askRs m.k rs) (askRs n.k rs') = sameB m n ds ds' rs rs' := by
  by_cases hk : m.k = n.k
  · obtain ⟨k, s, o, fin, l, c, f, q, y, c0, c1, c2, c3, c4, c5, c6, c7⟩ := m
    obtain ⟨k', s', o', fin', l', c', f', q', y', c0', c1', c2', c3', c4', c5', c6', c7'⟩ := n
    simp only at hk
    subst hk
    rcases kind_cases k with rfl | rfl | rfl | rfl | rfl | rfl | rfl | rfl | rfl | rfl | rfl | rfl | rfl | rfl | rfl | rfl | rfl | hx
    all_goals first
      | (simp [fsB, sameB, askN, cidB, numB, askDs, askRs, FN.zero]; done)
      | (simp [fsB, sameB, askN, cidB, numB, askDs, askRs, FN.zero]; ac_rfl)
      | (simp only [beq_eq_false_iff_ne] at hx
         obtain ⟨e0, e1, e30, e2, e4, e5, e6, e8, e16, e18, e20, e17, e24, e25, e26, e27, e28⟩ := hx
         simp [fsB, sameB, askN, cidB, numB, askDs, askRs, FN.zero, e0, e1, e30, e2, e4, e5, e6, e8, e16, e18, e20, e17, e24, e25, e26, e27, e28]; done)
  · have h1 : (m.k == n.k) = false := by simpa using hk
    unfold fsB sameB
    rw [askN_k, askN_k, h1, Bool.false_and, Bool.false_and]
theorem fsame2_any (P : Nat → Prop) (m n : FN) (d r e t : Sl) (ds ds' : List Int) (rs rs' : RS) (w : World) (hf : Fits w P m d r ds rs) (hf' : Fits w P n e t ds' rs') :
    Calls Try.prog 9 #[frV m d r, frV n e t] w (FrPost (.bool (sameB m n ds ds' rs rs')) w) := by
  rw [← fsB_same]
  exact fsame_any P m n d r e t ds ds' rs rs' w hf hf'
end Go.Proofs.Ytkahndjflhgccaa
