/-
  What is behind the version says, where all holds, and where not.
-/
import Derived.Test.YtbioajgmceodhaaHrp
import Derived.IntWalk
namespace Go.Proofs.Ytbioajgmceodhaa
set_option linter.unusedVariables false
set_option linter.unusedSimpArgs false
open Go.RowKit
theorem htail_no (s2 : St) (sp len : Int) (ok : Bool) (h : ok = false ∨ byteR s2 ≠ 8 ∨ byteR (lgN s2) ≠ 8 ∨ 32 < (tokR (lgN (lgN s2)) sp).length) : htailS s2 sp len ok = none := by
  unfold htailS
  rw [if_neg]
  rintro ⟨h1, h2, h3, h4, _⟩
  rcases h with h | h | h | h
  · rw [h1] at h; cases h
  · exact h h2
  · exact h h3
  · omega
theorem htail_if (s2 : St) (sp len : Int) (ok : Bool) (h1 : ok = true) (h2 : byteR s2 = 8) (h3 : byteR (lgN s2) = 8) (h4 : (tokR (lgN (lgN s2)) sp).length ≤ 32) :
    htailS s2 sp len ok = if (varN (tokN (lgN (lgN s2)) sp)).2 = false ∧ 12 ≤ varR (tokN (lgN (lgN s2)) sp) ∧ varR (tokN (lgN (lgN s2)) sp) ≤ (varN (tokN (lgN (lgN s2)) sp)).1.length
      then some (⟨sp, N8.of (lgR s2), N8.of (lgR (lgN s2)), 1, false⟩, tokR (lgN (lgN s2)) sp, len - (varN (tokN (lgN (lgN s2)) sp)).1.length, len - (varN (tokN (lgN (lgN s2)) sp)).1.length + varR (tokN (lgN (lgN s2)) sp)) else none := by
  unfold htailS
  by_cases hc : (varN (tokN (lgN (lgN s2)) sp)).2 = false ∧ 12 ≤ varR (tokN (lgN (lgN s2)) sp) ∧ varR (tokN (lgN (lgN s2)) sp) ≤ (varN (tokN (lgN (lgN s2)) sp)).1.length
  · rw [if_pos hc, if_pos ⟨h1, h2, h3, h4, hc.1, hc.2.1, hc.2.2⟩]
  · rw [if_neg hc, if_neg (fun h => hc ⟨h.2.2.2.2.1, h.2.2.2.2.2.1, h.2.2.2.2.2.2⟩)]
end Go.Proofs.Ytbioajgmceodhaa
