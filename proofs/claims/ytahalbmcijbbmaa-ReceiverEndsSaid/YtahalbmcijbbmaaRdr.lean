/-
  Package octet's Reader: what each call answers of whatever bytes are left, and what is left behind it.
-/
import Derived.Test.YtahalbmcijbbmaaProg
import Derived.Test.YtahalbmcijbbmaaMq0
import Derived.Test.YtahalbmcijbbmaaMq9
import Derived.Test.YtahalbmcijbbmaaMq12
import Derived.Deep.QuietTactic
import Derived.BigQuiet
import Derived.WalkSpells
namespace Go.Proofs.Ytahalbmcijbbmaa
set_option linter.unusedVariables false
open Go.RowKit
/-- What is left, and whether bytes lacked. -/
abbrev St := List Int × Bool
def Rdr (w : World) (p : Nat) (T : TypeId) (P : Nat → Prop) (s : St) : Prop :=
  ∃ A n c, At w p T [.slice A n c, .bool s.2] ∧ n ≤ c ∧ c ≤ maxLen ∧ (A = none → c = 0) ∧ RdP w P A n s.1 ∧ (s.2 = true → s.1 = [])
theorem Rdr.kept {S : Nat → Prop} {w w' : World} {p : Nat} {T : TypeId} {P : Nat → Prop} {s : St} (h : Rdr w p T P s) (k : Kept S w w') (hp : ¬ S p) (hs : ∀ b, P b → ¬ S b) : Rdr w' p T P s := by
  obtain ⟨A, n, c, h1, h2, h3, h4, h5, h6⟩ := h
  exact ⟨A, n, c, h1.kept k hp, h2, h3, h4, h5.kept k hs, h6⟩
theorem Rdr.byt {w : World} {p : Nat} {T : TypeId} {P : Nat → Prop} {s : St} (h : Rdr w p T P s) : Byt s.1 := by
  obtain ⟨A, n, c, h1, h2, h3, h4, h5, h6⟩ := h; exact h5.byt
end Go.Proofs.Ytahalbmcijbbmaa
