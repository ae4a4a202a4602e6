/-
  Text of both readers; Of of package octet.
-/
import Derived.Test.YtkgeeoogmkpjhaaRRdr2
namespace Go.Proofs.Ytkgeeoogmkpjhaa
set_option linter.unusedVariables false
open Go.RowKit
set_option maxRecDepth 100000 in
theorem takeN_le (s : St) (n : Int) : (takeN s n).1.length ≤ s.1.length := by
  unfold takeN
  split
  · simp
  · simp
set_option maxRecDepth 100000 in
theorem varN_le (s : St) : (varN s).1.length ≤ s.1.length := by
  unfold varN
  split
  · simp
  · exact takeN_le _ _
set_option maxRecDepth 100000 in
theorem take_out (s : St) (x : Int) (h : (s.1.length : Int) < x) : takeR s x = [] ∧ takeN s x = ([], true) := by
  unfold takeR takeN
  rw [if_neg (by omega), if_neg (by omega)]; exact ⟨rfl, rfl⟩
set_option maxRecDepth 100000 in
theorem take_bad (s : St) (x : Int) (hb : s.2 = true) (h : s.1 = []) : takeR s x = [] ∧ takeN s x = ([], true) := by
  obtain ⟨bs, bad⟩ := s
  subst hb; subst h
  unfold takeR takeN
  constructor <;> split <;> simp
end Go.Proofs.Ytkgeeoogmkpjhaa
