/-
  What was put is read; what was read without running short is read alike with more behind it (numbers, texts, raw bytes, beginnings of them).
-/
import Derived.Test.YtkahndjflhgccaaMd
import Derived.Test.YtkahndjflhgccaaMg
import Derived.Test.YtkahndjflhgccaaMf
import Derived.Test.YtkahndjflhgccaaMh
namespace Go.Proofs.Ytkahndjflhgccaa
section
set_option linter.unusedVariables false
open Go.RowKit
end
section
set_option linter.unusedVariables false
open Go.RowKit
end
section
set_option linter.unusedVariables false
open Go.RowKit
theorem steps_snoc (a b lo hi : Int) : ∀ (l : RS) (p : Int), stepsOK p (l ++ [(a, b)] ++ [(lo, hi)]) = (stepsOK p (l ++ [(a, b)]) && (decide (b < lo) && decide (lo < hi)))
  | [], p => by simp [stepsOK, Bool.and_assoc]
  | (x, y) :: l, p => by
    have := steps_snoc a b lo hi l y
    simp only [List.cons_append, stepsOK]
    rw [this]
    simp [Bool.and_assoc]
end
section
set_option linter.unusedVariables false
set_option linter.unusedSimpArgs false
open Go.RowKit
theorem wkS_r (m : FN) (ds : List Int) (rs : RS) (h : rightB m ds rs = true) : 0 ≤ wkS m ∧ wkS m ≤ 30 := by
  obtain ⟨k, s, o, fin, l, c, f, q, y, c0, c1, c2, c3, c4, c5, c6, c7⟩ := m
  unfold wkS
  rcases kind_cases k with rfl | rfl | rfl | rfl | rfl | rfl | rfl | rfl | rfl | rfl | rfl | rfl | rfl | rfl | rfl | rfl | rfl | hx
  all_goals first
    | (simp; done)
    | (simp; (repeat' split) <;> omega)
    | (exfalso
       unfold rightB knownB at h
       simp only [Bool.and_eq_true] at h
       obtain ⟨e0, e1, e30, e2, e4, e5, e6, e8, e16, e18, e20, e17, e24, e25, e26, e27, e28⟩ := hx
       simp [e0, e1, e30, e2, e4, e5, e6, e8, e16, e18, e20, e17, e24, e25, e26, e27, e28] at h)
/-- What is asked of a frame, as data. -/
def FR.asked (x : FR) : FD := (askN x.m, askDs x.m.k x.ds, askRs x.m.k x.rs)
theorem one_pos (m : FN) (ds : List Int) (rs : RS) (h : rightB m ds rs = true) : 0 < (oneS m ds rs).length := by
  have hk := wkS_r m ds rs h
  have := size_pos (wkS m) (by omega)
  unfold oneS
  rw [List.length_append, putS_len]; omega
end
end Go.Proofs.Ytkahndjflhgccaa
