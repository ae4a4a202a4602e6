/-
  What was put is read; what was read without running short is read alike with more behind it (numbers, texts, raw bytes, beginnings of them).
-/
import Derived.Test.YtcobcgbpmkpljaaRRdr3
import Derived.Test.YtcobcgbpmkpljaaWtr
namespace Go.Proofs.Ytcobcgbpmkpljaa
set_option linter.unusedVariables false
open Go.RowKit
def Vr (x : Int) : Prop := 0 ≤ x ∧ x ≤ 4611686018427387903
theorem take_app (xs more : List Int) (n : Int) (hn : n = xs.length) : takeR (xs ++ more, false) n = xs ∧ takeN (xs ++ more, false) n = (more, false) := by
  subst hn
  unfold takeR takeN
  rw [if_pos ⟨by omega, by simp only [List.length_append]; omega⟩, if_pos ⟨by omega, by simp only [List.length_append]; omega⟩]
  simp
theorem var_app (x : Int) (h : Vr x) (more : List Int) : varR (putS x ++ more, false) = x ∧ varN (putS x ++ more, false) = (more, false) := by
  have g := get_put x h.1 h.2 more
  have s1 := size_pos x h.2
  unfold varR varN
  simp only [g]
  rw [if_neg (by omega), if_neg (by omega)]
  exact ⟨rfl, (take_app (putS x) more _ (by rw [putS_len])).2⟩
theorem text_app (xs more : List Int) (h : xs.length ≤ 1000000) : textR (textB xs ++ more, false) = xs ∧ textN (textB xs ++ more, false) = (more, false) := by
  have hv : Vr (xs.length : Int) := ⟨by omega, by omega⟩
  unfold textB textR textN
  rw [List.append_assoc, (var_app _ hv _).1, (var_app _ hv _).2]
  exact take_app xs more _ rfl
/-- A reader that lacked bytes stays so. -/
theorem spoilt (n : Int) : takeR ([], true) n = [] ∧ takeN ([], true) n = ([], true) := by
  unfold takeR takeN
  constructor
  · split <;> simp
  · split
    · simp
    · rfl
theorem var_spoilt : varR ([], true) = 0 ∧ varN ([], true) = ([], true) := by
  unfold varR varN
  have : getS [] = (0, 0) := by simp [getS]
  simp [this]
theorem var_cut (x : Int) (h : Vr x) (k : Nat) (hk : k < sizeS x) : varR ((putS x).take k, false) = 0 ∧ varN ((putS x).take k, false) = ([], true) := by
  unfold varR varN
  have g := get_cut x h.1 h.2 k hk
  simp only [g]
  exact ⟨rfl, rfl⟩
theorem take_cut (xs : List Int) (n : Int) (hn : (xs.length : Int) < n) : takeR (xs, false) n = [] ∧ takeN (xs, false) n = ([], true) := by
  unfold takeR takeN
  rw [if_neg (by simp only; omega), if_neg (by simp only; omega)]
  exact ⟨rfl, rfl⟩
theorem take_ext (s : St) (n : Int) (m : List Int) (h : (takeN s n).2 = false) : takeR (s.1 ++ m, false) n = takeR s n ∧ takeN (s.1 ++ m, false) n = ((takeN s n).1 ++ m, false) := by
  unfold takeN takeR at *
  by_cases hc : 0 ≤ n ∧ n ≤ s.1.length
  · rw [if_pos hc, if_pos hc]
    rw [if_pos ⟨hc.1, by simp only [List.length_append]; omega⟩, if_pos ⟨hc.1, by simp only [List.length_append]; omega⟩]
    have hl : n.toNat ≤ s.1.length := by omega
    exact ⟨List.take_append_of_le_length hl, by simp only; rw [List.drop_append_of_le_length hl]⟩
  · rw [if_neg hc] at h; cases h
theorem take_false (s : St) (n : Int) (h : (takeN s n).2 = false) : s.2 = false := by
  unfold takeN at h
  split at h
  · exact h
  · cases h
theorem get_more (bs m : List Int) (h : (getS bs).2 ≠ 0) : getS (bs ++ m) = getS bs := by
  unfold getS at *
  by_cases hn : bs = []
  · rw [if_pos hn] at h; exact absurd rfl h
  rw [if_neg hn] at h ⊢
  have hn2 : bs ++ m ≠ [] := by simp [hn]
  rw [if_neg hn2]
  obtain ⟨x, t, rfl⟩ := List.exists_cons_of_ne_nil hn
  simp only [List.cons_append, List.getD_cons_zero] at h ⊢
  by_cases hl : (x :: t).length < szS x
  · rw [if_pos hl] at h; exact absurd rfl h
  · have hl2 : ¬ (x :: (t ++ m)).length < szS x := by simp only [List.length_cons, List.length_append] at hl ⊢; omega
    rw [if_neg hl, if_neg hl2]
    have : (x :: (t ++ m)).take (szS x) = (x :: t).take (szS x) := by
      rw [← List.cons_append, List.take_append_of_le_length (by omega)]
    rw [this]
theorem var_ext (s : St) (m : List Int) (h : (varN s).2 = false) : varR (s.1 ++ m, false) = varR s ∧ varN (s.1 ++ m, false) = ((varN s).1 ++ m, false) := by
  unfold varN at h
  by_cases hz : (getS s.1).2 = 0
  · rw [if_pos hz] at h; cases h
  · rw [if_neg hz] at h
    have g := get_more s.1 m hz
    unfold varR varN
    simp only [g]
    rw [if_neg hz, if_neg hz]
    exact ⟨trivial, (take_ext s _ m h).2⟩
theorem var_false (s : St) (h : (varN s).2 = false) : s.2 = false := by
  unfold varN at h
  split at h
  · cases h
  · exact take_false s _ h
theorem text_ext (s : St) (m : List Int) (h : (textN s).2 = false) : textR (s.1 ++ m, false) = textR s ∧ textN (s.1 ++ m, false) = ((textN s).1 ++ m, false) := by
  unfold textN at h
  have h1 := take_false _ _ h
  have v := var_ext s m h1
  unfold textR textN
  rw [v.1, v.2]
  exact take_ext (varN s) _ m h
end Go.Proofs.Ytcobcgbpmkpljaa
