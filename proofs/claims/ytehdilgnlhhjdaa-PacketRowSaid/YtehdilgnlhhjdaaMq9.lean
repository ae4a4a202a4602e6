/-
  The document's own turned, tag, Seal, Open, Mask (narthexref8).
-/
import Derived.Test.YtehdilgnlhhjdaaMq8
import Derived.Test.YtehdilgnlhhjdaaMq3
import Derived.Test.YtehdilgnlhhjdaaMq4
namespace Go.Proofs.Ytehdilgnlhhjdaa
section
set_option linter.unusedVariables false
set_option linter.unusedSimpArgs false
open Go.RowKit Go.ChangeShapes Go.WideShapes Go.Deep
theorem own_cell {w : World} {base g nn c : Nat} {e : TypeId} {L : List Int} (h : Own w base e (.slice (some ⟨g, 0, none⟩) nn c) L) (hl : L.length = nn) (k : Nat) (x : Int) (hx : L[k]? = some x) :
    w.cell? ⟨g, k, none⟩ = some (.int .u8 x) ∧ g < w.heap.size ∧ base ≤ g ∧ w.frozen? ⟨g, k, none⟩ = false := by
  have hk : k < L.length := (List.getElem?_eq_some_iff.1 hx).1
  obtain ⟨g', c', l, hv, hA, _, ht, hb, _, _⟩ := h.place (by omega)
  injection hv with e1 e2 e3
  injection e1 with e1
  injection e1 with e1
  subst e1
  exact ⟨place_cell hA ht k x hx, hA.lt, hb, hA.frozen k⟩
theorem own_set {w : World} {base g nn c : Nat} {e : TypeId} {L : List Int} (h : Own w base e (.slice (some ⟨g, 0, none⟩) nn c) L) (hl : L.length = nn) (hp : 0 < nn) (k : Nat) (y : Int) (hy : 0 ≤ y ∧ y < 256) :
    Own (w.setCell ⟨g, k, none⟩ (.int .u8 y)) base e (.slice (some ⟨g, 0, none⟩) nn c) (L.set k y) := by
  obtain ⟨g', c', l, hv, hA, hlc, ht, hb, hn, hm⟩ := h.place (by omega)
  injection hv with e1 e2 e3
  injection e1 with e1
  injection e1 with e1
  subst e1; subst e3; subst e2
  exact place_set hA hlc ht h.byt hb hn hm k y hy
end
section
set_option linter.unusedVariables false
set_option linter.unusedSimpArgs false
open Go.RowKit Go.ChangeShapes Go.WideShapes Go.Deep
end
section
set_option linter.unusedVariables false
set_option linter.unusedSimpArgs false
open Go.RowKit Go.ChangeShapes Go.WideShapes Go.Deep
end
section
set_option linter.unusedVariables false
open Go.RowKit
def Vr (x : Int) : Prop := 0 ≤ x ∧ x ≤ 4611686018427387903
theorem take_app (xs more : List Int) (n : Int) (hn : n = xs.length) : takeR (xs ++ more, false) n = xs ∧ takeN (xs ++ more, false) n = (more, false) := by
  subst hn
  unfold takeR takeN
  rw [if_pos ⟨by omega, by simp only [List.length_append]; omega⟩, if_pos ⟨by omega, by simp only [List.length_append]; omega⟩]
  simp
theorem var_app (x : Int) (h : Vr x) (more : List Int) : varR (putS x ++ more, false) = x ∧ varN (putS x ++ more, false) = (more, false) := by
  have g := get_put x h.1 h.2 more
  have s1 := size_pos x h.2
  unfold varR varN
  simp only [g]
  rw [if_neg (by omega), if_neg (by omega)]
  exact ⟨rfl, (take_app (putS x) more _ (by rw [putS_len])).2⟩
theorem text_app (xs more : List Int) (h : xs.length ≤ 1000000) : textR (textB xs ++ more, false) = xs ∧ textN (textB xs ++ more, false) = (more, false) := by
  have hv : Vr (xs.length : Int) := ⟨by omega, by omega⟩
  unfold textB textR textN
  rw [List.append_assoc, (var_app _ hv _).1, (var_app _ hv _).2]
  exact take_app xs more _ rfl
theorem take_false (s : St) (n : Int) (h : (takeN s n).2 = false) : s.2 = false := by
  unfold takeN at h
  split at h
  · exact h
  · cases h
end
end Go.Proofs.Ytehdilgnlhhjdaa
