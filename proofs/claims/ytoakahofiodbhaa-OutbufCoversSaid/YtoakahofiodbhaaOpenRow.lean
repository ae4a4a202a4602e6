/-
  A row of bytes that came in, out of its reading; a list chosen element by element.
-/
import Derived.Test.YtoakahofiodbhaaProg
import Derived.Test.YtoakahofiodbhaaInRow
import Derived.Test.YtoakahofiodbhaaObj
import Derived.Deep.Slices
import Derived.ChangeSlices
namespace Go.Proofs.Ytoakahofiodbhaa
set_option linter.unusedVariables false
open Go.RowKit Go.ChangeShapes Go.WideShapes Go.Deep
section
variable {H : Type} {enc : TypeId × Value → H} {P : Program} {w : World}
/-- What a reading of a row of bytes says in the words of the walks. -/
theorem inRow_of_trod {t e : TypeId} {fuel : Nat} {cs : List Value} {x : DataW H × List MemPlace} (ht : P.underlying t = some (.slice e)) (he : P.underlying e = some (.int .u8)) (hc : P.cellsOf e = 1)
    (h : DataW.trod enc P w 0 (fun _ => true) true fuel t cs = some x) : ∃ A len cap bs, cs = [.slice A len cap] ∧ InRow w A len cap bs := by
  rcases open_ints ht he hc h with ⟨hcs, _⟩ | ⟨x, l, c, zs, hcs, _, hl, hm, hz, _, hcell, hwz⟩
  · exact ⟨none, 0, 0, [], hcs, inRow_nil w 0 0 rfl rfl⟩
  · exact ⟨_, _, _, _, hcs, inRow_some hl hm (by simpa using hz) hcell hwz⟩
end
theorem choose_list {α : Type} {p : Nat → α → Prop} : ∀ n : Nat, (∀ i, i < n → ∃ d, p i d) → ∃ L : List α, L.length = n ∧ ∀ i d, L[i]? = some d → p i d
  | 0, _ => ⟨[], rfl, fun i d h => by simp at h⟩
  | n + 1, h => by
    obtain ⟨L, hl, hp⟩ := choose_list n fun i hi => h i (by omega)
    obtain ⟨d, hd⟩ := h n (by omega)
    refine ⟨L ++ [d], by simp [hl], fun i e he => ?_⟩
    rcases Nat.lt_or_ge i n with hi | hi
    · rw [List.getElem?_append_left (by omega)] at he
      exact hp i e he
    · rw [List.getElem?_append_right (by omega)] at he
      have : i = n := by
        rcases Nat.lt_or_ge (i - L.length) 1 with h1 | h1
        · omega
        · rw [List.getElem?_eq_none (by simpa using h1)] at he; cases he
      subst this
      rw [hl, Nat.sub_self] at he
      simp at he
      subst he
      exact hd
end Go.Proofs.Ytoakahofiodbhaa
