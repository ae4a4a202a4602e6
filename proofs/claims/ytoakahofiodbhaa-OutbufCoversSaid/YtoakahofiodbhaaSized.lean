/-
  A row of bytes that came in, out of its reading, with how long the reading's lists are.
-/
import Derived.Test.YtoakahofiodbhaaOpenRow
import Derived.SizedLaws
namespace Go.Proofs.Ytoakahofiodbhaa
set_option linter.unusedVariables false
open Go.RowKit Go.ChangeShapes Go.WideShapes Go.Deep
theorem inRow_of_trodS {H : Type} {enc : TypeId × Value → H} {P : Program} {w : World} {t e : TypeId} {fuel : Nat} {cs : List Value} {x : DataW H × List MemPlace} (ht : P.underlying t = some (.slice e)) (he : P.underlying e = some (.int .u8)) (hc : P.cellsOf e = 1)
    (h : DataW.trod enc P w 0 (fun _ => true) true fuel t cs = some x) :
    ∃ A len cap bs, cs = [.slice A len cap] ∧ InRow w A len cap bs ∧ ((x.1 = .nil ∧ cap = 0) ∨ ∃ es sp, x.1 = .slice es sp ∧ es.length + sp.length = cap) := by
  rcases open_ints ht he hc h with ⟨hcs, hx⟩ | ⟨x', l, c, zs, hcs, _, hl, hm, hz, hx, hcell, hwz⟩
  · exact ⟨none, 0, 0, [], hcs, inRow_nil w 0 0 rfl rfl, .inl ⟨by rw [hx], rfl⟩⟩
  · refine ⟨_, _, _, _, hcs, inRow_some hl hm (by simpa using hz) hcell hwz, .inr ⟨_, _, by rw [hx], ?_⟩⟩
    have hz' : zs.length = c := by simpa using hz
    simp [lits]
    omega
end Go.Proofs.Ytoakahofiodbhaa
