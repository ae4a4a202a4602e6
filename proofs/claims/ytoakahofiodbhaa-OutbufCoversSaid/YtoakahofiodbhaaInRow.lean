/-
  A row of bytes that came in as an argument, in the words of the walks. Its conditions: the reading's own (its spare room is at least 0, each cell is a byte).
-/
import Derived.Test.YtoakahofiodbhaaBytes
import Derived.OpenShut
namespace Go.Proofs.Ytoakahofiodbhaa
set_option linter.unusedVariables false
open Go.RowKit
/-- A row of bytes that came in: what the walk needs of it. -/
def InRow (w : World) (A : Option Addr) (n c : Nat) (bs : List Int) : Prop := Rd w w.heap.size A n bs ∧ n ≤ c ∧ c ≤ maxLen ∧ (A = none → c = 0)
theorem cell_lt {w : World} {b off : Nat} {v : Value} (h : w.cell? ⟨b, off, none⟩ = some v) : b < w.heap.size := by
  rcases Nat.lt_or_ge b w.heap.size with hlt | hge
  · exact hlt
  · have e : w.heap[b]? = none := Array.getElem?_eq_none hge
    simp [World.cell?, e] at h
theorem inRow_nil (w : World) (n c : Nat) (hn : n = 0) (hc : c = 0) : InRow w none n c [] := by
  subst hn; subst hc
  exact ⟨Rd.none_ _ _ _, Nat.le_refl _, by unfold maxLen; omega, fun _ => rfl⟩
theorem inRow_some {w : World} {x : Addr} {len cap : Nat} {zs : List Int} (hl : len ≤ cap) (hm : cap ≤ maxLen) (hz : zs.length = cap)
    (hcell : ∀ i, i < zs.length → w.cell? (x.add i) = some (.int .u8 (zs.getD i 0))) (hw : ∀ n ∈ zs, (Lit.int .u8 n).wf = true) : InRow w (some x) len cap (zs.take len) := by
  refine ⟨⟨by rw [List.length_take]; omega, fun y hy => ?_, fun hp => ?_⟩, hl, hm, fun h => by cases h⟩
  · have := bounds_u8 (hw y (List.mem_of_mem_take hy))
    omega
  · obtain ⟨b, off, spot⟩ := x
    have h0 := hcell 0 (by omega)
    have hs : spot = none := by simpa [Addr.add] using World.cell?_spot h0
    subst hs
    have h1 := hcell 0 (by omega)
    rw [addr_add] at h1
    refine ⟨b, off, rfl, cell_lt h1, fun i hi => ?_⟩
    have h2 := hcell i (by omega)
    rw [addr_add] at h2
    rw [h2, List.getD_eq_getElem?_getD, List.getD_eq_getElem?_getD, List.getElem?_take_of_lt hi]
end Go.Proofs.Ytoakahofiodbhaa
