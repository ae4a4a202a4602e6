/-
  Rows of signed numbers that came in (out of XRe, XRf; never beside them in one seat).
-/
import Derived.Test.YtoakahofiodbhaaObj
import Derived.Test.YtoakahofiodbhaaOpenRow
import Derived.WalkKit
import Derived.SizedLaws
namespace Go.Proofs.Ytoakahofiodbhaa
set_option linter.unusedVariables false
set_option linter.unusedSimpArgs false
open Go.RowKit Go.ChangeShapes Go.WideShapes Go.Deep
/-- A slice of signed numbers that can be read. -/
structure InN (w : World) (A : Option Addr) (n : Nat) (xs : List Int) : Prop where
  len : xs.length = n
  wd : ∀ x ∈ xs, -9223372036854775808 ≤ x ∧ x < 9223372036854775808
  at_ : 0 < n → ∃ b off, A = some ⟨b, off, none⟩ ∧ b < w.heap.size ∧ ∀ i x, xs[i]? = some x → w.cell? ⟨b, off + i, none⟩ = some (.int .i64 x)
theorem InN.below {w w' : World} {A : Option Addr} {n : Nat} {xs : List Int} (h : InN w A n xs) (k : Below w.heap.size w w') : InN w' A n xs := ⟨h.len, h.wd, fun hn => by
  obtain ⟨b, off, e, hb, hc⟩ := h.at_ hn
  exact ⟨b, off, e, Nat.lt_of_lt_of_le hb k.size, fun i x hi => (k.cell (p := ⟨b, _, none⟩) hb).trans (hc i x hi)⟩⟩
theorem InN.nil_ (w : World) (A : Option Addr) : InN w A 0 [] := ⟨rfl, fun x h => (by cases h), fun h => absurd h (by omega)⟩
/-- What a reading of a row of signed numbers says. -/
theorem inN_of_trod {H : Type} {enc : TypeId × Value → H} {P : Program} {w : World} {t e : TypeId} {fuel : Nat} {cs : List Value} {x : DataW H × List MemPlace} (ht : P.underlying t = some (.slice e)) (he : P.underlying e = some (.int .i64)) (hc : P.cellsOf e = 1)
    (h : DataW.trod enc P w 0 (fun _ => true) true fuel t cs = some x) :
    ∃ A len cap xs, cs = [.slice A len cap] ∧ InN w A len xs ∧ len ≤ cap ∧ cap ≤ maxLen ∧ ((x.1 = .nil ∧ cap = 0) ∨ ∃ es sp, x.1 = .slice es sp ∧ es.length + sp.length = cap) := by
  rcases open_ints ht he hc h with ⟨hcs, hx⟩ | ⟨x', l, c, zs, hcs, _, hl, hm, hz, hx, hcell, hwz⟩
  · exact ⟨none, 0, 0, [], hcs, InN.nil_ _ _, Nat.le_refl _, by unfold maxLen; omega, .inl ⟨by rw [hx], rfl⟩⟩
  · have hz' : zs.length = c := by simpa using hz
    refine ⟨_, _, _, zs.take l, hcs, ⟨by rw [List.length_take]; omega, fun y hy => by have := bounds_i64 (hwz y (List.mem_of_mem_take hy)); omega, fun hp => ?_⟩, hl, hm, .inr ⟨_, _, by rw [hx], ?_⟩⟩
    · obtain ⟨b, off, spot⟩ := x'
      have h0 := hcell 0 (by omega)
      have hs : spot = none := by simpa [Addr.add] using World.cell?_spot h0
      subst hs
      rw [addr_add] at h0
      refine ⟨b, off, rfl, cell_lt h0, fun i y hi => ?_⟩
      rw [List.getElem?_take] at hi
      split at hi
      · rename_i hil
        have h2 := hcell i (by omega)
        rw [addr_add] at h2
        rw [h2, List.getD_eq_getElem?_getD, hi]; rfl
      · cases hi
    · simp [lits]
      omega
end Go.Proofs.Ytoakahofiodbhaa
