/-
  Rows of bools that came in (out of XWe; never beside it in one seat).
-/
import Derived.Test.YtoakahofiodbhaaObj
import Derived.Test.YtoakahofiodbhaaOpenRow
import Derived.Test.YtoakahofiodbhaaProg
import Derived.WalkKit
import Derived.Deep.Slices
import Derived.ChangeSlices
namespace Go.Proofs.Ytoakahofiodbhaa
set_option linter.unusedVariables false
set_option linter.unusedSimpArgs false
open Go.RowKit Go.ChangeShapes Go.WideShapes Go.Deep
/-- A slice of bools that can be read. -/
structure BoP (w : World) (A : Option Addr) (n : Nat) (bs : List Bool) : Prop where
  len : bs.length = n
  at_ : 0 < n → ∃ b off, A = some ⟨b, off, none⟩ ∧ b < w.heap.size ∧ ∀ i x, bs[i]? = some x → w.cell? ⟨b, off + i, none⟩ = some (.bool x)
theorem BoP.below {w w' : World} {A : Option Addr} {n : Nat} {bs : List Bool} (h : BoP w A n bs) (k : Below w.heap.size w w') : BoP w' A n bs := ⟨h.len, fun hn => by
  obtain ⟨b, off, e, hb, hc⟩ := h.at_ hn
  exact ⟨b, off, e, Nat.lt_of_lt_of_le hb k.size, fun i x hi => (k.cell (p := ⟨b, _, none⟩) hb).trans (hc i x hi)⟩⟩
section
variable {H : Type} {enc : TypeId × Value → H} {w : World}
set_option maxRecDepth 100000 in
theorem bo_of_trod {fuel : Nat} {cs : List Value} {x : DataW H × List MemPlace} (h : DataW.trod enc Try.prog w 0 (fun _ => true) true fuel 31 cs = some x) :
    ∃ A n c bs, cs = [.slice A n c] ∧ BoP w A n bs ∧ n ≤ c ∧ c ≤ maxLen := by
  rcases open_slice Try.underlying31 h with ⟨rfl, _⟩ | ⟨a, len, cap, m, n, D, Pl, rfl, _, hl, hm, hmm, _, hi⟩
  · exact ⟨none, 0, 0, [], rfl, ⟨rfl, fun h => absurd h (by omega)⟩, Nat.le_refl _, by unfold maxLen; exact Nat.zero_le _⟩
  · obtain rfl : m = cap := by simpa using hmm
    have hC : Try.prog.cellsOf 4 = 1 := by kernel_rfl
    rw [hC] at hi
    obtain ⟨b, off, spot⟩ := a
    have hspot : 0 < len → spot = none := by
      intro hp
      obtain ⟨cs', hc, _⟩ := hi 0 (by omega)
      obtain ⟨_, hcl, hat⟩ := World.cells?_some hc
      have h0 := hat 0 (by omega)
      rw [List.getElem?_eq_getElem (by omega)] at h0
      simpa [Addr.add] using World.cell?_spot h0
    have each : ∀ i, i < len → ∃ r : Bool, spot = none ∧ b < w.heap.size ∧ w.cell? ⟨b, off + i, none⟩ = some (.bool r) := by
      intro i hil
      obtain ⟨cs', hc, ht⟩ := hi i (by omega)
      obtain ⟨_, hcl, hat⟩ := World.cells?_some hc
      match cs', hcl with
      | [u0], _ =>
        obtain ⟨r, e, _⟩ := DataW.trod_bool Try.underlying4 ht
        obtain rfl : u0 = .bool r := by simpa using e
        have h0 := hat 0 (by omega)
        have hs : spot = none := hspot (by omega)
        subst hs
        rw [addr_add, addr_add] at h0
        rw [Nat.mul_one, Nat.add_zero] at h0
        exact ⟨r, rfl, cell_lt h0, h0⟩
    obtain ⟨L, hL, hp⟩ := choose_list len each
    refine ⟨_, len, m, L, rfl, ⟨hL, fun hpos => ?_⟩, hl, hm⟩
    obtain ⟨d, hd⟩ : ∃ d, L[0]? = some d := ⟨_, List.getElem?_eq_getElem (by omega)⟩
    obtain ⟨hs, hb, _⟩ := hp 0 d hd
    subst hs
    exact ⟨b, off, rfl, hb, fun i d hd => (hp i d hd).2.2⟩
end
end Go.Proofs.Ytoakahofiodbhaa
