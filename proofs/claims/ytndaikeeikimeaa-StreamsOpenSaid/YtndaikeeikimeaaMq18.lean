/-
  Ranges in memory; what a frame's value reads as; what may be of a frame's numbers and ranges (frame.greatestLimit, numbers, dataRight, rangesRight).
-/
import Derived.Test.YtndaikeeikimeaaAsked
import Derived.IntWalk
import Derived.Deep.RegionHeld
namespace Go.Proofs.Ytndaikeeikimeaa
section
set_option linter.unusedVariables false
open Go.RowKit
abbrev RS := List (Int × Int)
/-- The slice value with address A and n elements reads as the ranges rs, in a block that P allows. -/
def RgP (w : World) (P : Nat → Prop) (A : Option Addr) (n : Nat) (rs : RS) : Prop :=
  rs.length = n ∧ (∀ r ∈ rs, 0 ≤ r.1 ∧ r.1 < 18446744073709551616 ∧ 0 ≤ r.2 ∧ r.2 < 18446744073709551616) ∧
  (0 < n → ∃ b off, A = some ⟨b, off, none⟩ ∧ b < w.heap.size ∧ P b ∧ ∀ i r, rs[i]? = some r → w.cell? ⟨b, off + i * 2, none⟩ = some (.int .u64 r.1) ∧ w.cell? ⟨b, off + i * 2 + 1, none⟩ = some (.int .u64 r.2))
section
variable {S P P' : Nat → Prop} {w w' : World} {n : Nat} {A : Option Addr} {rs : RS}
theorem RgP.none_ (w : World) (P : Nat → Prop) (A : Option Addr) : RgP w P A 0 [] := ⟨rfl, fun _ h => by simp at h, fun h => absurd h (by omega)⟩
theorem RgP.kept (h : RgP w P A n rs) (k : Kept S w w') (hs : ∀ b, P b → ¬ S b) : RgP w' P A n rs := by
  refine ⟨h.1, h.2.1, fun hn => ?_⟩
  obtain ⟨b, off, e, hb, hp, hc⟩ := h.2.2 hn
  refine ⟨b, off, e, Nat.lt_of_lt_of_le hb k.size, hp, fun i r hr => ?_⟩
  rw [k.cell (p := ⟨b, _, none⟩) hb (hs b hp), k.cell (p := ⟨b, _, none⟩) hb (hs b hp)]
  exact hc i r hr
theorem RgP.mono (h : RgP w P A n rs) (hp : ∀ b, b < w.heap.size → P b → P' b) : RgP w P' A n rs :=
  ⟨h.1, h.2.1, fun hn => by
    obtain ⟨b, off, e, hb, hp', hc⟩ := h.2.2 hn
    exact ⟨b, off, e, hb, hp b hb hp', hc⟩⟩
end
structure InR (w : World) (P : Nat → Prop) (r : Sl) (rs : RS) : Prop where
  rd : RgP w P r.A r.n rs
  lc : r.n ≤ r.c
  cm : r.c ≤ maxLen
  nil : r.A = none → r.c = 0
structure FN.wf (m : FN) : Prop where
  k0 : -9223372036854775808 ≤ m.k
  k1 : m.k ≤ 9223372036854775807
  s0 : 0 ≤ m.s
  s1 : m.s < 18446744073709551616
  o0 : 0 ≤ m.o
  o1 : m.o < 18446744073709551616
  l0 : 0 ≤ m.l
  l1 : m.l < 18446744073709551616
  c0 : 0 ≤ m.c
  c1 : m.c < 18446744073709551616
  f0 : 0 ≤ m.f
  f1 : m.f < 18446744073709551616
  q0 : 0 ≤ m.q
  q1 : m.q < 18446744073709551616
  y0 : 0 ≤ m.y
  y1 : m.y < 18446744073709551616
  cid : Byt [m.c0, m.c1, m.c2, m.c3, m.c4, m.c5, m.c6, m.c7]
/-- A frame's value reads so. -/
structure Fits (w : World) (P : Nat → Prop) (m : FN) (d r : Sl) (ds : List Int) (rs : RS) : Prop where
  wf : m.wf
  dt : InD w P d ds
  rg : InR w P r rs
section
variable {S P P' : Nat → Prop} {w w' : World} {d r : Sl} {ds : List Int} {rs : RS} {m : FN}
theorem InR.kept (h : InR w P r rs) (k : Kept S w w') (hs : ∀ b, P b → ¬ S b) : InR w' P r rs := ⟨h.rd.kept k hs, h.lc, h.cm, h.nil⟩
theorem Fits.kept (h : Fits w P m d r ds rs) (k : Kept S w w') (hs : ∀ b, P b → ¬ S b) : Fits w' P m d r ds rs := ⟨h.wf, h.dt.kept k hs, h.rg.kept k hs⟩
theorem Fits.below (h : Fits w P m d r ds rs) (k : Below w.heap.size w w') : Fits w' P m d r ds rs := h.kept (Kept.of_below k (fun _ => False)) (fun _ _ h => h)
theorem Fits.mono (h : Fits w P m d r ds rs) (hp : ∀ b, b < w.heap.size → P b → P' b) : Fits w P' m d r ds rs := ⟨h.wf, ⟨h.dt.rd.mono hp, h.dt.lc, h.dt.cm, h.dt.nil⟩, ⟨h.rg.rd.mono hp, h.rg.lc, h.rg.cm, h.rg.nil⟩⟩
theorem InR.nil_ (w : World) (P : Nat → Prop) : InR w P .nil [] := ⟨RgP.none_ _ _ _, Nat.le_refl _, by unfold maxLen; exact Nat.zero_le _, fun _ => rfl⟩
end
end
section
set_option linter.unusedVariables false
open Go.RowKit
end
section
set_option linter.unusedVariables false
set_option linter.unusedSimpArgs false
open Go.RowKit
theorem fr_info : (Try.prog.info? 34).map (·.size) = some 19 := by kernel_rfl
end
end Go.Proofs.Ytndaikeeikimeaa
