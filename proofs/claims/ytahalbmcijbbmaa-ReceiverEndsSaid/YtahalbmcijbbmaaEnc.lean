/-
  Rows of frames in memory; frame.Size, frame.Encode.
-/
import Derived.Test.YtahalbmcijbbmaaWrite
namespace Go.Proofs.Ytahalbmcijbbmaa
set_option linter.unusedVariables false
set_option linter.unusedSimpArgs false
open Go.RowKit
/-- A frame's value and what it reads as. -/
structure FR where
  m : FN
  d : Sl
  r : Sl
  ds : List Int
  rs : RS
/-- The slice value with address A and n elements reads as the frames L, in blocks that P allows. -/
def FrsP (w : World) (P : Nat → Prop) (A : Option Addr) (n : Nat) (L : List FR) : Prop :=
  L.length = n ∧ (0 < n → ∃ b off, A = some ⟨b, off, none⟩ ∧ b < w.heap.size ∧ P b ∧ ∀ (i : Nat) (x : FR), L[i]? = some x → w.rangeAt b (off + i * 19) (frL x.m x.d x.r)) ∧ ∀ x ∈ L, Fits w P x.m x.d x.r x.ds x.rs
theorem rangeAt_kept {S : Nat → Prop} {w w' : World} {b o : Nat} {cs : List Value} (h : w.rangeAt b o cs) (k : Kept S w w') (hb : b < w.heap.size) (hs : ¬ S b) : w'.rangeAt b o cs := fun j v hv => (k.cell (p := ⟨b, _, none⟩) hb hs).trans (h j v hv)
theorem FrsP.kept {S P : Nat → Prop} {w w' : World} {A : Option Addr} {n : Nat} {L : List FR} (h : FrsP w P A n L) (k : Kept S w w') (hs : ∀ b, P b → ¬ S b) : FrsP w' P A n L := by
  refine ⟨h.1, fun hn => ?_, fun x hx => (h.2.2 x hx).kept k hs⟩
  obtain ⟨b, off, e, hb, hp, hc⟩ := h.2.1 hn
  exact ⟨b, off, e, Nat.lt_of_lt_of_le hb k.size, hp, fun i x hx => rangeAt_kept (hc i x hx) k hb (hs b hp)⟩
theorem FrsP.mono {P P' : Nat → Prop} {w : World} {A : Option Addr} {n : Nat} {L : List FR} (h : FrsP w P A n L) (hp : ∀ b, b < w.heap.size → P b → P' b) : FrsP w P' A n L := by
  refine ⟨h.1, fun hn => ?_, fun x hx => (h.2.2 x hx).mono hp⟩
  obtain ⟨b, off, e, hb, hp', hc⟩ := h.2.1 hn
  exact ⟨b, off, e, hb, hp b hb hp', hc⟩
theorem FrsP.below {P : Nat → Prop} {w w' : World} {A : Option Addr} {n : Nat} {L : List FR} (h : FrsP w P A n L) (k : Below w.heap.size w w') : FrsP w' P A n L := h.kept (Kept.of_below k (fun _ => False)) (fun _ _ h => h)
section
variable {ops : Array Oper} {rest : List Oper} {a : Act} {w : World} {Q : Exit → Act → World → Prop} {dst : Option Tmp} {x y : Operand} {t : TypeId} {pos : String} {after : Array Edge} {g : Option (Nat × Bool)}
end
end Go.Proofs.Ytahalbmcijbbmaa
