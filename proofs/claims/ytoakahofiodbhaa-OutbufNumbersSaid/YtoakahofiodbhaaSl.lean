/-
  A slice's place; a slice that reads as bytes.
-/
import Derived.Test.YtoakahofiodbhaaObj
namespace Go.Proofs.Ytoakahofiodbhaa
set_option linter.unusedVariables false
open Go.RowKit
/-- A slice's place. -/
structure Sl where
  A : Option Addr
  n : Nat
  c : Nat
def Sl.nil : Sl := ⟨none, 0, 0⟩
def FrPost (v : Value) (w : World) (e : Ending) (w' : World) : Prop := e = .returned v ∧ Below w.heap.size w w'
structure InD (w : World) (P : Nat → Prop) (d : Sl) (ds : List Int) : Prop where
  rd : RdP w P d.A d.n ds
  lc : d.n ≤ d.c
  cm : d.c ≤ maxLen
  nil : d.A = none → d.c = 0
section
variable {S P P' : Nat → Prop} {w w' : World} {d : Sl} {ds : List Int}
theorem InD.kept (h : InD w P d ds) (k : Kept S w w') (hs : ∀ b, P b → ¬ S b) : InD w' P d ds := ⟨h.rd.kept k hs, h.lc, h.cm, h.nil⟩
theorem InD.nil_ (w : World) (P : Nat → Prop) : InD w P .nil [] := ⟨RdP.none_ _ _ _, Nat.le_refl _, by unfold maxLen; exact Nat.zero_le _, fun _ => rfl⟩
theorem InD.mono (h : InD w P d ds) (hp : ∀ b, b < w.heap.size → P b → P' b) : InD w P' d ds := ⟨h.rd.mono hp, h.lc, h.cm, h.nil⟩
end
theorem belowN {B : Nat} {a w : World} (h : Below B a w) (n : Nat) : Below B a (w.drewN n) := ⟨h.os, h.tape, h.output, h.size, h.block⟩
end Go.Proofs.Ytoakahofiodbhaa
