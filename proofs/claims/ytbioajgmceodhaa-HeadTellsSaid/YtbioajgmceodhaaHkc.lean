/-
  The head that is drawn (narthexkeep.Head) may be written.
-/
import Derived.Test.YtbioajgmceodhaaHreg
import Derived.Test.YtbioajgmceodhaaCidk
import Derived.Test.YtbioajgmceodhaaKeep
namespace Go.Proofs.Ytbioajgmceodhaa
set_option linter.unusedVariables false
set_option linter.unusedSimpArgs false
open Go.RowKit
section
variable {P : Program} {ops : Array Oper} {rest : List Oper} {a : Act} {w : World} {Q : Exit → Act → World → Prop} {dst : Option Tmp} {x y : Operand} {ty t : TypeId} {pos : String} {after : Array Edge}
/-- The store of some cells within a block. -/
theorem wpList_store_sub (p o : Nat) (T : TypeId) (l l' vs : List Value) (hx : a.eval x = .pointer (some ⟨p, o, none⟩)) (hy : a.eval y = .agg vs.toArray) (hA : At w p T l) (hl : o + vs.length ≤ l.length)
    (hi : (P.info? ty).map (·.size) = some vs.length) (h1 : vs.all (·.oneCell') = true) (hres : setFrom l o vs = l') (h : ∀ w', At w' p T l' → Kept (· = p) w w' → wpList P ops Q rest (a.put dst undef) w') :
    wpList P ops Q (⟨dst, .store ty x y, t, pos, after, none⟩ :: rest) a w := by
  refine wpList_store_mid rfl ty x y rfl p o vs.toArray hx hy (fun j hj => ?_) (by simpa using hi) (by simpa using h1) ?_
  · simp at hj
    rw [hA.cell, hA.frozen]
    simp
    omega
  · have := At.setFrom vs l o w hA
    rw [hres] at this
    exact h _ (by simpa using this) (by simpa using Kept.setCells (S := (· = p)) rfl vs o w (Kept.refl _ _))
theorem at_stc {ops : Array Oper} {rest : List Oper} {a : Act} {w : World} {Q : Exit → Act → World → Prop} {dst : Option Tmp} {x y : Operand} {t : TypeId} {pos : String} {after : Array Edge} {g : Option (Nat × Bool)} (h : wpList Try.prog ops Q (⟨dst, .store 26 x y, t, pos, after, g⟩ :: rest) a w) : wpList Try.prog ops Q (⟨dst, .store 26 x y, t, pos, after, g⟩ :: rest) a w := h
end
def KHPost (w : World) (P : Nat → Prop) (e : Ending) (w' : World) : Prop :=
  ∃ m d tok, e = .returned (hdV m d) ∧ HFits w' P m d tok ∧ hrightB m tok.length = true ∧ Below w.heap.size w w'
def xL (S T F W : Int) (d : Sl) (ph : Bool) : List Value := [.int .i64 S, .int .i64 T, .int .i64 F, .int .i64 W, .slice d.A d.n d.c, .bool ph]
theorem cidX_bd (n : Int) : 0 ≤ cidX n ∧ cidX n < 5 := by
  have := withinS_bd n 0 1048576 (by decide)
  unfold cidX; omega
end Go.Proofs.Ytbioajgmceodhaa
