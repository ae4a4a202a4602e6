/-
  Arrays of eight bytes ([8]byte): equality, opening, whole loads and stores, their results.
-/
import Derived.Test.YtdakbedohjemeaaMq2
import Derived.Laws.StructEq
import Derived.WideShapes
import Derived.OrdersHeld
namespace Go.Proofs.Ytdakbedohjemeaa
set_option linter.unusedVariables false
set_option linter.unusedSimpArgs false
open Go.RowKit Go.ChangeShapes Go.WideShapes Go.Deep
theorem a8_info : (Try.prog.info? 23).map (·.size) = some 8 := by kernel_rfl
section
variable {H : Type} {enc : TypeId × Value → H} {w : World}
end
section
variable {ops : Array Oper} {rest : List Oper} {a : Act} {w : World} {Q : Exit → Act → World → Prop} {dst : Option Tmp} {x y : Operand} {t : TypeId} {pos : String} {after : Array Edge} {g : Option (Nat × Bool)}
theorem at_ld8 (h : wpList Try.prog ops Q (⟨dst, .load 23 x, t, pos, after, g⟩ :: rest) a w) : wpList Try.prog ops Q (⟨dst, .load 23 x, t, pos, after, g⟩ :: rest) a w := h
theorem at_st8 (h : wpList Try.prog ops Q (⟨dst, .store 23 x y, t, pos, after, g⟩ :: rest) a w) : wpList Try.prog ops Q (⟨dst, .store 23 x y, t, pos, after, g⟩ :: rest) a w := h
theorem ld_8g (hg : Region.wanted ⟨dst, .load 23 x, t, pos, after, g⟩ (yielded ops a.tmps) = true) (p o : Nat) (m : N8) (hx : a.eval x = .pointer (some ⟨p, o, none⟩)) (hA : w.rangeAt p o (m.l.map (Value.int .u8)))
    (h : wpList Try.prog ops Q rest (a.put dst m.v) w) : wpList Try.prog ops Q (⟨dst, .load 23 x, t, pos, after, g⟩ :: rest) a w := by
  refine wpList_step fun K hK => ?_
  rw [if_pos hg]
  exact wp_load_mid 23 x rfl p o hx (m.l.map (Value.int .u8)) _ hA Try.underlying23 rfl (by rw [show (m.l.map (Value.int .u8)).length = 8 from rfl]; exact a8_info) (hK _ _ h)
theorem st_8 (p : Nat) (T : TypeId) (l : List Value) (m : N8) (hx : a.eval x = .pointer (some ⟨p, 0, none⟩)) (hy : a.eval y = m.v) (hA : At w p T l) (hl : l.length = 8)
    (h : ∀ w', At w' p T (m.l.map (Value.int .u8)) → Kept (· = p) w w' → wpList Try.prog ops Q rest (a.put dst undef) w') :
    wpList Try.prog ops Q (⟨dst, .store 23 x y, t, pos, after, none⟩ :: rest) a w :=
  wpList_store_at p T l (m.l.map (Value.int .u8)) hx hy hA (by rw [hl]; rfl) (by rw [show (m.l.map (Value.int .u8)).length = 8 from rfl]; exact a8_info) rfl h
end
section
variable {ops : Array Oper} {rest : List Oper} {a : Act} {w : World} {Q : Exit → Act → World → Prop}
theorem wpList_eql_agg {o : Oper} (hg : Region.wanted o (yielded ops a.tmps) = true) (t ty : TypeId) (x y : Operand) (ho : o.op = .binOp .eql t x y ty) (xs ys : Array Value) (hx : a.eval x = .agg xs) (hy : a.eval y = .agg ys)
    (hm : Try.prog.eqGuardType Try.prog.depth t = false) (b : Bool) (hr : (Op.equalIn 10000 t (.agg xs) (.agg ys)).run Try.prog w = .ok b w) (h : wpList Try.prog ops Q rest (a.put o.dst (.bool b)) w) : wpList Try.prog ops Q (o :: rest) a w := by
  refine wpList_step fun K hK => ?_
  rw [if_pos hg]
  have h1 := run_eqGuard_agg (P := Try.prog) w .eql t x y xs ys hm
  have h2 := run_eql_struct (P := Try.prog) w t xs ys
  rw [hr] at h2
  unfold Oper.wp execOp
  simp only [ho, hx, hy, Sem.run_bind, h1, h2, Result.andThen_ok]
  exact hK _ _ h
end
end Go.Proofs.Ytdakbedohjemeaa
