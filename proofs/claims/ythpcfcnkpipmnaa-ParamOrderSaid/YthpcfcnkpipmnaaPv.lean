/-
  Params compared: equal to themselves.
-/
import Derived.Test.YthpcfcnkpipmnaaPe
import Derived.Laws.StructEq
namespace Go.Proofs.Ythpcfcnkpipmnaa
set_option linter.unusedVariables false
open Go.RowKit Go.ChangeShapes Go.WideShapes Go.Deep
theorem run_n8r (d : Nat) (W : World) (m : N8) : (Op.equalIn (d + 2) 24 m.v m.v).run Try.prog W = .ok true W := by
  have hp : Try.prog.plainKey 5 = true := by kernel_rfl
  have hu : Try.prog.underlying 5 = some (.int .u8) := Try.underlying5
  have hc : Try.prog.cellsOf 5 = 1 := by kernel_rfl
  obtain ⟨i, hi⟩ : ∃ i, Try.prog.info? 5 = some i := by
    cases h : Try.prog.info? 5 with
    | some i => exact ⟨i, rfl⟩
    | none => exact absurd (show (Try.prog.info? 5).isSome = true by kernel_rfl) (by rw [h]; simp)
  unfold N8.v
  rw [run_equalIn_array W (d + 1) _ _ (n := 8) Try.underlying24 hi, hc]
  rw [show List.range 8 = [0, 1, 2, 3, 4, 5, 6, 7] from rfl]
  rw [step_items W _ .u8 hp hu d 1 _ _ 0 _ m.a0 m.a0 rfl rfl, if_pos (beq_self_eq_true _)]
  rw [step_items W _ .u8 hp hu d 1 _ _ 1 _ m.a1 m.a1 rfl rfl, if_pos (beq_self_eq_true _)]
  rw [step_items W _ .u8 hp hu d 1 _ _ 2 _ m.a2 m.a2 rfl rfl, if_pos (beq_self_eq_true _)]
  rw [step_items W _ .u8 hp hu d 1 _ _ 3 _ m.a3 m.a3 rfl rfl, if_pos (beq_self_eq_true _)]
  rw [step_items W _ .u8 hp hu d 1 _ _ 4 _ m.a4 m.a4 rfl rfl, if_pos (beq_self_eq_true _)]
  rw [step_items W _ .u8 hp hu d 1 _ _ 5 _ m.a5 m.a5 rfl rfl, if_pos (beq_self_eq_true _)]
  rw [step_items W _ .u8 hp hu d 1 _ _ 6 _ m.a6 m.a6 rfl rfl, if_pos (beq_self_eq_true _)]
  rw [step_items W _ .u8 hp hu d 1 _ _ 7 _ m.a7 m.a7 rfl rfl, if_pos (beq_self_eq_true _)]
  simp [Op.eqItems]
set_option maxRecDepth 100000 in
theorem run_pm (W : World) (p : PN) : (Op.equalIn 10000 26 (pmV p) (pmV p)).run Try.prog W = .ok true W := by
  obtain ⟨i, d, s, m, c⟩ := p
  have h8 : (Op.equalIn 9999 24 c.v c.v).run Try.prog W = .ok true W := run_n8r 9997 W c
  unfold N8.v at h8
  have hs := run_equalIn_struct (P := Try.prog) W 9999 26 (pmL ⟨i, d, s, m, c⟩).toArray (pmL ⟨i, d, s, m, c⟩).toArray (by kernel_rfl) (by kernel_rfl)
  unfold pmV
  rw [show (10000 : Nat) = 9999 + 1 from rfl, hs]
  simp only [Program.fieldsOf, Try.underlying26, Op.eqFields, pmL]
  go_simp
section
variable {ops : Array Oper} {rest : List Oper} {a : Act} {w : World} {Q : Exit → Act → World → Prop}
theorem wpList_eql_agg {o : Oper} (hg : Region.wanted o (yielded ops a.tmps) = true) (t ty : TypeId) (x y : Operand) (ho : o.op = .binOp .eql t x y ty) (xs ys : Array Value) (hx : a.eval x = .agg xs) (hy : a.eval y = .agg ys)
    (hm : Try.prog.eqGuardType Try.prog.depth t = false) (b : Bool) (hr : (Op.equalIn 10000 t (.agg xs) (.agg ys)).run Try.prog w = .ok b w) (h : wpList Try.prog ops Q rest (a.put o.dst (.bool b)) w) : wpList Try.prog ops Q (o :: rest) a w := by
  refine wpList_step fun K hK => ?_
  rw [if_pos hg]
  have h1 := run_eqGuard_agg (P := Try.prog) w .eql t x y xs ys hm
  have h2 := run_eql_struct (P := Try.prog) w t xs ys
  rw [hr] at h2
  unfold Oper.wp execOp
  simp only [ho, hx, hy, Sem.run_bind, h1, h2, Result.andThen_ok]
  exact hK _ _ h
theorem wpList_neq_agg {o : Oper} (hg : Region.wanted o (yielded ops a.tmps) = true) (t ty : TypeId) (x y : Operand) (ho : o.op = .binOp .neq t x y ty) (xs ys : Array Value) (hx : a.eval x = .agg xs) (hy : a.eval y = .agg ys)
    (hm : Try.prog.eqGuardType Try.prog.depth t = false) (b : Bool) (hr : (Op.equalIn 10000 t (.agg xs) (.agg ys)).run Try.prog w = .ok b w) (h : wpList Try.prog ops Q rest (a.put o.dst (.bool (!b))) w) : wpList Try.prog ops Q (o :: rest) a w := by
  refine wpList_step fun K hK => ?_
  rw [if_pos hg]
  have h1 := run_eqGuard_agg (P := Try.prog) w .neq t x y xs ys hm
  have h2 := run_neq_struct (P := Try.prog) w t xs ys
  rw [hr] at h2
  unfold Oper.wp execOp
  simp only [ho, hx, hy, Sem.run_bind, h1, h2, Result.andThen_ok]
  exact hK _ _ h
theorem at_nep {dst : Option Tmp} {x y : Operand} {t ty : TypeId} {pos : String} {after : Array Edge} {g : Option (Nat × Bool)} (h : wpList Try.prog ops Q (⟨dst, .binOp .neq 26 x y ty, t, pos, after, g⟩ :: rest) a w) : wpList Try.prog ops Q (⟨dst, .binOp .neq 26 x y ty, t, pos, after, g⟩ :: rest) a w := h
theorem at_eqp {dst : Option Tmp} {x y : Operand} {t ty : TypeId} {pos : String} {after : Array Edge} {g : Option (Nat × Bool)} (h : wpList Try.prog ops Q (⟨dst, .binOp .eql 26 x y ty, t, pos, after, g⟩ :: rest) a w) : wpList Try.prog ops Q (⟨dst, .binOp .eql 26 x y ty, t, pos, after, g⟩ :: rest) a w := h
end
theorem pm_guard : Try.prog.eqGuardType Try.prog.depth 26 = false := by kernel_rfl
end Go.Proofs.Ythpcfcnkpipmnaa
