/-
  Arrays of eight bytes ([8]byte): equality, opening, whole loads and stores, their results.
-/
import Derived.Test.YtkgeeoogmkpjhaaN8
import Derived.Laws.StructEq
import Derived.WideShapes
import Derived.OrdersHeld
namespace Go.Proofs.Ytkgeeoogmkpjhaa
set_option linter.unusedVariables false
set_option linter.unusedSimpArgs false
open Go.RowKit Go.ChangeShapes Go.WideShapes Go.Deep
theorem a8_info : (Try.prog.info? 28).map (·.size) = some 8 := by kernel_rfl
theorem run_a8 (W : World) (m m' : N8) : (Op.equalIn 10000 28 m.v m'.v).run Try.prog W = .ok (n8B m m') W := by
  have hp : Try.prog.plainKey 5 = true := by kernel_rfl
  have hu : Try.prog.underlying 5 = some (.int .u8) := Try.underlying5
  have hc : Try.prog.cellsOf 5 = 1 := by kernel_rfl
  obtain ⟨i, hi⟩ : ∃ i, Try.prog.info? 5 = some i := by
    cases h : Try.prog.info? 5 with
    | some i => exact ⟨i, rfl⟩
    | none => exact absurd (show (Try.prog.info? 5).isSome = true by kernel_rfl) (by rw [h]; simp)
  unfold N8.v
  rw [show (10000 : Nat) = 9999 + 1 from rfl, run_equalIn_array W 9999 _ _ (n := 8) Try.underlying28 hi, hc, show (9999 : Nat) = 9998 + 1 from rfl]
  rw [show List.range 8 = [0, 1, 2, 3, 4, 5, 6, 7] from rfl]
  unfold n8B
  rw [step_items W _ .u8 hp hu 9998 1 _ _ 0 _ m.a0 m'.a0 rfl rfl]
  cases (m.a0 == m'.a0) <;> simp only [Bool.false_and, Bool.true_and, if_true, Bool.false_eq_true, if_false]
  rw [step_items W _ .u8 hp hu 9998 1 _ _ 1 _ m.a1 m'.a1 rfl rfl]
  cases (m.a1 == m'.a1) <;> simp only [Bool.false_and, Bool.true_and, if_true, Bool.false_eq_true, if_false]
  rw [step_items W _ .u8 hp hu 9998 1 _ _ 2 _ m.a2 m'.a2 rfl rfl]
  cases (m.a2 == m'.a2) <;> simp only [Bool.false_and, Bool.true_and, if_true, Bool.false_eq_true, if_false]
  rw [step_items W _ .u8 hp hu 9998 1 _ _ 3 _ m.a3 m'.a3 rfl rfl]
  cases (m.a3 == m'.a3) <;> simp only [Bool.false_and, Bool.true_and, if_true, Bool.false_eq_true, if_false]
  rw [step_items W _ .u8 hp hu 9998 1 _ _ 4 _ m.a4 m'.a4 rfl rfl]
  cases (m.a4 == m'.a4) <;> simp only [Bool.false_and, Bool.true_and, if_true, Bool.false_eq_true, if_false]
  rw [step_items W _ .u8 hp hu 9998 1 _ _ 5 _ m.a5 m'.a5 rfl rfl]
  cases (m.a5 == m'.a5) <;> simp only [Bool.false_and, Bool.true_and, if_true, Bool.false_eq_true, if_false]
  rw [step_items W _ .u8 hp hu 9998 1 _ _ 6 _ m.a6 m'.a6 rfl rfl]
  cases (m.a6 == m'.a6) <;> simp only [Bool.false_and, Bool.true_and, if_true, Bool.false_eq_true, if_false]
  rw [step_items W _ .u8 hp hu 9998 1 _ _ 7 _ m.a7 m'.a7 rfl rfl]
  cases (m.a7 == m'.a7) <;> simp [Op.eqItems]
section
variable {H : Type} {enc : TypeId × Value → H} {w : World}
theorem a8_of_trod {fuel : Nat} {cs : List Value} {x : DataW H × List MemPlace} (h : DataW.trod enc Try.prog w 0 (fun _ => true) true fuel 28 cs = some x) (hl : cs.length = 8) :
    ∃ v : N8, cs = v.l.map (Value.int .u8) ∧ Byt v.l := by
  have c5 : Try.prog.cellsOf 5 = 1 := by kernel_rfl
  obtain ⟨xs, m, _, _, _, hxl, hf⟩ := DataW.trod_array Try.underlying28 h
  rw [c5] at hf
  match cs, hl with
  | [u0, u1, u2, u3, u4, u5, u6, u7], _ =>
    match xs, hxl with
    | [x0, x1, x2, x3, x4, x5, x6, x7], _ =>
      have h0 : DataW.trod enc Try.prog w 0 (fun _ => true) true m 5 [u0] = some x0 := hf 0 (by decide)
      have h1 : DataW.trod enc Try.prog w 0 (fun _ => true) true m 5 [u1] = some x1 := hf 1 (by decide)
      have h2 : DataW.trod enc Try.prog w 0 (fun _ => true) true m 5 [u2] = some x2 := hf 2 (by decide)
      have h3 : DataW.trod enc Try.prog w 0 (fun _ => true) true m 5 [u3] = some x3 := hf 3 (by decide)
      have h4 : DataW.trod enc Try.prog w 0 (fun _ => true) true m 5 [u4] = some x4 := hf 4 (by decide)
      have h5 : DataW.trod enc Try.prog w 0 (fun _ => true) true m 5 [u5] = some x5 := hf 5 (by decide)
      have h6 : DataW.trod enc Try.prog w 0 (fun _ => true) true m 5 [u6] = some x6 := hf 6 (by decide)
      have h7 : DataW.trod enc Try.prog w 0 (fun _ => true) true m 5 [u7] = some x7 := hf 7 (by decide)
      obtain ⟨k0, e0, _, w0⟩ := DataW.trod_int Try.underlying5 h0
      obtain ⟨k1, e1, _, w1⟩ := DataW.trod_int Try.underlying5 h1
      obtain ⟨k2, e2, _, w2⟩ := DataW.trod_int Try.underlying5 h2
      obtain ⟨k3, e3, _, w3⟩ := DataW.trod_int Try.underlying5 h3
      obtain ⟨k4, e4, _, w4⟩ := DataW.trod_int Try.underlying5 h4
      obtain ⟨k5, e5, _, w5⟩ := DataW.trod_int Try.underlying5 h5
      obtain ⟨k6, e6, _, w6⟩ := DataW.trod_int Try.underlying5 h6
      obtain ⟨k7, e7, _, w7⟩ := DataW.trod_int Try.underlying5 h7
      obtain rfl : u0 = .int .u8 k0 := by simpa using e0
      obtain rfl : u1 = .int .u8 k1 := by simpa using e1
      obtain rfl : u2 = .int .u8 k2 := by simpa using e2
      obtain rfl : u3 = .int .u8 k3 := by simpa using e3
      obtain rfl : u4 = .int .u8 k4 := by simpa using e4
      obtain rfl : u5 = .int .u8 k5 := by simpa using e5
      obtain rfl : u6 = .int .u8 k6 := by simpa using e6
      obtain rfl : u7 = .int .u8 k7 := by simpa using e7
      refine ⟨⟨k0, k1, k2, k3, k4, k5, k6, k7⟩, rfl, ?_⟩
      have b0 := bounds_u8 w0
      have b1 := bounds_u8 w1
      have b2 := bounds_u8 w2
      have b3 := bounds_u8 w3
      have b4 := bounds_u8 w4
      have b5 := bounds_u8 w5
      have b6 := bounds_u8 w6
      have b7 := bounds_u8 w7
      intro y hy
      simp only [N8.l, List.mem_cons, List.not_mem_nil, or_false] at hy
      rcases hy with rfl | rfl | rfl | rfl | rfl | rfl | rfl | rfl <;> omega
end
section
variable {ops : Array Oper} {rest : List Oper} {a : Act} {w : World} {Q : Exit → Act → World → Prop} {dst : Option Tmp} {x y : Operand} {t : TypeId} {pos : String} {after : Array Edge} {g : Option (Nat × Bool)}
theorem at_ld8 (h : wpList Try.prog ops Q (⟨dst, .load 28 x, t, pos, after, g⟩ :: rest) a w) : wpList Try.prog ops Q (⟨dst, .load 28 x, t, pos, after, g⟩ :: rest) a w := h
theorem at_st8 (h : wpList Try.prog ops Q (⟨dst, .store 28 x y, t, pos, after, g⟩ :: rest) a w) : wpList Try.prog ops Q (⟨dst, .store 28 x y, t, pos, after, g⟩ :: rest) a w := h
theorem ld_8g (hg : Region.wanted ⟨dst, .load 28 x, t, pos, after, g⟩ (yielded ops a.tmps) = true) (p o : Nat) (m : N8) (hx : a.eval x = .pointer (some ⟨p, o, none⟩)) (hA : w.rangeAt p o (m.l.map (Value.int .u8)))
    (h : wpList Try.prog ops Q rest (a.put dst m.v) w) : wpList Try.prog ops Q (⟨dst, .load 28 x, t, pos, after, g⟩ :: rest) a w := by
  refine wpList_step fun K hK => ?_
  rw [if_pos hg]
  exact wp_load_mid 28 x rfl p o hx (m.l.map (Value.int .u8)) _ hA Try.underlying28 rfl (by rw [show (m.l.map (Value.int .u8)).length = 8 from rfl]; exact a8_info) (hK _ _ h)
theorem st_8 (p : Nat) (T : TypeId) (l : List Value) (m : N8) (hx : a.eval x = .pointer (some ⟨p, 0, none⟩)) (hy : a.eval y = m.v) (hA : At w p T l) (hl : l.length = 8)
    (h : ∀ w', At w' p T (m.l.map (Value.int .u8)) → Kept (· = p) w w' → wpList Try.prog ops Q rest (a.put dst undef) w') :
    wpList Try.prog ops Q (⟨dst, .store 28 x y, t, pos, after, none⟩ :: rest) a w :=
  wpList_store_at p T l (m.l.map (Value.int .u8)) hx hy hA (by rw [hl]; rfl) (by rw [show (m.l.map (Value.int .u8)).length = 8 from rfl]; exact a8_info) rfl h
end
section
variable {ops : Array Oper} {rest : List Oper} {a : Act} {w : World} {Q : Exit → Act → World → Prop}
theorem wpList_eql_agg {o : Oper} (hg : Region.wanted o (yielded ops a.tmps) = true) (t ty : TypeId) (x y : Operand) (ho : o.op = .binOp .eql t x y ty) (xs ys : Array Value) (hx : a.eval x = .agg xs) (hy : a.eval y = .agg ys)
    (hm : Try.prog.eqGuardType Try.prog.depth t = false) (b : Bool) (hr : (Op.equalIn 10000 t (.agg xs) (.agg ys)).run Try.prog w = .ok b w) (h : wpList Try.prog ops Q rest (a.put o.dst (.bool b)) w) : wpList Try.prog ops Q (o :: rest) a w := by
  refine wpList_step fun K hK => ?_
  rw [if_pos hg]
  have h1 := run_eqGuard_agg (P := Try.prog) w .eql t x y xs ys hm
  have h2 := run_eql_struct (P := Try.prog) w t xs ys
  rw [hr] at h2
  unfold Oper.wp execOp
  simp only [ho, hx, hy, Sem.run_bind, h1, h2, Result.andThen_ok]
  exact hK _ _ h
theorem wpList_neq_agg {o : Oper} (hg : Region.wanted o (yielded ops a.tmps) = true) (t ty : TypeId) (x y : Operand) (ho : o.op = .binOp .neq t x y ty) (xs ys : Array Value) (hx : a.eval x = .agg xs) (hy : a.eval y = .agg ys)
    (hm : Try.prog.eqGuardType Try.prog.depth t = false) (b : Bool) (hr : (Op.equalIn 10000 t (.agg xs) (.agg ys)).run Try.prog w = .ok b w) (h : wpList Try.prog ops Q rest (a.put o.dst (.bool (!b))) w) : wpList Try.prog ops Q (o :: rest) a w := by
  refine wpList_step fun K hK => ?_
  rw [if_pos hg]
  have h1 := run_eqGuard_agg (P := Try.prog) w .neq t x y xs ys hm
  have h2 := run_neq_struct (P := Try.prog) w t xs ys
  rw [hr] at h2
  unfold Oper.wp execOp
  simp only [ho, hx, hy, Sem.run_bind, h1, h2, Result.andThen_ok]
  exact hK _ _ h
theorem at_ne8 {dst : Option Tmp} {x y : Operand} {t ty : TypeId} {pos : String} {after : Array Edge} {g : Option (Nat × Bool)} (h : wpList Try.prog ops Q (⟨dst, .binOp .neq 28 x y ty, t, pos, after, g⟩ :: rest) a w) : wpList Try.prog ops Q (⟨dst, .binOp .neq 28 x y ty, t, pos, after, g⟩ :: rest) a w := h
theorem at_eq8 {dst : Option Tmp} {x y : Operand} {t ty : TypeId} {pos : String} {after : Array Edge} {g : Option (Nat × Bool)} (h : wpList Try.prog ops Q (⟨dst, .binOp .eql 28 x y ty, t, pos, after, g⟩ :: rest) a w) : wpList Try.prog ops Q (⟨dst, .binOp .eql 28 x y ty, t, pos, after, g⟩ :: rest) a w := h
theorem a8_eql {o : Oper} (hg : Region.wanted o (yielded ops a.tmps) = true) (x y : Operand) (ty : TypeId) (ho : o.op = .binOp .eql 28 x y ty) (m m' : N8) (hx : a.eval x = m.v) (hy : a.eval y = m'.v)
    (h : wpList Try.prog ops Q rest (a.put o.dst (.bool (n8B m m'))) w) : wpList Try.prog ops Q (o :: rest) a w :=
  wpList_eql_agg hg 28 ty x y ho _ _ hx hy (by kernel_rfl) _ (run_a8 w m m') h
end
theorem yl_eq8 {ops : Array Oper} {S : World → Prop} {o : Oper} {a : Act} (x y : Operand) (ty : TypeId) (ho : o.op = .binOp .eql 28 x y ty) (m m' : N8) (b : Bool) (hb : n8B m m' = b) (hx : a.eval x = m.v) (hy : a.eval y = m'.v)
    (hw : Region.wanted o (yielded ops a.tmps) = true) : YieldsIf Try.prog ops S o (.bool b) a := by
  subst hb
  refine .inl ⟨hw, fun w _ => ?_⟩
  have h1 := run_eqGuard_agg (P := Try.prog) w .eql 28 x y (m.l.map (Value.int .u8)).toArray (m'.l.map (Value.int .u8)).toArray (by kernel_rfl)
  have h2 := run_eql_struct (P := Try.prog) w 28 (m.l.map (Value.int .u8)).toArray (m'.l.map (Value.int .u8)).toArray
  have h3 := run_a8 w m m'
  rw [N8.v_l, N8.v_l] at h3
  rw [h3] at h2
  rw [N8.v_l] at hx hy
  unfold execOp
  simp only [ho, hx, hy, Sem.run_bind, h1, h2, Result.andThen_ok]
  rfl
theorem okWide_arr8 {P : Program} {w : World} {r : Reach} {base : Nat} {t e : TypeId} {n : Nat} {v : Value} (ht : P.underlying t = some (.array n e)) (h : Value.okWide P w r base t v) : ∃ cs, v = .agg cs ∧ cs.size = P.cellsOf t := by
  simp only [Value.okWide, ht] at h
  obtain ⟨cs, h1, h2, _⟩ := h
  exact ⟨cs, h1, h2⟩
end Go.Proofs.Ytkgeeoogmkpjhaa
