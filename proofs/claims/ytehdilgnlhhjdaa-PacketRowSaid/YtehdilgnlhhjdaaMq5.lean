/-
  A head as it is drawn, that came in by value: what its cells are.
-/
import Derived.Test.YtehdilgnlhhjdaaMq4
import Derived.Test.YtehdilgnlhhjdaaMq3
import Derived.Deep.Slices
import Derived.ChangeSlices
import Derived.Laws.StructEq
import Derived.WideShapes
import Derived.OrdersHeld
import Derived.Test.YtehdilgnlhhjdaaMq1
namespace Go.Proofs.Ytehdilgnlhhjdaa
section
open Go.RowKit Go.ChangeShapes Go.WideShapes Go.Deep
set_option linter.unusedVariables false
structure XIn (w : World) (S T F W : Int) (A : Option Addr) (n c : Nat) (bs : List Int) : Prop where
  sa : -9223372036854775808 ≤ S ∧ S ≤ 9223372036854775807
  ta : -9223372036854775808 ≤ T ∧ T ≤ 9223372036854775807
  fa : -9223372036854775808 ≤ F ∧ F ≤ 9223372036854775807
  wa : -9223372036854775808 ≤ W ∧ W ≤ 9223372036854775807
  row : InRow w A n c bs
section
variable {H : Type} {enc : TypeId × Value → H} {w : World}
set_option maxRecDepth 100000 in
theorem xh_of_trod {fuel : Nat} {cs : List Value} {x : DataW H × List MemPlace} (h : DataW.trod enc Try.prog w 0 (fun _ => true) true fuel 39 cs = some x) (hl6 : cs.length = 6) :
    ∃ S T F W A n c bs ph, cs = xL S T F W ⟨A, n, c⟩ ph ∧ XIn w S T F W A n c bs := by
  have c3 : Try.prog.cellsOf 3 = 1 := by kernel_rfl
  have c23 : Try.prog.cellsOf 28 = 1 := by kernel_rfl
  have c5 : Try.prog.cellsOf 5 = 1 := by kernel_rfl
  have c4 : Try.prog.cellsOf 4 = 1 := by kernel_rfl
  obtain ⟨ys, n', _, _, hlen, hyl, hf⟩ := DataW.trod_struct Try.underlying39 h
  match cs, hl6 with
  | [u0, u1, u2, u3, u4, u5], _ =>
    match ys, hyl with
    | [y0, y1, y2, y3, y4, y5], _ =>
      have h0 : DataW.trod enc Try.prog w 0 (fun _ => true) true n' 3 (([u0, u1, u2, u3, u4, u5].drop 0).take (Try.prog.cellsOf 3)) = some y0 := hf 0 _ rfl
      have h1 : DataW.trod enc Try.prog w 0 (fun _ => true) true n' 3 (([u0, u1, u2, u3, u4, u5].drop 1).take (Try.prog.cellsOf 3)) = some y1 := hf 1 _ rfl
      have h2 : DataW.trod enc Try.prog w 0 (fun _ => true) true n' 3 (([u0, u1, u2, u3, u4, u5].drop 2).take (Try.prog.cellsOf 3)) = some y2 := hf 2 _ rfl
      have h3 : DataW.trod enc Try.prog w 0 (fun _ => true) true n' 3 (([u0, u1, u2, u3, u4, u5].drop 3).take (Try.prog.cellsOf 3)) = some y3 := hf 3 _ rfl
      have h4 : DataW.trod enc Try.prog w 0 (fun _ => true) true n' 28 (([u0, u1, u2, u3, u4, u5].drop 4).take (Try.prog.cellsOf 28)) = some y4 := hf 4 _ rfl
      have h5 : DataW.trod enc Try.prog w 0 (fun _ => true) true n' 4 (([u0, u1, u2, u3, u4, u5].drop 5).take (Try.prog.cellsOf 4)) = some y5 := hf 5 _ rfl
      rw [c3] at h0 h1 h2 h3
      rw [c23] at h4
      rw [c4] at h5
      obtain ⟨k0, e0, _, w0⟩ := DataW.trod_int Try.underlying3 h0
      obtain ⟨k1, e1, _, w1⟩ := DataW.trod_int Try.underlying3 h1
      obtain ⟨k2, e2, _, w2⟩ := DataW.trod_int Try.underlying3 h2
      obtain ⟨k3, e3, _, w3⟩ := DataW.trod_int Try.underlying3 h3
      obtain ⟨A, l, c, bs, e4, hr⟩ := inRow_of_trod Try.underlying28 Try.underlying5 c5 h4
      obtain ⟨b, e5, _⟩ := DataW.trod_bool Try.underlying4 h5
      obtain rfl : u0 = .int .i64 k0 := by simpa using e0
      obtain rfl : u1 = .int .i64 k1 := by simpa using e1
      obtain rfl : u2 = .int .i64 k2 := by simpa using e2
      obtain rfl : u3 = .int .i64 k3 := by simpa using e3
      obtain rfl : u4 = .slice A l c := by simpa using e4
      obtain rfl : u5 = .bool b := by simpa using e5
      exact ⟨k0, k1, k2, k3, A, l, c, bs, b, rfl, bounds_i64 w0, bounds_i64 w1, bounds_i64 w2, bounds_i64 w3, hr⟩
end
structure HdIn (w : World) (m : HN) (A : Option Addr) (n c : Nat) (bs : List Int) : Prop where
  wf : m.wf
  row : InRow w A n c bs
section
variable {H : Type} {enc : TypeId × Value → H} {w : World}
set_option maxRecDepth 100000 in
theorem hd_of_trod {fuel : Nat} {cs : List Value} {x : DataW H × List MemPlace} (h : DataW.trod enc Try.prog w 0 (fun _ => true) true fuel 30 cs = some x) (hl : cs.length = 20) :
    ∃ m A n c bs, cs = hdL m ⟨A, n, c⟩ ∧ HdIn w m A n c bs := by
  have c3 : Try.prog.cellsOf 3 = 1 := by kernel_rfl
  have c23 : Try.prog.cellsOf 28 = 1 := by kernel_rfl
  have c5 : Try.prog.cellsOf 5 = 1 := by kernel_rfl
  have c4 : Try.prog.cellsOf 4 = 1 := by kernel_rfl
  have c8 : Try.prog.cellsOf 27 = 8 := by kernel_rfl
  obtain ⟨ys, n', _, _, hlen, hyl, hf⟩ := DataW.trod_struct Try.underlying30 h
  match cs, hl with
  | [u0, a0, a1, a2, a3, a4, a5, a6, a7, f0, f1, f2, f3, f4, f5, f6, f7, u3, u4, u5], _ =>
    match ys, hyl with
    | [y0, y1, y2, y3, y4, y5], _ =>
      have h0 : DataW.trod enc Try.prog w 0 (fun _ => true) true n' 3 (([u0, a0, a1, a2, a3, a4, a5, a6, a7, f0, f1, f2, f3, f4, f5, f6, f7, u3, u4, u5].drop 0).take (Try.prog.cellsOf 3)) = some y0 := hf 0 _ rfl
      have h1 : DataW.trod enc Try.prog w 0 (fun _ => true) true n' 27 (([u0, a0, a1, a2, a3, a4, a5, a6, a7, f0, f1, f2, f3, f4, f5, f6, f7, u3, u4, u5].drop 1).take (Try.prog.cellsOf 27)) = some y1 := hf 1 _ rfl
      have h2 : DataW.trod enc Try.prog w 0 (fun _ => true) true n' 27 (([u0, a0, a1, a2, a3, a4, a5, a6, a7, f0, f1, f2, f3, f4, f5, f6, f7, u3, u4, u5].drop 9).take (Try.prog.cellsOf 27)) = some y2 := hf 2 _ rfl
      have h3 : DataW.trod enc Try.prog w 0 (fun _ => true) true n' 28 (([u0, a0, a1, a2, a3, a4, a5, a6, a7, f0, f1, f2, f3, f4, f5, f6, f7, u3, u4, u5].drop 17).take (Try.prog.cellsOf 28)) = some y3 := hf 3 _ rfl
      have h4 : DataW.trod enc Try.prog w 0 (fun _ => true) true n' 3 (([u0, a0, a1, a2, a3, a4, a5, a6, a7, f0, f1, f2, f3, f4, f5, f6, f7, u3, u4, u5].drop 18).take (Try.prog.cellsOf 3)) = some y4 := hf 4 _ rfl
      have h5 : DataW.trod enc Try.prog w 0 (fun _ => true) true n' 4 (([u0, a0, a1, a2, a3, a4, a5, a6, a7, f0, f1, f2, f3, f4, f5, f6, f7, u3, u4, u5].drop 19).take (Try.prog.cellsOf 4)) = some y5 := hf 5 _ rfl
      rw [c3] at h0 h4
      rw [c8] at h1 h2
      rw [c23] at h3
      rw [c4] at h5
      obtain ⟨k0, e0, _, w0⟩ := DataW.trod_int Try.underlying3 h0
      obtain ⟨t, e1, bt⟩ := cid_of_trod h1 rfl
      obtain ⟨f, e2, bf⟩ := cid_of_trod h2 rfl
      obtain ⟨A, l, c, bs, e3, hr⟩ := inRow_of_trod Try.underlying28 Try.underlying5 c5 h3
      obtain ⟨k4, e4, _, w4⟩ := DataW.trod_int Try.underlying3 h4
      obtain ⟨b, e5, _⟩ := DataW.trod_bool Try.underlying4 h5
      obtain rfl : u0 = .int .i64 k0 := by simpa using e0
      obtain rfl : u3 = .slice A l c := by simpa using e3
      obtain rfl : u4 = .int .i64 k4 := by simpa using e4
      obtain rfl : u5 = .bool b := by simpa using e5
      have e1' : [a0, a1, a2, a3, a4, a5, a6, a7] = t.l.map (Value.int .u8) := e1
      have e2' : [f0, f1, f2, f3, f4, f5, f6, f7] = f.l.map (Value.int .u8) := e2
      simp only [N8.l, List.map_cons, List.map_nil, List.cons.injEq] at e1' e2'
      obtain ⟨rfl, rfl, rfl, rfl, rfl, rfl, rfl, rfl, _⟩ := e1'
      obtain ⟨rfl, rfl, rfl, rfl, rfl, rfl, rfl, rfl, _⟩ := e2'
      have q0 := bounds_i64 w0
      have q4 := bounds_i64 w4
      exact ⟨⟨k0, t, f, k4, b⟩, A, l, c, bs, rfl, ⟨q0.1, q0.2, q4.1, q4.2, bt, bf⟩, hr⟩
end
end
section
set_option linter.unusedVariables false
set_option linter.unusedSimpArgs false
open Go.RowKit Go.ChangeShapes Go.WideShapes Go.Deep
/-- A drawn head that came in stands at place o of block b. -/
structure XAt (w : World) (b o : Nat) (S T F W : Int) (tA : Option Addr) (tn tc : Nat) (ph : Bool) (bs : List Int) : Prop where
  c0 : w.cell? ⟨b, o, none⟩ = some (.int .i64 S)
  c1 : w.cell? ⟨b, o + 1, none⟩ = some (.int .i64 T)
  c2 : w.cell? ⟨b, o + 2, none⟩ = some (.int .i64 F)
  c3 : w.cell? ⟨b, o + 3, none⟩ = some (.int .i64 W)
  c4 : w.cell? ⟨b, o + 4, none⟩ = some (.slice tA tn tc)
  c5 : w.cell? ⟨b, o + 5, none⟩ = some (.bool ph)
/-- A row of drawn heads that came in: their tokens can be read in the world w0. -/
structure XRow (w0 w : World) (A : Option Addr) (n : Nat) : Prop where
  at_ : 0 < n → ∃ b off, A = some ⟨b, off, none⟩ ∧ b < w.heap.size ∧ ∀ i, i < n → ∃ S T F W tA tn tc ph bs, XAt w b (off + i * 6) S T F W tA tn tc ph bs ∧ XIn w0 S T F W tA tn tc bs
theorem XRow.below {w0 w w' : World} {A : Option Addr} {n : Nat} (h : XRow w0 w A n) (k : Below w.heap.size w w') : XRow w0 w' A n := ⟨fun hn => by
  obtain ⟨b, off, e, hb, hc⟩ := h.at_ hn
  refine ⟨b, off, e, Nat.lt_of_lt_of_le hb k.size, fun i hi => ?_⟩
  obtain ⟨S, T, F, W, tA, tn, tc, ph, bs, h1, h2⟩ := hc i hi
  exact ⟨S, T, F, W, tA, tn, tc, ph, bs, ⟨(k.cell (p := ⟨b, _, none⟩) hb).trans h1.c0, (k.cell (p := ⟨b, _, none⟩) hb).trans h1.c1, (k.cell (p := ⟨b, _, none⟩) hb).trans h1.c2, (k.cell (p := ⟨b, _, none⟩) hb).trans h1.c3, (k.cell (p := ⟨b, _, none⟩) hb).trans h1.c4, (k.cell (p := ⟨b, _, none⟩) hb).trans h1.c5⟩, h2⟩⟩
section
variable {H : Type} {enc : TypeId × Value → H} {w : World}
set_option maxRecDepth 100000 in
set_option maxHeartbeats 4000000 in
theorem xrow_of_trod {fuel : Nat} {cs : List Value} {x : DataW H × List MemPlace} (h : DataW.trod enc Try.prog w 0 (fun _ => true) true fuel 54 cs = some x) :
    ∃ A n c, cs = [.slice A n c] ∧ XRow w w A n ∧ n ≤ c ∧ c ≤ maxLen := by
  rcases open_slice Try.underlying54 h with ⟨rfl, _⟩ | ⟨a, len, cap, m, n, D, Pl, rfl, _, hl, hm, hmm, _, hi⟩
  · exact ⟨none, 0, 0, rfl, ⟨fun h => absurd h (by omega)⟩, Nat.le_refl _, by unfold maxLen; exact Nat.zero_le _⟩
  · obtain rfl : m = cap := by simpa using hmm
    have hC : Try.prog.cellsOf 39 = 6 := by kernel_rfl
    rw [hC] at hi
    obtain ⟨b, off, spot⟩ := a
    have hspot : 0 < len → spot = none := by
      intro hp
      obtain ⟨cs', hc, _⟩ := hi 0 (by omega)
      obtain ⟨_, hcl, hat⟩ := World.cells?_some hc
      have h0 := hat 0 (by omega)
      rw [List.getElem?_eq_getElem (by omega)] at h0
      simpa [Addr.add] using World.cell?_spot h0
    refine ⟨_, len, m, rfl, ⟨fun hp => ?_⟩, hl, hm⟩
    have hs := hspot hp
    subst hs
    have each : ∀ i, i < len → b < w.heap.size ∧ ∃ S T F W tA tn tc ph bs, XAt w b (off + i * 6) S T F W tA tn tc ph bs ∧ XIn w S T F W tA tn tc bs := by
      intro i hil
      obtain ⟨cs', hc, ht⟩ := hi i (by omega)
      obtain ⟨_, hcl, hat⟩ := World.cells?_some hc
      obtain ⟨S, T, F, W, tA, tn, tc, bs, ph, rfl, hx⟩ := xh_of_trod ht hcl
      have hA : ∀ j u, (xL S T F W ⟨tA, tn, tc⟩ ph)[j]? = some u → w.cell? ⟨b, off + i * 6 + j, none⟩ = some u := fun j u hu => by
        have hj : j < 6 := by have := (List.getElem?_eq_some_iff.1 hu).1; rw [hcl] at this; exact this
        have hx := hat j hj
        rw [hu, addr_add, addr_add] at hx
        exact hx
      exact ⟨cell_lt (hA 0 _ rfl), S, T, F, W, tA, tn, tc, ph, bs, ⟨hA 0 _ rfl, hA 1 _ rfl, hA 2 _ rfl, hA 3 _ rfl, hA 4 _ rfl, hA 5 _ rfl⟩, hx⟩
    exact ⟨b, off, rfl, (each 0 hp).1, fun i hi => (each i hi).2⟩
end
end
section
set_option linter.unusedVariables false
set_option linter.unusedSimpArgs false
open Go.RowKit Go.ChangeShapes Go.WideShapes Go.Deep
theorem a8_info : (Try.prog.info? 26).map (·.size) = some 8 := by kernel_rfl
theorem run_a8 (W : World) (m m' : N8) : (Op.equalIn 10000 26 m.v m'.v).run Try.prog W = .ok (n8B m m') W := by
  have hp : Try.prog.plainKey 5 = true := by kernel_rfl
  have hu : Try.prog.underlying 5 = some (.int .u8) := Try.underlying5
  have hc : Try.prog.cellsOf 5 = 1 := by kernel_rfl
  obtain ⟨i, hi⟩ : ∃ i, Try.prog.info? 5 = some i := by
    cases h : Try.prog.info? 5 with
    | some i => exact ⟨i, rfl⟩
    | none => exact absurd (show (Try.prog.info? 5).isSome = true by kernel_rfl) (by rw [h]; simp)
  unfold N8.v
  rw [show (10000 : Nat) = 9999 + 1 from rfl, run_equalIn_array W 9999 _ _ (n := 8) Try.underlying26 hi, hc, show (9999 : Nat) = 9998 + 1 from rfl]
  rw [show List.range 8 = [0, 1, 2, 3, 4, 5, 6, 7] from rfl]
  unfold n8B
  rw [step_items W _ .u8 hp hu 9998 1 _ _ 0 _ m.a0 m'.a0 rfl rfl]
  cases (m.a0 == m'.a0) <;> simp only [Bool.false_and, Bool.true_and, if_true, Bool.false_eq_true, if_false]
  rw [step_items W _ .u8 hp hu 9998 1 _ _ 1 _ m.a1 m'.a1 rfl rfl]
  cases (m.a1 == m'.a1) <;> simp only [Bool.false_and, Bool.true_and, if_true, Bool.false_eq_true, if_false]
  rw [step_items W _ .u8 hp hu 9998 1 _ _ 2 _ m.a2 m'.a2 rfl rfl]
  cases (m.a2 == m'.a2) <;> simp only [Bool.false_and, Bool.true_and, if_true, Bool.false_eq_true, if_false]
  rw [step_items W _ .u8 hp hu 9998 1 _ _ 3 _ m.a3 m'.a3 rfl rfl]
  cases (m.a3 == m'.a3) <;> simp only [Bool.false_and, Bool.true_and, if_true, Bool.false_eq_true, if_false]
  rw [step_items W _ .u8 hp hu 9998 1 _ _ 4 _ m.a4 m'.a4 rfl rfl]
  cases (m.a4 == m'.a4) <;> simp only [Bool.false_and, Bool.true_and, if_true, Bool.false_eq_true, if_false]
  rw [step_items W _ .u8 hp hu 9998 1 _ _ 5 _ m.a5 m'.a5 rfl rfl]
  cases (m.a5 == m'.a5) <;> simp only [Bool.false_and, Bool.true_and, if_true, Bool.false_eq_true, if_false]
  rw [step_items W _ .u8 hp hu 9998 1 _ _ 6 _ m.a6 m'.a6 rfl rfl]
  cases (m.a6 == m'.a6) <;> simp only [Bool.false_and, Bool.true_and, if_true, Bool.false_eq_true, if_false]
  rw [step_items W _ .u8 hp hu 9998 1 _ _ 7 _ m.a7 m'.a7 rfl rfl]
  cases (m.a7 == m'.a7) <;> simp [Op.eqItems]
section
variable {H : Type} {enc : TypeId × Value → H} {w : World}
end
section
variable {ops : Array Oper} {rest : List Oper} {a : Act} {w : World} {Q : Exit → Act → World → Prop} {dst : Option Tmp} {x y : Operand} {t : TypeId} {pos : String} {after : Array Edge} {g : Option (Nat × Bool)}
theorem at_ld8 (h : wpList Try.prog ops Q (⟨dst, .load 26 x, t, pos, after, g⟩ :: rest) a w) : wpList Try.prog ops Q (⟨dst, .load 26 x, t, pos, after, g⟩ :: rest) a w := h
theorem at_st8 (h : wpList Try.prog ops Q (⟨dst, .store 26 x y, t, pos, after, g⟩ :: rest) a w) : wpList Try.prog ops Q (⟨dst, .store 26 x y, t, pos, after, g⟩ :: rest) a w := h
theorem ld_8g (hg : Region.wanted ⟨dst, .load 26 x, t, pos, after, g⟩ (yielded ops a.tmps) = true) (p o : Nat) (m : N8) (hx : a.eval x = .pointer (some ⟨p, o, none⟩)) (hA : w.rangeAt p o (m.l.map (Value.int .u8)))
    (h : wpList Try.prog ops Q rest (a.put dst m.v) w) : wpList Try.prog ops Q (⟨dst, .load 26 x, t, pos, after, g⟩ :: rest) a w := by
  refine wpList_step fun K hK => ?_
  rw [if_pos hg]
  exact wp_load_mid 26 x rfl p o hx (m.l.map (Value.int .u8)) _ hA Try.underlying26 rfl (by rw [show (m.l.map (Value.int .u8)).length = 8 from rfl]; exact a8_info) (hK _ _ h)
theorem st_8 (p : Nat) (T : TypeId) (l : List Value) (m : N8) (hx : a.eval x = .pointer (some ⟨p, 0, none⟩)) (hy : a.eval y = m.v) (hA : At w p T l) (hl : l.length = 8)
    (h : ∀ w', At w' p T (m.l.map (Value.int .u8)) → Kept (· = p) w w' → wpList Try.prog ops Q rest (a.put dst undef) w') :
    wpList Try.prog ops Q (⟨dst, .store 26 x y, t, pos, after, none⟩ :: rest) a w :=
  wpList_store_at p T l (m.l.map (Value.int .u8)) hx hy hA (by rw [hl]; rfl) (by rw [show (m.l.map (Value.int .u8)).length = 8 from rfl]; exact a8_info) rfl h
end
section
variable {ops : Array Oper} {rest : List Oper} {a : Act} {w : World} {Q : Exit → Act → World → Prop}
end
end
section
set_option linter.unusedVariables false
open Go.RowKit
theorem xor_bd (a b : Int) : 0 ≤ bits BinOp.xor IntKind.u64 a b ∧ bits BinOp.xor IntKind.u64 a b < 18446744073709551616 := ⟨bits_lo_u64 _ _ _, by have := bits_hi_u64 BinOp.xor a b; omega⟩
theorem u64_wrap_bd (x : Int) : 0 ≤ IntKind.u64.wrap x ∧ IntKind.u64.wrap x < 18446744073709551616 := by rw [IntKind.wrap_u64]; omega
def endM (h : Int) : Int := IntKind.u64.wrap (bits BinOp.xor IntKind.u64 h (h / 536870912) * 13787848793156543929)
def endS (h : Int) : Int := bits BinOp.xor IntKind.u64 (endM h) (endM h / 4294967296)
theorem endS_bd (h : Int) : 0 ≤ endS h ∧ endS h < 18446744073709551616 := xor_bd _ _
def mixM (h x : Int) : Int := IntKind.u64.wrap (bits BinOp.xor IntKind.u64 h x * 1099511628211)
def mixS (h x : Int) : Int := rotS (mixM h x) 23
theorem mixM_bd (h x : Int) : 0 ≤ mixM h x ∧ mixM h x < 18446744073709551616 := u64_wrap_bd _
theorem mixS_bd (h x : Int) : 0 ≤ mixS h x ∧ mixS h x < 18446744073709551616 := rotS_bd _ 23 (mixM_bd h x).1 (mixM_bd h x).2 (by omega)
def seedS (key : Int) (n : Nat) : Int := IntKind.u64.wrap (bits BinOp.xor IntKind.u64 key 11400714819323198485 + n)
def rowS (key : Int) (bs : List Int) (k : Nat) : Int := (bs.take k).foldl mixS (seedS key bs.length)
def keyedS (key : Int) (bs : List Int) : Int := endS (rowS key bs bs.length)
theorem rowS_zero (key : Int) (bs : List Int) : rowS key bs 0 = seedS key bs.length := by simp [rowS]
theorem rowS_step (key : Int) (bs : List Int) (k : Nat) (hk : k < bs.length) : rowS key bs (k + 1) = mixS (rowS key bs k) (bs.getD k 0) := by
  unfold rowS
  rw [List.take_succ_eq_append_getElem hk, List.foldl_append, List.getD_eq_getElem?_getD, List.getElem?_eq_getElem hk]
  rfl
theorem rowS_bd (key : Int) (bs : List Int) (k : Nat) : 0 ≤ rowS key bs k ∧ rowS key bs k < 18446744073709551616 := by
  unfold rowS
  generalize bs.take k = l
  have : ∀ (l : List Int) (h : Int), 0 ≤ h ∧ h < 18446744073709551616 → 0 ≤ l.foldl mixS h ∧ l.foldl mixS h < 18446744073709551616 := by
    intro l
    induction l with
    | nil => intro h hh; exact hh
    | cons x l ih => intro h _; exact ih _ (mixS_bd h x)
  exact this l _ (u64_wrap_bd _)
theorem end_any (h : Int) (w : World) (h0 : 0 ≤ h) (h1 : h < 18446744073709551616) : Calls Try.prog 81 #[.int .u64 h] w fun e w' => e = .returned (.int .u64 (endS h)) ∧ w = w' := by
  go_enter Try.func81, Try.ntmps81
  go_wp2
  go_ret
  exact ⟨rfl, rfl⟩
set_option maxRecDepth 100000 in
theorem keyed_any (key : Int) (A : Option Addr) (n c : Nat) (bs : List Int) (w : World) (B : Nat) (hr : Rd w B A n bs) (hn : n ≤ c) (hc : c ≤ maxLen) (k0 : 0 ≤ key) (k1 : key < 18446744073709551616) :
    Calls Try.prog 55 #[.int .u64 key, .slice A n c] w fun e w' => e = .returned (.int .u64 (keyedS key bs)) ∧ w = w' := by
  unfold maxLen at hc
  have hL := hr.1
  have hz : rowS key bs 0 = IntKind.u64.wrap (bits BinOp.xor IntKind.u64 key 11400714819323198485 + n) := by rw [rowS_zero, hL]; rfl
  have hst := rowS_step key bs
  have hbd := rowS_bd key bs
  have hfin : keyedS key bs = endS (rowS key bs n) := by rw [← hL]; rfl
  have hby := hr.2.1
  have hcell := hr.2.2
  rw [hL] at hst
  have Z := Lib.hid hz
  have ST := Lib.hid hst
  have BD := Lib.hid hbd
  have F := Lib.hid hfin
  have HC := Lib.hid hcell
  clear hz hst hbd hfin hcell hL hr
  go_enter Try.func55, Try.ntmps55
  go_wp2_with fail
  go_loop [5, 16] (fun h i => ∃ k : Nat, k ≤ n ∧ i = .int .i64 k ∧ h = .int .u64 (rowS key bs k)) (fun _ i => n - (intOf i).toNat)
  case atStart => exact ⟨0, Nat.zero_le _, rfl, by rw [Z.out]⟩
  case round =>
    obtain ⟨k, hk, rfl, rfl⟩ := hrel
    have hh := BD.out k
    by_cases hlt : k < n
    · obtain ⟨b, off, rfl, hb, hcell⟩ := HC.out (by omega)
      have c1 := hcell k hlt
      have hy := hby.getD k
      have hs := ST.out k hlt
      have hb1 := mixM_bd (rowS key bs k) (bs.getD k 0)
      have hb2 : mixS (rowS key bs k) (bs.getD k 0) = rotS (mixM (rowS key bs k) (bs.getD k 0)) 23 := rfl
      have hb3 : mixM (rowS key bs k) (bs.getD k 0) = IntKind.u64.wrap (bits BinOp.xor IntKind.u64 (rowS key bs k) (bs.getD k 0) * 1099511628211) := rfl
      rw [hb2] at hs
      obtain ⟨M, hM⟩ : ∃ M, mixM (rowS key bs k) (bs.getD k 0) = M := ⟨_, rfl⟩
      rw [hM] at hb1 hb3 hs
      clear hb2 hM
      obtain ⟨y, hy0⟩ : ∃ y, bs.getD k 0 = y := ⟨_, rfl⟩
      rw [hy0] at c1 hy hb3
      obtain ⟨H, hH⟩ : ∃ H, rowS key bs k = H := ⟨_, rfl⟩
      rw [hH] at hb3 hh
      rw [hH]
      clear hy0 hcell hH
      obtain ⟨hy1, hy2⟩ := hy
      obtain ⟨hb11, hb12⟩ := hb1
      obtain ⟨hh1, hh2⟩ := hh
      have S := Lib.hid hs; clear hs
      have M3 := hb3.symm
      clear hb3
      go_wp2_with (go_at_call 80; refine (rot_any _ _ _ (by omega) (by omega)).mono ?_; rintro e w' ⟨rfl, rfl⟩)
      go_round
      case rel => exact ⟨k + 1, by omega, by go_num, by rw [S.out]⟩
      case measure => simp [intOf]; omega
    · obtain rfl : k = n := by omega
      have F2 := F.out
      obtain ⟨H, hH⟩ : ∃ H, rowS key bs k = H := ⟨_, rfl⟩
      rw [hH] at hh F2 ⊢
      obtain ⟨hh1, hh2⟩ := hh
      have F3 := Lib.hid F2
      clear hH F2
      go_wp2_with (go_at_call 81; refine (end_any _ _ (by omega) (by omega)).mono ?_; rintro e w' ⟨rfl, rfl⟩)
      go_ret
      exact ⟨ret_int (by rw [F3.out]), rfl⟩
end
end Go.Proofs.Ytehdilgnlhhjdaa
