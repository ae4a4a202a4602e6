/-
  The head of Data that is drawn.
-/
import Derived.Test.YtehdilgnlhhjdaaMq14
import Derived.Test.YtehdilgnlhhjdaaMq0
import Derived.Lib.AppendZerosOnto
import Derived.Test.YtehdilgnlhhjdaaMq5
import Derived.Laws.IdiomCopy
import Derived.Test.YtehdilgnlhhjdaaMq1
import Derived.Test.YtehdilgnlhhjdaaMq8
namespace Go.Proofs.Ytehdilgnlhhjdaa
section
set_option linter.unusedVariables false
set_option linter.unusedSimpArgs false
open Go.RowKit
end
section
set_option linter.unusedVariables false
open Go.RowKit
end
section
set_option linter.unusedVariables false
set_option linter.unusedSimpArgs false
open Go.RowKit
end
section
open Go.RowKit Go.ChangeShapes Go.WideShapes Go.Deep
set_option linter.unusedVariables false
structure XIn (w : World) (S T F W : Int) (A : Option Addr) (n c : Nat) (bs : List Int) : Prop where
  sa : -9223372036854775808 ≤ S ∧ S ≤ 9223372036854775807
  ta : -9223372036854775808 ≤ T ∧ T ≤ 9223372036854775807
  fa : -9223372036854775808 ≤ F ∧ F ≤ 9223372036854775807
  wa : -9223372036854775808 ≤ W ∧ W ≤ 9223372036854775807
  row : InRow w A n c bs
section
variable {H : Type} {enc : TypeId × Value → H} {w : World}
set_option maxRecDepth 100000 in
theorem xh_of_trod {fuel : Nat} {cs : List Value} {x : DataW H × List MemPlace} (h : DataW.trod enc Try.prog w 0 (fun _ => true) true fuel 39 cs = some x) (hl6 : cs.length = 6) :
    ∃ S T F W A n c bs ph, cs = xL S T F W ⟨A, n, c⟩ ph ∧ XIn w S T F W A n c bs := by
  have c3 : Try.prog.cellsOf 3 = 1 := by kernel_rfl
  have c23 : Try.prog.cellsOf 28 = 1 := by kernel_rfl
  have c5 : Try.prog.cellsOf 5 = 1 := by kernel_rfl
  have c4 : Try.prog.cellsOf 4 = 1 := by kernel_rfl
  obtain ⟨ys, n', _, _, hlen, hyl, hf⟩ := DataW.trod_struct Try.underlying39 h
  match cs, hl6 with
  | [u0, u1, u2, u3, u4, u5], _ =>
    match ys, hyl with
    | [y0, y1, y2, y3, y4, y5], _ =>
      have h0 : DataW.trod enc Try.prog w 0 (fun _ => true) true n' 3 (([u0, u1, u2, u3, u4, u5].drop 0).take (Try.prog.cellsOf 3)) = some y0 := hf 0 _ rfl
      have h1 : DataW.trod enc Try.prog w 0 (fun _ => true) true n' 3 (([u0, u1, u2, u3, u4, u5].drop 1).take (Try.prog.cellsOf 3)) = some y1 := hf 1 _ rfl
      have h2 : DataW.trod enc Try.prog w 0 (fun _ => true) true n' 3 (([u0, u1, u2, u3, u4, u5].drop 2).take (Try.prog.cellsOf 3)) = some y2 := hf 2 _ rfl
      have h3 : DataW.trod enc Try.prog w 0 (fun _ => true) true n' 3 (([u0, u1, u2, u3, u4, u5].drop 3).take (Try.prog.cellsOf 3)) = some y3 := hf 3 _ rfl
      have h4 : DataW.trod enc Try.prog w 0 (fun _ => true) true n' 28 (([u0, u1, u2, u3, u4, u5].drop 4).take (Try.prog.cellsOf 28)) = some y4 := hf 4 _ rfl
      have h5 : DataW.trod enc Try.prog w 0 (fun _ => true) true n' 4 (([u0, u1, u2, u3, u4, u5].drop 5).take (Try.prog.cellsOf 4)) = some y5 := hf 5 _ rfl
      rw [c3] at h0 h1 h2 h3
      rw [c23] at h4
      rw [c4] at h5
      obtain ⟨k0, e0, _, w0⟩ := DataW.trod_int Try.underlying3 h0
      obtain ⟨k1, e1, _, w1⟩ := DataW.trod_int Try.underlying3 h1
      obtain ⟨k2, e2, _, w2⟩ := DataW.trod_int Try.underlying3 h2
      obtain ⟨k3, e3, _, w3⟩ := DataW.trod_int Try.underlying3 h3
      obtain ⟨A, l, c, bs, e4, hr⟩ := inRow_of_trod Try.underlying28 Try.underlying5 c5 h4
      obtain ⟨b, e5, _⟩ := DataW.trod_bool Try.underlying4 h5
      obtain rfl : u0 = .int .i64 k0 := by simpa using e0
      obtain rfl : u1 = .int .i64 k1 := by simpa using e1
      obtain rfl : u2 = .int .i64 k2 := by simpa using e2
      obtain rfl : u3 = .int .i64 k3 := by simpa using e3
      obtain rfl : u4 = .slice A l c := by simpa using e4
      obtain rfl : u5 = .bool b := by simpa using e5
      exact ⟨k0, k1, k2, k3, A, l, c, bs, b, rfl, bounds_i64 w0, bounds_i64 w1, bounds_i64 w2, bounds_i64 w3, hr⟩
end
structure HdIn (w : World) (m : HN) (A : Option Addr) (n c : Nat) (bs : List Int) : Prop where
  wf : m.wf
  row : InRow w A n c bs
section
variable {H : Type} {enc : TypeId × Value → H} {w : World}
set_option maxRecDepth 100000 in
theorem hd_of_trod {fuel : Nat} {cs : List Value} {x : DataW H × List MemPlace} (h : DataW.trod enc Try.prog w 0 (fun _ => true) true fuel 30 cs = some x) (hl : cs.length = 20) :
    ∃ m A n c bs, cs = hdL m ⟨A, n, c⟩ ∧ HdIn w m A n c bs := by
  have c3 : Try.prog.cellsOf 3 = 1 := by kernel_rfl
  have c23 : Try.prog.cellsOf 28 = 1 := by kernel_rfl
  have c5 : Try.prog.cellsOf 5 = 1 := by kernel_rfl
  have c4 : Try.prog.cellsOf 4 = 1 := by kernel_rfl
  have c8 : Try.prog.cellsOf 27 = 8 := by kernel_rfl
  obtain ⟨ys, n', _, _, hlen, hyl, hf⟩ := DataW.trod_struct Try.underlying30 h
  match cs, hl with
  | [u0, a0, a1, a2, a3, a4, a5, a6, a7, f0, f1, f2, f3, f4, f5, f6, f7, u3, u4, u5], _ =>
    match ys, hyl with
    | [y0, y1, y2, y3, y4, y5], _ =>
      have h0 : DataW.trod enc Try.prog w 0 (fun _ => true) true n' 3 (([u0, a0, a1, a2, a3, a4, a5, a6, a7, f0, f1, f2, f3, f4, f5, f6, f7, u3, u4, u5].drop 0).take (Try.prog.cellsOf 3)) = some y0 := hf 0 _ rfl
      have h1 : DataW.trod enc Try.prog w 0 (fun _ => true) true n' 27 (([u0, a0, a1, a2, a3, a4, a5, a6, a7, f0, f1, f2, f3, f4, f5, f6, f7, u3, u4, u5].drop 1).take (Try.prog.cellsOf 27)) = some y1 := hf 1 _ rfl
      have h2 : DataW.trod enc Try.prog w 0 (fun _ => true) true n' 27 (([u0, a0, a1, a2, a3, a4, a5, a6, a7, f0, f1, f2, f3, f4, f5, f6, f7, u3, u4, u5].drop 9).take (Try.prog.cellsOf 27)) = some y2 := hf 2 _ rfl
      have h3 : DataW.trod enc Try.prog w 0 (fun _ => true) true n' 28 (([u0, a0, a1, a2, a3, a4, a5, a6, a7, f0, f1, f2, f3, f4, f5, f6, f7, u3, u4, u5].drop 17).take (Try.prog.cellsOf 28)) = some y3 := hf 3 _ rfl
      have h4 : DataW.trod enc Try.prog w 0 (fun _ => true) true n' 3 (([u0, a0, a1, a2, a3, a4, a5, a6, a7, f0, f1, f2, f3, f4, f5, f6, f7, u3, u4, u5].drop 18).take (Try.prog.cellsOf 3)) = some y4 := hf 4 _ rfl
      have h5 : DataW.trod enc Try.prog w 0 (fun _ => true) true n' 4 (([u0, a0, a1, a2, a3, a4, a5, a6, a7, f0, f1, f2, f3, f4, f5, f6, f7, u3, u4, u5].drop 19).take (Try.prog.cellsOf 4)) = some y5 := hf 5 _ rfl
      rw [c3] at h0 h4
      rw [c8] at h1 h2
      rw [c23] at h3
      rw [c4] at h5
      obtain ⟨k0, e0, _, w0⟩ := DataW.trod_int Try.underlying3 h0
      obtain ⟨t, e1, bt⟩ := cid_of_trod h1 rfl
      obtain ⟨f, e2, bf⟩ := cid_of_trod h2 rfl
      obtain ⟨A, l, c, bs, e3, hr⟩ := inRow_of_trod Try.underlying28 Try.underlying5 c5 h3
      obtain ⟨k4, e4, _, w4⟩ := DataW.trod_int Try.underlying3 h4
      obtain ⟨b, e5, _⟩ := DataW.trod_bool Try.underlying4 h5
      obtain rfl : u0 = .int .i64 k0 := by simpa using e0
      obtain rfl : u3 = .slice A l c := by simpa using e3
      obtain rfl : u4 = .int .i64 k4 := by simpa using e4
      obtain rfl : u5 = .bool b := by simpa using e5
      have e1' : [a0, a1, a2, a3, a4, a5, a6, a7] = t.l.map (Value.int .u8) := e1
      have e2' : [f0, f1, f2, f3, f4, f5, f6, f7] = f.l.map (Value.int .u8) := e2
      simp only [N8.l, List.map_cons, List.map_nil, List.cons.injEq] at e1' e2'
      obtain ⟨rfl, rfl, rfl, rfl, rfl, rfl, rfl, rfl, _⟩ := e1'
      obtain ⟨rfl, rfl, rfl, rfl, rfl, rfl, rfl, rfl, _⟩ := e2'
      have q0 := bounds_i64 w0
      have q4 := bounds_i64 w4
      exact ⟨⟨k0, t, f, k4, b⟩, A, l, c, bs, rfl, ⟨q0.1, q0.2, q4.1, q4.2, bt, bf⟩, hr⟩
end
end
end Go.Proofs.Ytehdilgnlhhjdaa
