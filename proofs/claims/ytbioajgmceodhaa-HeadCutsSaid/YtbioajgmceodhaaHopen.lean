/-
  A head as it is drawn, that came in by value: what its cells are.
-/
import Derived.Test.YtbioajgmceodhaaHkc
import Derived.Test.YtbioajgmceodhaaOpenRow
namespace Go.Proofs.Ytbioajgmceodhaa
open Go.RowKit Go.ChangeShapes Go.WideShapes Go.Deep
set_option linter.unusedVariables false
structure XIn (w : World) (S T F W : Int) (A : Option Addr) (n c : Nat) (bs : List Int) : Prop where
  sa : -9223372036854775808 ≤ S ∧ S ≤ 9223372036854775807
  ta : -9223372036854775808 ≤ T ∧ T ≤ 9223372036854775807
  fa : -9223372036854775808 ≤ F ∧ F ≤ 9223372036854775807
  wa : -9223372036854775808 ≤ W ∧ W ≤ 9223372036854775807
  row : InRow w A n c bs
section
variable {H : Type} {enc : TypeId × Value → H} {w : World}
theorem xh_of_trod {fuel : Nat} {cs : List Value} {x : DataW H × List MemPlace} (h : DataW.trod enc Try.prog w 0 (fun _ => true) true fuel 24 cs = some x) (hl6 : cs.length = 6) :
    ∃ S T F W A n c bs ph, cs = xL S T F W ⟨A, n, c⟩ ph ∧ XIn w S T F W A n c bs := by
  have c3 : Try.prog.cellsOf 3 = 1 := by kernel_rfl
  have c23 : Try.prog.cellsOf 22 = 1 := by kernel_rfl
  have c5 : Try.prog.cellsOf 5 = 1 := by kernel_rfl
  have c4 : Try.prog.cellsOf 4 = 1 := by kernel_rfl
  obtain ⟨ys, n', _, _, hlen, hyl, hf⟩ := DataW.trod_struct Try.underlying24 h
  match cs, hl6 with
  | [u0, u1, u2, u3, u4, u5], _ =>
    match ys, hyl with
    | [y0, y1, y2, y3, y4, y5], _ =>
      have h0 : DataW.trod enc Try.prog w 0 (fun _ => true) true n' 3 (([u0, u1, u2, u3, u4, u5].drop 0).take (Try.prog.cellsOf 3)) = some y0 := hf 0 _ rfl
      have h1 : DataW.trod enc Try.prog w 0 (fun _ => true) true n' 3 (([u0, u1, u2, u3, u4, u5].drop 1).take (Try.prog.cellsOf 3)) = some y1 := hf 1 _ rfl
      have h2 : DataW.trod enc Try.prog w 0 (fun _ => true) true n' 3 (([u0, u1, u2, u3, u4, u5].drop 2).take (Try.prog.cellsOf 3)) = some y2 := hf 2 _ rfl
      have h3 : DataW.trod enc Try.prog w 0 (fun _ => true) true n' 3 (([u0, u1, u2, u3, u4, u5].drop 3).take (Try.prog.cellsOf 3)) = some y3 := hf 3 _ rfl
      have h4 : DataW.trod enc Try.prog w 0 (fun _ => true) true n' 22 (([u0, u1, u2, u3, u4, u5].drop 4).take (Try.prog.cellsOf 22)) = some y4 := hf 4 _ rfl
      have h5 : DataW.trod enc Try.prog w 0 (fun _ => true) true n' 4 (([u0, u1, u2, u3, u4, u5].drop 5).take (Try.prog.cellsOf 4)) = some y5 := hf 5 _ rfl
      rw [c3] at h0 h1 h2 h3
      rw [c23] at h4
      rw [c4] at h5
      obtain ⟨k0, e0, _, w0⟩ := DataW.trod_int Try.underlying3 h0
      obtain ⟨k1, e1, _, w1⟩ := DataW.trod_int Try.underlying3 h1
      obtain ⟨k2, e2, _, w2⟩ := DataW.trod_int Try.underlying3 h2
      obtain ⟨k3, e3, _, w3⟩ := DataW.trod_int Try.underlying3 h3
      obtain ⟨A, l, c, bs, e4, hr⟩ := inRow_of_trod Try.underlying22 Try.underlying5 c5 h4
      obtain ⟨b, e5, _⟩ := DataW.trod_bool Try.underlying4 h5
      obtain rfl : u0 = .int .i64 k0 := by simpa using e0
      obtain rfl : u1 = .int .i64 k1 := by simpa using e1
      obtain rfl : u2 = .int .i64 k2 := by simpa using e2
      obtain rfl : u3 = .int .i64 k3 := by simpa using e3
      obtain rfl : u4 = .slice A l c := by simpa using e4
      obtain rfl : u5 = .bool b := by simpa using e5
      exact ⟨k0, k1, k2, k3, A, l, c, bs, b, rfl, bounds_i64 w0, bounds_i64 w1, bounds_i64 w2, bounds_i64 w3, hr⟩
end
end Go.Proofs.Ytbioajgmceodhaa
