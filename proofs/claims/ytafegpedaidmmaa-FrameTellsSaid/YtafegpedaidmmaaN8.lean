/-
  Eight bytes as a value: names; the store and load of some cells within a block.
-/
import Derived.Test.YtafegpedaidmmaaProg
import Derived.Test.YtafegpedaidmmaaMc
import Derived.Test.YtafegpedaidmmaaMa
import Derived.Test.YtafegpedaidmmaaMb
import Derived.Deep.QuietTactic
import Derived.BigQuiet
import Derived.Deep.RegionHeld3
import Derived.WalkSpells
namespace Go.Proofs.Ytafegpedaidmmaa
set_option linter.unusedVariables false
open Go.RowKit Go.ChangeShapes Go.WideShapes Go.Deep
/-- Eight bytes. -/
structure N8 where
  a0 : Int
  a1 : Int
  a2 : Int
  a3 : Int
  a4 : Int
  a5 : Int
  a6 : Int
  a7 : Int
def N8.l (m : N8) : List Int := [m.a0, m.a1, m.a2, m.a3, m.a4, m.a5, m.a6, m.a7]
def N8.zero : N8 := ⟨0, 0, 0, 0, 0, 0, 0, 0⟩
theorem N8.ext_ {x y : N8} (h : x.l = y.l) : x = y := by
  obtain ⟨a, b, c, d, e, f, g, i⟩ := x
  obtain ⟨a', b', c', d', e', f', g', i'⟩ := y
  simp only [N8.l, List.cons.injEq] at h
  obtain ⟨rfl, rfl, rfl, rfl, rfl, rfl, rfl, rfl, _⟩ := h
  rfl
instance : DecidableEq N8 := fun x y => if h : x.l = y.l then isTrue (N8.ext_ h) else isFalse (fun e => h (by rw [e]))
section
variable {P : Program} {ops : Array Oper} {rest : List Oper} {a : Act} {w : World} {Q : Exit → Act → World → Prop} {dst : Option Tmp} {x y : Operand} {ty t : TypeId} {pos : String} {after : Array Edge}
end
section
variable {P : Program} {ops : Array Oper} {rest : List Oper} {a : Act} {w : World} {Q : Exit → Act → World → Prop} {dst : Option Tmp} {x y : Operand} {ty t : TypeId} {pos : String} {after : Array Edge}
end
section
variable {H : Type} {enc : TypeId × Value → H} {w : World}
theorem cid_of_trod {fuel : Nat} {cs : List Value} {x : DataW H × List MemPlace} (h : DataW.trod enc Try.prog w 0 (fun _ => true) true fuel 29 cs = some x) (hl : cs.length = 8) :
    ∃ v : N8, cs = v.l.map (Value.int .u8) ∧ Byt v.l := by
  have c5 : Try.prog.cellsOf 5 = 1 := by kernel_rfl
  obtain ⟨xs, m, _, _, _, hxl, hf⟩ := DataW.trod_array Try.underlying29 h
  rw [c5] at hf
  match cs, hl with
  | [u0, u1, u2, u3, u4, u5, u6, u7], _ =>
    match xs, hxl with
    | [x0, x1, x2, x3, x4, x5, x6, x7], _ =>
      have h0 : DataW.trod enc Try.prog w 0 (fun _ => true) true m 5 [u0] = some x0 := hf 0 (by decide)
      have h1 : DataW.trod enc Try.prog w 0 (fun _ => true) true m 5 [u1] = some x1 := hf 1 (by decide)
      have h2 : DataW.trod enc Try.prog w 0 (fun _ => true) true m 5 [u2] = some x2 := hf 2 (by decide)
      have h3 : DataW.trod enc Try.prog w 0 (fun _ => true) true m 5 [u3] = some x3 := hf 3 (by decide)
      have h4 : DataW.trod enc Try.prog w 0 (fun _ => true) true m 5 [u4] = some x4 := hf 4 (by decide)
      have h5 : DataW.trod enc Try.prog w 0 (fun _ => true) true m 5 [u5] = some x5 := hf 5 (by decide)
      have h6 : DataW.trod enc Try.prog w 0 (fun _ => true) true m 5 [u6] = some x6 := hf 6 (by decide)
      have h7 : DataW.trod enc Try.prog w 0 (fun _ => true) true m 5 [u7] = some x7 := hf 7 (by decide)
      obtain ⟨k0, e0, _, w0⟩ := DataW.trod_int Try.underlying5 h0
      obtain ⟨k1, e1, _, w1⟩ := DataW.trod_int Try.underlying5 h1
      obtain ⟨k2, e2, _, w2⟩ := DataW.trod_int Try.underlying5 h2
      obtain ⟨k3, e3, _, w3⟩ := DataW.trod_int Try.underlying5 h3
      obtain ⟨k4, e4, _, w4⟩ := DataW.trod_int Try.underlying5 h4
      obtain ⟨k5, e5, _, w5⟩ := DataW.trod_int Try.underlying5 h5
      obtain ⟨k6, e6, _, w6⟩ := DataW.trod_int Try.underlying5 h6
      obtain ⟨k7, e7, _, w7⟩ := DataW.trod_int Try.underlying5 h7
      obtain rfl : u0 = .int .u8 k0 := by simpa using e0
      obtain rfl : u1 = .int .u8 k1 := by simpa using e1
      obtain rfl : u2 = .int .u8 k2 := by simpa using e2
      obtain rfl : u3 = .int .u8 k3 := by simpa using e3
      obtain rfl : u4 = .int .u8 k4 := by simpa using e4
      obtain rfl : u5 = .int .u8 k5 := by simpa using e5
      obtain rfl : u6 = .int .u8 k6 := by simpa using e6
      obtain rfl : u7 = .int .u8 k7 := by simpa using e7
      refine ⟨⟨k0, k1, k2, k3, k4, k5, k6, k7⟩, rfl, ?_⟩
      have b0 := bounds_u8 w0
      have b1 := bounds_u8 w1
      have b2 := bounds_u8 w2
      have b3 := bounds_u8 w3
      have b4 := bounds_u8 w4
      have b5 := bounds_u8 w5
      have b6 := bounds_u8 w6
      have b7 := bounds_u8 w7
      intro y hy
      simp only [N8.l, List.mem_cons, List.not_mem_nil, or_false] at hy
      rcases hy with rfl | rfl | rfl | rfl | rfl | rfl | rfl | rfl <;> omega
end
end Go.Proofs.Ytafegpedaidmmaa
