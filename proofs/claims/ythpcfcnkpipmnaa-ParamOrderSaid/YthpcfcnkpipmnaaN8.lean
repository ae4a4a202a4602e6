/-
  Eight bytes as a value: names; the store and load of some cells within a block.
-/
import Derived.Test.YthpcfcnkpipmnaaProg
import Derived.Test.YthpcfcnkpipmnaaStru
import Derived.Test.YthpcfcnkpipmnaaSl
import Derived.Test.YthpcfcnkpipmnaaStrs
import Derived.Test.YthpcfcnkpipmnaaInts
import Derived.Test.YthpcfcnkpipmnaaOpenRow
import Derived.Deep.QuietTactic
import Derived.BigQuiet
import Derived.Deep.RegionHeld3
import Derived.WalkSpells
namespace Go.Proofs.Ythpcfcnkpipmnaa
set_option linter.unusedVariables false
open Go.RowKit Go.ChangeShapes Go.WideShapes Go.Deep
/-- Eight bytes. -/
structure N8 where
  a0 : Int
  a1 : Int
  a2 : Int
  a3 : Int
  a4 : Int
  a5 : Int
  a6 : Int
  a7 : Int
def N8.l (m : N8) : List Int := [m.a0, m.a1, m.a2, m.a3, m.a4, m.a5, m.a6, m.a7]
def N8.zero : N8 := ⟨0, 0, 0, 0, 0, 0, 0, 0⟩
def N8.of (l : List Int) : N8 := ⟨l.getD 0 0, l.getD 1 0, l.getD 2 0, l.getD 3 0, l.getD 4 0, l.getD 5 0, l.getD 6 0, l.getD 7 0⟩
def N8.v (m : N8) : Value := .agg #[.int .u8 m.a0, .int .u8 m.a1, .int .u8 m.a2, .int .u8 m.a3, .int .u8 m.a4, .int .u8 m.a5, .int .u8 m.a6, .int .u8 m.a7]
theorem N8.ext_ {x y : N8} (h : x.l = y.l) : x = y := by
  obtain ⟨a, b, c, d, e, f, g, i⟩ := x
  obtain ⟨a', b', c', d', e', f', g', i'⟩ := y
  simp only [N8.l, List.cons.injEq] at h
  obtain ⟨rfl, rfl, rfl, rfl, rfl, rfl, rfl, rfl, _⟩ := h
  rfl
theorem N8.of_l (m : N8) : N8.of m.l = m := rfl
theorem N8.l_of (l : List Int) (h : l.length = 8) : (N8.of l).l = l := by
  match l, h with
  | [a, b, c, d, e, f, g, i], _ => rfl
def n8B (m m' : N8) : Bool := m.a0 == m'.a0 && (m.a1 == m'.a1 && (m.a2 == m'.a2 && (m.a3 == m'.a3 && (m.a4 == m'.a4 && (m.a5 == m'.a5 && (m.a6 == m'.a6 && m.a7 == m'.a7))))))
theorem n8B_eq (m m' : N8) : n8B m m' = true ↔ m = m' := by
  obtain ⟨a, b, c, d, e, f, g, i⟩ := m
  obtain ⟨a', b', c', d', e', f', g', i'⟩ := m'
  simp [n8B]
theorem n8B_refl (m : N8) : n8B m m = true := (n8B_eq m m).2 rfl
theorem run_n8 (W : World) (m m' : N8) : (Op.equalIn 10000 24 m.v m'.v).run Try.prog W = .ok (n8B m m') W := by
  have hp : Try.prog.plainKey 5 = true := by kernel_rfl
  have hu : Try.prog.underlying 5 = some (.int .u8) := Try.underlying5
  have hc : Try.prog.cellsOf 5 = 1 := by kernel_rfl
  obtain ⟨i, hi⟩ : ∃ i, Try.prog.info? 5 = some i := by
    cases h : Try.prog.info? 5 with
    | some i => exact ⟨i, rfl⟩
    | none => exact absurd (show (Try.prog.info? 5).isSome = true by kernel_rfl) (by rw [h]; simp)
  unfold N8.v
  rw [show (10000 : Nat) = 9999 + 1 from rfl, run_equalIn_array W 9999 _ _ (n := 8) Try.underlying24 hi, hc, show (9999 : Nat) = 9998 + 1 from rfl]
  rw [show List.range 8 = [0, 1, 2, 3, 4, 5, 6, 7] from rfl]
  unfold n8B
  rw [step_items W _ .u8 hp hu 9998 1 _ _ 0 _ m.a0 m'.a0 rfl rfl]
  cases (m.a0 == m'.a0) <;> simp only [Bool.false_and, Bool.true_and, if_true, Bool.false_eq_true, if_false]
  rw [step_items W _ .u8 hp hu 9998 1 _ _ 1 _ m.a1 m'.a1 rfl rfl]
  cases (m.a1 == m'.a1) <;> simp only [Bool.false_and, Bool.true_and, if_true, Bool.false_eq_true, if_false]
  rw [step_items W _ .u8 hp hu 9998 1 _ _ 2 _ m.a2 m'.a2 rfl rfl]
  cases (m.a2 == m'.a2) <;> simp only [Bool.false_and, Bool.true_and, if_true, Bool.false_eq_true, if_false]
  rw [step_items W _ .u8 hp hu 9998 1 _ _ 3 _ m.a3 m'.a3 rfl rfl]
  cases (m.a3 == m'.a3) <;> simp only [Bool.false_and, Bool.true_and, if_true, Bool.false_eq_true, if_false]
  rw [step_items W _ .u8 hp hu 9998 1 _ _ 4 _ m.a4 m'.a4 rfl rfl]
  cases (m.a4 == m'.a4) <;> simp only [Bool.false_and, Bool.true_and, if_true, Bool.false_eq_true, if_false]
  rw [step_items W _ .u8 hp hu 9998 1 _ _ 5 _ m.a5 m'.a5 rfl rfl]
  cases (m.a5 == m'.a5) <;> simp only [Bool.false_and, Bool.true_and, if_true, Bool.false_eq_true, if_false]
  rw [step_items W _ .u8 hp hu 9998 1 _ _ 6 _ m.a6 m'.a6 rfl rfl]
  cases (m.a6 == m'.a6) <;> simp only [Bool.false_and, Bool.true_and, if_true, Bool.false_eq_true, if_false]
  rw [step_items W _ .u8 hp hu 9998 1 _ _ 7 _ m.a7 m'.a7 rfl rfl]
  cases (m.a7 == m'.a7) <;> simp [Op.eqItems]
instance : DecidableEq N8 := fun x y => if h : x.l = y.l then isTrue (N8.ext_ h) else isFalse (fun e => h (by rw [e]))
theorem N8.v_l (m : N8) : m.v = .agg (m.l.map (Value.int .u8)).toArray := rfl
section
variable {P : Program} {ops : Array Oper} {rest : List Oper} {a : Act} {w : World} {Q : Exit → Act → World → Prop} {dst : Option Tmp} {x y : Operand} {ty t : TypeId} {pos : String} {after : Array Edge}
/-- The store of some cells within a block. -/
theorem wpList_store_sub (p o : Nat) (T : TypeId) (l l' vs : List Value) (hx : a.eval x = .pointer (some ⟨p, o, none⟩)) (hy : a.eval y = .agg vs.toArray) (hA : At w p T l) (hl : o + vs.length ≤ l.length)
    (hi : (P.info? ty).map (·.size) = some vs.length) (h1 : vs.all (·.oneCell') = true) (hres : setFrom l o vs = l') (h : ∀ w', At w' p T l' → Kept (· = p) w w' → wpList P ops Q rest (a.put dst undef) w') :
    wpList P ops Q (⟨dst, .store ty x y, t, pos, after, none⟩ :: rest) a w := by
  refine wpList_store_mid rfl ty x y rfl p o vs.toArray hx hy (fun j hj => ?_) (by simpa using hi) (by simpa using h1) ?_
  · simp at hj
    rw [hA.cell, hA.frozen]
    simp
    omega
  · have := At.setFrom vs l o w hA
    rw [hres] at this
    exact h _ (by simpa using this) (by simpa using Kept.setCells (S := (· = p)) rfl vs o w (Kept.refl _ _))
end
section
variable {P : Program} {ops : Array Oper} {rest : List Oper} {a : Act} {w : World} {Q : Exit → Act → World → Prop} {dst : Option Tmp} {x y : Operand} {ty t : TypeId} {pos : String} {after : Array Edge}
theorem wpList_load_off (p off : Nat) (l : List Value) (d : TypeDesc) (hx : a.eval x = .pointer (some ⟨p, off, none⟩)) (hA : w.rangeAt p off l) (hu : P.underlying ty = some d) (hd : d.isRow = true)
    (hi : (P.info? ty).map (·.size) = some l.length) (h : wpList P ops Q rest (a.put dst (.agg l.toArray)) w) : wpList P ops Q (⟨dst, .load ty x, t, pos, after, none⟩ :: rest) a w :=
  wpList_load_mid rfl ty x rfl p off hx l d hA hu hd hi h
end
section
variable {H : Type} {enc : TypeId × Value → H} {w : World}
theorem cid_of_trod {fuel : Nat} {cs : List Value} {x : DataW H × List MemPlace} (h : DataW.trod enc Try.prog w 0 (fun _ => true) true fuel 24 cs = some x) (hl : cs.length = 8) :
    ∃ v : N8, cs = v.l.map (Value.int .u8) ∧ Byt v.l := by
  have c5 : Try.prog.cellsOf 5 = 1 := by kernel_rfl
  obtain ⟨xs, m, _, _, _, hxl, hf⟩ := DataW.trod_array Try.underlying24 h
  rw [c5] at hf
  match cs, hl with
  | [u0, u1, u2, u3, u4, u5, u6, u7], _ =>
    match xs, hxl with
    | [x0, x1, x2, x3, x4, x5, x6, x7], _ =>
      have h0 : DataW.trod enc Try.prog w 0 (fun _ => true) true m 5 [u0] = some x0 := hf 0 (by decide)
      have h1 : DataW.trod enc Try.prog w 0 (fun _ => true) true m 5 [u1] = some x1 := hf 1 (by decide)
      have h2 : DataW.trod enc Try.prog w 0 (fun _ => true) true m 5 [u2] = some x2 := hf 2 (by decide)
      have h3 : DataW.trod enc Try.prog w 0 (fun _ => true) true m 5 [u3] = some x3 := hf 3 (by decide)
      have h4 : DataW.trod enc Try.prog w 0 (fun _ => true) true m 5 [u4] = some x4 := hf 4 (by decide)
      have h5 : DataW.trod enc Try.prog w 0 (fun _ => true) true m 5 [u5] = some x5 := hf 5 (by decide)
      have h6 : DataW.trod enc Try.prog w 0 (fun _ => true) true m 5 [u6] = some x6 := hf 6 (by decide)
      have h7 : DataW.trod enc Try.prog w 0 (fun _ => true) true m 5 [u7] = some x7 := hf 7 (by decide)
      obtain ⟨k0, e0, _, w0⟩ := DataW.trod_int Try.underlying5 h0
      obtain ⟨k1, e1, _, w1⟩ := DataW.trod_int Try.underlying5 h1
      obtain ⟨k2, e2, _, w2⟩ := DataW.trod_int Try.underlying5 h2
      obtain ⟨k3, e3, _, w3⟩ := DataW.trod_int Try.underlying5 h3
      obtain ⟨k4, e4, _, w4⟩ := DataW.trod_int Try.underlying5 h4
      obtain ⟨k5, e5, _, w5⟩ := DataW.trod_int Try.underlying5 h5
      obtain ⟨k6, e6, _, w6⟩ := DataW.trod_int Try.underlying5 h6
      obtain ⟨k7, e7, _, w7⟩ := DataW.trod_int Try.underlying5 h7
      obtain rfl : u0 = .int .u8 k0 := by simpa using e0
      obtain rfl : u1 = .int .u8 k1 := by simpa using e1
      obtain rfl : u2 = .int .u8 k2 := by simpa using e2
      obtain rfl : u3 = .int .u8 k3 := by simpa using e3
      obtain rfl : u4 = .int .u8 k4 := by simpa using e4
      obtain rfl : u5 = .int .u8 k5 := by simpa using e5
      obtain rfl : u6 = .int .u8 k6 := by simpa using e6
      obtain rfl : u7 = .int .u8 k7 := by simpa using e7
      refine ⟨⟨k0, k1, k2, k3, k4, k5, k6, k7⟩, rfl, ?_⟩
      have b0 := bounds_u8 w0
      have b1 := bounds_u8 w1
      have b2 := bounds_u8 w2
      have b3 := bounds_u8 w3
      have b4 := bounds_u8 w4
      have b5 := bounds_u8 w5
      have b6 := bounds_u8 w6
      have b7 := bounds_u8 w7
      intro y hy
      simp only [N8.l, List.mem_cons, List.not_mem_nil, or_false] at hy
      rcases hy with rfl | rfl | rfl | rfl | rfl | rfl | rfl | rfl <;> omega
end
end Go.Proofs.Ythpcfcnkpipmnaa
