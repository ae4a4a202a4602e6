/-
  Heads of packets as values: a head's numbers, its token's place, the value that they make.
-/
import Derived.Test.YtbioajgmceodhaaProg
import Derived.Test.YtbioajgmceodhaaStru
import Derived.Test.YtbioajgmceodhaaSl
import Derived.Test.YtbioajgmceodhaaStrs
import Derived.Test.YtbioajgmceodhaaInts
import Derived.Deep.QuietTactic
import Derived.BigQuiet
import Derived.Deep.RegionHeld3
import Derived.WalkSpells
namespace Go.Proofs.Ytbioajgmceodhaa
set_option linter.unusedVariables false
open Go.RowKit
/-- Eight bytes. -/
structure N8 where
  a0 : Int
  a1 : Int
  a2 : Int
  a3 : Int
  a4 : Int
  a5 : Int
  a6 : Int
  a7 : Int
def N8.l (m : N8) : List Int := [m.a0, m.a1, m.a2, m.a3, m.a4, m.a5, m.a6, m.a7]
def N8.zero : N8 := ⟨0, 0, 0, 0, 0, 0, 0, 0⟩
def N8.of (l : List Int) : N8 := ⟨l.getD 0 0, l.getD 1 0, l.getD 2 0, l.getD 3 0, l.getD 4 0, l.getD 5 0, l.getD 6 0, l.getD 7 0⟩
def N8.v (m : N8) : Value := .agg #[.int .u8 m.a0, .int .u8 m.a1, .int .u8 m.a2, .int .u8 m.a3, .int .u8 m.a4, .int .u8 m.a5, .int .u8 m.a6, .int .u8 m.a7]
/-- A head's numbers: space, to, from, width, phase. -/
structure HN where
  s : Int
  t : N8
  f : N8
  w : Int
  ph : Bool
def HN.zero : HN := ⟨0, .zero, .zero, 0, false⟩
def hdL (m : HN) (d : Sl) : List Value := [.int .i64 m.s, .int .u8 m.t.a0, .int .u8 m.t.a1, .int .u8 m.t.a2, .int .u8 m.t.a3, .int .u8 m.t.a4, .int .u8 m.t.a5, .int .u8 m.t.a6, .int .u8 m.t.a7,
  .int .u8 m.f.a0, .int .u8 m.f.a1, .int .u8 m.f.a2, .int .u8 m.f.a3, .int .u8 m.f.a4, .int .u8 m.f.a5, .int .u8 m.f.a6, .int .u8 m.f.a7, .slice d.A d.n d.c, .int .i64 m.w, .bool m.ph]
def hdV (m : HN) (d : Sl) : Value := .agg (hdL m d).toArray
structure HN.wf (m : HN) : Prop where
  s0 : -9223372036854775808 ≤ m.s
  s1 : m.s ≤ 9223372036854775807
  w0 : -9223372036854775808 ≤ m.w
  w1 : m.w ≤ 9223372036854775807
  tb : Byt m.t.l
  fb : Byt m.f.l
theorem hdL_len (m : HN) (d : Sl) : (hdL m d).length = 20 := rfl
theorem N8.ext_ {x y : N8} (h : x.l = y.l) : x = y := by
  obtain ⟨a, b, c, d, e, f, g, i⟩ := x
  obtain ⟨a', b', c', d', e', f', g', i'⟩ := y
  simp only [N8.l, List.cons.injEq] at h
  obtain ⟨rfl, rfl, rfl, rfl, rfl, rfl, rfl, rfl, _⟩ := h
  rfl
theorem N8.of_l (m : N8) : N8.of m.l = m := rfl
theorem N8.l_of (l : List Int) (h : l.length = 8) : (N8.of l).l = l := by
  match l, h with
  | [a, b, c, d, e, f, g, i], _ => rfl
def n8B (m m' : N8) : Bool := m.a0 == m'.a0 && (m.a1 == m'.a1 && (m.a2 == m'.a2 && (m.a3 == m'.a3 && (m.a4 == m'.a4 && (m.a5 == m'.a5 && (m.a6 == m'.a6 && m.a7 == m'.a7))))))
theorem n8B_eq (m m' : N8) : n8B m m' = true ↔ m = m' := by
  obtain ⟨a, b, c, d, e, f, g, i⟩ := m
  obtain ⟨a', b', c', d', e', f', g', i'⟩ := m'
  simp [n8B]
theorem n8B_refl (m : N8) : n8B m m = true := (n8B_eq m m).2 rfl
theorem run_n8 (W : World) (m m' : N8) : (Op.equalIn 10000 26 m.v m'.v).run Try.prog W = .ok (n8B m m') W := by
  have hp : Try.prog.plainKey 5 = true := by kernel_rfl
  have hu : Try.prog.underlying 5 = some (.int .u8) := Try.underlying5
  have hc : Try.prog.cellsOf 5 = 1 := by kernel_rfl
  obtain ⟨i, hi⟩ : ∃ i, Try.prog.info? 5 = some i := by
    cases h : Try.prog.info? 5 with
    | some i => exact ⟨i, rfl⟩
    | none => exact absurd (show (Try.prog.info? 5).isSome = true by kernel_rfl) (by rw [h]; simp)
  unfold N8.v
  rw [show (10000 : Nat) = 9999 + 1 from rfl, run_equalIn_array W 9999 _ _ (n := 8) Try.underlying26 hi, hc, show (9999 : Nat) = 9998 + 1 from rfl]
  rw [show List.range 8 = [0, 1, 2, 3, 4, 5, 6, 7] from rfl]
  unfold n8B
  rw [step_items W _ .u8 hp hu 9998 1 _ _ 0 _ m.a0 m'.a0 rfl rfl]
  cases (m.a0 == m'.a0) <;> simp only [Bool.false_and, Bool.true_and, if_true, Bool.false_eq_true, if_false]
  rw [step_items W _ .u8 hp hu 9998 1 _ _ 1 _ m.a1 m'.a1 rfl rfl]
  cases (m.a1 == m'.a1) <;> simp only [Bool.false_and, Bool.true_and, if_true, Bool.false_eq_true, if_false]
  rw [step_items W _ .u8 hp hu 9998 1 _ _ 2 _ m.a2 m'.a2 rfl rfl]
  cases (m.a2 == m'.a2) <;> simp only [Bool.false_and, Bool.true_and, if_true, Bool.false_eq_true, if_false]
  rw [step_items W _ .u8 hp hu 9998 1 _ _ 3 _ m.a3 m'.a3 rfl rfl]
  cases (m.a3 == m'.a3) <;> simp only [Bool.false_and, Bool.true_and, if_true, Bool.false_eq_true, if_false]
  rw [step_items W _ .u8 hp hu 9998 1 _ _ 4 _ m.a4 m'.a4 rfl rfl]
  cases (m.a4 == m'.a4) <;> simp only [Bool.false_and, Bool.true_and, if_true, Bool.false_eq_true, if_false]
  rw [step_items W _ .u8 hp hu 9998 1 _ _ 5 _ m.a5 m'.a5 rfl rfl]
  cases (m.a5 == m'.a5) <;> simp only [Bool.false_and, Bool.true_and, if_true, Bool.false_eq_true, if_false]
  rw [step_items W _ .u8 hp hu 9998 1 _ _ 6 _ m.a6 m'.a6 rfl rfl]
  cases (m.a6 == m'.a6) <;> simp only [Bool.false_and, Bool.true_and, if_true, Bool.false_eq_true, if_false]
  rw [step_items W _ .u8 hp hu 9998 1 _ _ 7 _ m.a7 m'.a7 rfl rfl]
  cases (m.a7 == m'.a7) <;> simp [Op.eqItems]
/-- A name in a head's block reads as its bytes. -/
theorem to_rd (m : HN) (d : Sl) {w : World} {g : Nat} (h : At w g 28 (hdL m d)) (hc : Byt m.t.l) : Rd w w.heap.size (some ⟨g, 1, none⟩) 8 m.t.l := by
  refine ⟨rfl, hc, fun _ => ⟨g, 1, rfl, h.lt, fun i hi => ?_⟩⟩
  rw [h.cell]
  have : i = 0 ∨ i = 1 ∨ i = 2 ∨ i = 3 ∨ i = 4 ∨ i = 5 ∨ i = 6 ∨ i = 7 := by omega
  rcases this with rfl | rfl | rfl | rfl | rfl | rfl | rfl | rfl <;> rfl
theorem from_rd (m : HN) (d : Sl) {w : World} {g : Nat} (h : At w g 28 (hdL m d)) (hc : Byt m.f.l) : Rd w w.heap.size (some ⟨g, 9, none⟩) 8 m.f.l := by
  refine ⟨rfl, hc, fun _ => ⟨g, 9, rfl, h.lt, fun i hi => ?_⟩⟩
  rw [h.cell]
  have : i = 0 ∨ i = 1 ∨ i = 2 ∨ i = 3 ∨ i = 4 ∨ i = 5 ∨ i = 6 ∨ i = 7 := by omega
  rcases this with rfl | rfl | rfl | rfl | rfl | rfl | rfl | rfl <;> rfl
section
variable {ops : Array Oper} {rest : List Oper} {a : Act} {w : World} {Q : Exit → Act → World → Prop} {dst : Option Tmp} {x y : Operand} {t : TypeId} {pos : String} {after : Array Edge}
theorem ld_hd (p : Nat) (l : List Value) (hx : a.eval x = .pointer (some ⟨p, 0, none⟩)) (hA : At w p 28 l) (hl : l.length = 20)
    (h : wpList Try.prog ops Q rest (a.put dst (.agg l.toArray)) w) : wpList Try.prog ops Q (⟨dst, .load 28 x, t, pos, after, none⟩ :: rest) a w :=
  wpList_load_at p _ l _ hx hA Try.underlying28 rfl (by rw [hl]; kernel_rfl) h
theorem st_hd (p : Nat) (l l' : List Value) (hx : a.eval x = .pointer (some ⟨p, 0, none⟩)) (hy : a.eval y = .agg l'.toArray) (hA : At w p 28 l) (hl : l.length = 20) (hl' : l'.length = 20)
    (h1 : l'.all (·.oneCell') = true) (h : ∀ w', At w' p 28 l' → Kept (· = p) w w' → wpList Try.prog ops Q rest (a.put dst undef) w') :
    wpList Try.prog ops Q (⟨dst, .store 28 x y, t, pos, after, none⟩ :: rest) a w :=
  wpList_store_at p _ l l' hx hy hA (hl.trans hl'.symm) (by rw [hl']; kernel_rfl) h1 h
theorem at_ldh {g : Option (Nat × Bool)} (h : wpList Try.prog ops Q (⟨dst, .load 28 x, t, pos, after, g⟩ :: rest) a w) : wpList Try.prog ops Q (⟨dst, .load 28 x, t, pos, after, g⟩ :: rest) a w := h
theorem at_sth {g : Option (Nat × Bool)} (h : wpList Try.prog ops Q (⟨dst, .store 28 x y, t, pos, after, g⟩ :: rest) a w) : wpList Try.prog ops Q (⟨dst, .store 28 x y, t, pos, after, g⟩ :: rest) a w := h
end
/-- A head's value reads so. -/
structure HFits (w : World) (P : Nat → Prop) (m : HN) (d : Sl) (ds : List Int) : Prop where
  wf : m.wf
  dt : InD w P d ds
theorem HFits.kept {S P : Nat → Prop} {w w' : World} {m : HN} {d : Sl} {ds : List Int} (h : HFits w P m d ds) (k : Kept S w w') (hs : ∀ b, P b → ¬ S b) : HFits w' P m d ds := ⟨h.wf, h.dt.kept k hs⟩
theorem HFits.below {P : Nat → Prop} {w w' : World} {m : HN} {d : Sl} {ds : List Int} (h : HFits w P m d ds) (k : Below w.heap.size w w') : HFits w' P m d ds := h.kept (Kept.of_below k (fun _ => False)) (fun _ _ h => h)
theorem HFits.mono {P P' : Nat → Prop} {w : World} {m : HN} {d : Sl} {ds : List Int} (h : HFits w P m d ds) (hp : ∀ b, b < w.heap.size → P b → P' b) : HFits w P' m d ds := ⟨h.wf, h.dt.mono hp⟩
instance : DecidableEq N8 := fun x y => if h : x.l = y.l then isTrue (N8.ext_ h) else isFalse (fun e => h (by rw [e]))
/-- May it be written? -/
def hrightB (m : HN) (n : Nat) : Bool := decide (0 ≤ m.s ∧ m.s ≤ 2 ∧ 1 ≤ m.w ∧ m.w ≤ 4 ∧ n ≤ 32 ∧ (m.s = 0 ∨ n = 0) ∧ (m.s = 2 ∨ m.ph = false) ∧ (m.s = 2 → m.f = .zero))
end Go.Proofs.Ytbioajgmceodhaa
