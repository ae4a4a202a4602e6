/-
  The document's own turned, tag, Seal, Open, Mask (narthexref8).
-/
import Derived.Test.YtijjiifekilapaaMq7
import Derived.Test.YtijjiifekilapaaProg
import Derived.Test.YtijjiifekilapaaMq1
import Derived.Test.YtijjiifekilapaaMq0
import Derived.Deep.QuietTactic
import Derived.BigQuiet
import Derived.Deep.RegionHeld3
import Derived.WalkSpells
import Derived.Test.YtijjiifekilapaaMq5
namespace Go.Proofs.Ytijjiifekilapaa
section
set_option linter.unusedVariables false
set_option linter.unusedSimpArgs false
open Go.RowKit Go.ChangeShapes Go.WideShapes Go.Deep
theorem own_cell {w : World} {base g nn c : Nat} {e : TypeId} {L : List Int} (h : Own w base e (.slice (some ⟨g, 0, none⟩) nn c) L) (hl : L.length = nn) (k : Nat) (x : Int) (hx : L[k]? = some x) :
    w.cell? ⟨g, k, none⟩ = some (.int .u8 x) ∧ g < w.heap.size ∧ base ≤ g ∧ w.frozen? ⟨g, k, none⟩ = false := by
  have hk : k < L.length := (List.getElem?_eq_some_iff.1 hx).1
  obtain ⟨g', c', l, hv, hA, _, ht, hb, _, _⟩ := h.place (by omega)
  injection hv with e1 e2 e3
  injection e1 with e1
  injection e1 with e1
  subst e1
  exact ⟨place_cell hA ht k x hx, hA.lt, hb, hA.frozen k⟩
theorem own_set {w : World} {base g nn c : Nat} {e : TypeId} {L : List Int} (h : Own w base e (.slice (some ⟨g, 0, none⟩) nn c) L) (hl : L.length = nn) (hp : 0 < nn) (k : Nat) (y : Int) (hy : 0 ≤ y ∧ y < 256) :
    Own (w.setCell ⟨g, k, none⟩ (.int .u8 y)) base e (.slice (some ⟨g, 0, none⟩) nn c) (L.set k y) := by
  obtain ⟨g', c', l, hv, hA, hlc, ht, hb, hn, hm⟩ := h.place (by omega)
  injection hv with e1 e2 e3
  injection e1 with e1
  injection e1 with e1
  subst e1; subst e3; subst e2
  exact place_set hA hlc ht h.byt hb hn hm k y hy
end
section
set_option linter.unusedVariables false
set_option linter.unusedSimpArgs false
open Go.RowKit Go.ChangeShapes Go.WideShapes Go.Deep
end
section
set_option linter.unusedVariables false
set_option linter.unusedSimpArgs false
open Go.RowKit Go.ChangeShapes Go.WideShapes Go.Deep
end
section
set_option linter.unusedVariables false
open Go.RowKit
/-- A head's numbers: space, to, from, width, phase. -/
structure HN where
  s : Int
  t : N8
  f : N8
  w : Int
  ph : Bool
def HN.zero : HN := ⟨0, .zero, .zero, 0, false⟩
def hdL (m : HN) (d : Sl) : List Value := [.int .i64 m.s, .int .u8 m.t.a0, .int .u8 m.t.a1, .int .u8 m.t.a2, .int .u8 m.t.a3, .int .u8 m.t.a4, .int .u8 m.t.a5, .int .u8 m.t.a6, .int .u8 m.t.a7,
  .int .u8 m.f.a0, .int .u8 m.f.a1, .int .u8 m.f.a2, .int .u8 m.f.a3, .int .u8 m.f.a4, .int .u8 m.f.a5, .int .u8 m.f.a6, .int .u8 m.f.a7, .slice d.A d.n d.c, .int .i64 m.w, .bool m.ph]
def hdV (m : HN) (d : Sl) : Value := .agg (hdL m d).toArray
structure HN.wf (m : HN) : Prop where
  s0 : -9223372036854775808 ≤ m.s
  s1 : m.s ≤ 9223372036854775807
  w0 : -9223372036854775808 ≤ m.w
  w1 : m.w ≤ 9223372036854775807
  tb : Byt m.t.l
  fb : Byt m.f.l
/-- A name in a head's block reads as its bytes. -/
theorem to_rd (m : HN) (d : Sl) {w : World} {g : Nat} (h : At w g 30 (hdL m d)) (hc : Byt m.t.l) : Rd w w.heap.size (some ⟨g, 1, none⟩) 8 m.t.l := by
  refine ⟨rfl, hc, fun _ => ⟨g, 1, rfl, h.lt, fun i hi => ?_⟩⟩
  rw [h.cell]
  have : i = 0 ∨ i = 1 ∨ i = 2 ∨ i = 3 ∨ i = 4 ∨ i = 5 ∨ i = 6 ∨ i = 7 := by omega
  rcases this with rfl | rfl | rfl | rfl | rfl | rfl | rfl | rfl <;> rfl
theorem from_rd (m : HN) (d : Sl) {w : World} {g : Nat} (h : At w g 30 (hdL m d)) (hc : Byt m.f.l) : Rd w w.heap.size (some ⟨g, 9, none⟩) 8 m.f.l := by
  refine ⟨rfl, hc, fun _ => ⟨g, 9, rfl, h.lt, fun i hi => ?_⟩⟩
  rw [h.cell]
  have : i = 0 ∨ i = 1 ∨ i = 2 ∨ i = 3 ∨ i = 4 ∨ i = 5 ∨ i = 6 ∨ i = 7 := by omega
  rcases this with rfl | rfl | rfl | rfl | rfl | rfl | rfl | rfl <;> rfl
section
variable {ops : Array Oper} {rest : List Oper} {a : Act} {w : World} {Q : Exit → Act → World → Prop} {dst : Option Tmp} {x y : Operand} {t : TypeId} {pos : String} {after : Array Edge}
theorem ld_hd (p : Nat) (l : List Value) (hx : a.eval x = .pointer (some ⟨p, 0, none⟩)) (hA : At w p 30 l) (hl : l.length = 20)
    (h : wpList Try.prog ops Q rest (a.put dst (.agg l.toArray)) w) : wpList Try.prog ops Q (⟨dst, .load 30 x, t, pos, after, none⟩ :: rest) a w :=
  wpList_load_at p _ l _ hx hA Try.underlying30 rfl (by rw [hl]; kernel_rfl) h
theorem st_hd (p : Nat) (l l' : List Value) (hx : a.eval x = .pointer (some ⟨p, 0, none⟩)) (hy : a.eval y = .agg l'.toArray) (hA : At w p 30 l) (hl : l.length = 20) (hl' : l'.length = 20)
    (h1 : l'.all (·.oneCell') = true) (h : ∀ w', At w' p 30 l' → Kept (· = p) w w' → wpList Try.prog ops Q rest (a.put dst undef) w') :
    wpList Try.prog ops Q (⟨dst, .store 30 x y, t, pos, after, none⟩ :: rest) a w :=
  wpList_store_at p _ l l' hx hy hA (hl.trans hl'.symm) (by rw [hl']; kernel_rfl) h1 h
theorem at_ldh {g : Option (Nat × Bool)} (h : wpList Try.prog ops Q (⟨dst, .load 30 x, t, pos, after, g⟩ :: rest) a w) : wpList Try.prog ops Q (⟨dst, .load 30 x, t, pos, after, g⟩ :: rest) a w := h
theorem at_sth {g : Option (Nat × Bool)} (h : wpList Try.prog ops Q (⟨dst, .store 30 x y, t, pos, after, g⟩ :: rest) a w) : wpList Try.prog ops Q (⟨dst, .store 30 x y, t, pos, after, g⟩ :: rest) a w := h
end
/-- A head's value reads so. -/
structure HFits (w : World) (P : Nat → Prop) (m : HN) (d : Sl) (ds : List Int) : Prop where
  wf : m.wf
  dt : InD w P d ds
theorem HFits.kept {S P : Nat → Prop} {w w' : World} {m : HN} {d : Sl} {ds : List Int} (h : HFits w P m d ds) (k : Kept S w w') (hs : ∀ b, P b → ¬ S b) : HFits w' P m d ds := ⟨h.wf, h.dt.kept k hs⟩
theorem HFits.below {P : Nat → Prop} {w w' : World} {m : HN} {d : Sl} {ds : List Int} (h : HFits w P m d ds) (k : Below w.heap.size w w') : HFits w' P m d ds := h.kept (Kept.of_below k (fun _ => False)) (fun _ _ h => h)
theorem HFits.mono {P P' : Nat → Prop} {w : World} {m : HN} {d : Sl} {ds : List Int} (h : HFits w P m d ds) (hp : ∀ b, b < w.heap.size → P b → P' b) : HFits w P' m d ds := ⟨h.wf, h.dt.mono hp⟩
/-- May it be written? -/
def hrightB (m : HN) (n : Nat) : Bool := decide (0 ≤ m.s ∧ m.s ≤ 2 ∧ 1 ≤ m.w ∧ m.w ≤ 4 ∧ n ≤ 32 ∧ (m.s = 0 ∨ n = 0) ∧ (m.s = 2 ∨ m.ph = false) ∧ (m.s = 2 → m.f = .zero))
end
section
theorem hd_info : (Try.prog.info? 30).map (·.size) = some 20 := by kernel_rfl
end
end Go.Proofs.Ytijjiifekilapaa
