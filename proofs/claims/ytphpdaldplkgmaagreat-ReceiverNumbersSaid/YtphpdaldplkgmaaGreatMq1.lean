/-
  Plain arithmetic for layer 1: what masks, shifts and turns of 64-bit numbers come to. No condition beyond those of each lemma. Imports nothing of the translation.
-/
import Derived.WalkKit
import Derived.Laws.BitsAllLaws
import Derived.Laws.Bits64b
import Derived.Laws.DeepNot64
import Derived.Test.YtphpdaldplkgmaaGreatProg
import Derived.ProofKit
import Derived.OpenShut
import Derived.Lib.Hide
import Derived.Outline
import Derived.WalkLawsBesides
import Derived.WalkSpells
import Derived.RegionTactic
import Derived.ChangeAlike
import Derived.Deep.QuietTactic
import Derived.BigQuiet
import Derived.Test.YtphpdaldplkgmaaGreatMq0
import Derived.Deep.RegionHeld3
namespace Go.Proofs.YtphpdaldplkgmaaGreat
section
set_option linter.unusedVariables false
open Go.RowKit
theorem wrapI (n : Int) : wrap64 n = (n + 9223372036854775808) % 18446744073709551616 - 9223372036854775808 := by unfold wrap64; rfl
end
section
set_option linter.unusedVariables false
open Go.RowKit
theorem ret_int {k : IntKind} {a b : Int} (h : a = b) : Ending.returned (.int k a) = .returned (.int k b) := by rw [h]
end
section
set_option linter.unusedVariables false
open Go.RowKit
/-- A frame's numbers. -/
structure FN where
  k : Int
  s : Int
  o : Int
  fin : Bool
  l : Int
  c : Int
  f : Int
  q : Int
  y : Int
  c0 : Int
  c1 : Int
  c2 : Int
  c3 : Int
  c4 : Int
  c5 : Int
  c6 : Int
  c7 : Int
def frL (m : FN) (d r : Sl) : List Value := [.int .i64 m.k, .int .u64 m.s, .int .u64 m.o, .slice d.A d.n d.c, .bool m.fin, .int .u64 m.l, .int .u64 m.c, .int .u64 m.f, .int .u64 m.q, .int .u64 m.y, .slice r.A r.n r.c,
  .int .u8 m.c0, .int .u8 m.c1, .int .u8 m.c2, .int .u8 m.c3, .int .u8 m.c4, .int .u8 m.c5, .int .u8 m.c6, .int .u8 m.c7]
def frV (m : FN) (d r : Sl) : Value := .agg (frL m d r).toArray
def FN.zero (k : Int) : FN := ⟨k, 0, 0, false, 0, 0, 0, 0, 0, 0, 0, 0, 0, 0, 0, 0, 0⟩
def askN (m : FN) : FN :=
  if m.k = 2 then { FN.zero 2 with y := m.y }
  else if m.k = 4 then { FN.zero 4 with s := m.s, c := m.c, f := m.f }
  else if m.k = 5 then { FN.zero 5 with s := m.s, c := m.c }
  else if m.k = 6 then { FN.zero 6 with o := m.o }
  else if m.k = 8 then { FN.zero 8 with s := m.s, o := m.o, fin := m.fin }
  else if m.k = 16 then { FN.zero 16 with l := m.l }
  else if m.k = 18 then { FN.zero 18 with l := m.l }
  else if m.k = 20 then { FN.zero 20 with l := m.l }
  else if m.k = 17 then { FN.zero 17 with s := m.s, l := m.l }
  else if m.k = 24 then { m with s := 0, o := 0, fin := false, c := 0, f := 0, y := 0 }
  else if m.k = 25 then { FN.zero 25 with q := m.q }
  else if m.k = 26 then { m with s := 0, o := 0, fin := false, l := 0, c := 0, f := 0, q := 0, y := 0 }
  else if m.k = 27 then { m with s := 0, o := 0, fin := false, l := 0, c := 0, f := 0, q := 0, y := 0 }
  else if m.k = 28 then { FN.zero 28 with c := m.c }
  else FN.zero m.k
def knownB (k : Int) : Bool := k == 0 || k == 1 || k == 30 || k == 2 || k == 4 || k == 5 || k == 6 || k == 8 || k == 16 || k == 18 || k == 20 || k == 17 || k == 24 || k == 25 || k == 26 || k == 27 || k == 28
/-- Does the Kind ask Data, does it ask Ranges? -/
def askD (k : Int) (d : Sl) : Sl := if k = 6 ∨ k = 8 ∨ k = 28 then d else .nil
def askR (k : Int) (r : Sl) : Sl := if k = 2 then r else .nil
theorem frL_len (m : FN) (d r : Sl) : (frL m d r).length = 19 := rfl
section
variable {ops : Array Oper} {rest : List Oper} {a : Act} {w : World} {Q : Exit → Act → World → Prop} {dst : Option Tmp} {x y : Operand} {t : TypeId} {pos : String} {after : Array Edge}
theorem ld_fr (p : Nat) (l : List Value) (hx : a.eval x = .pointer (some ⟨p, 0, none⟩)) (hA : At w p 54 l) (hl : l.length = 19)
    (h : wpList Tryz.prog ops Q rest (a.put dst (.agg l.toArray)) w) : wpList Tryz.prog ops Q (⟨dst, .load 54 x, t, pos, after, none⟩ :: rest) a w :=
  wpList_load_at p _ l _ hx hA Tryz.underlying54 rfl (by rw [hl]; kernel_rfl) h
theorem st_top (w0 : World) (l l' : List Value) (hw : w = w0.alloc (.cells l.toArray 54)) (g : Nat) (hx : a.eval x = .pointer (some ⟨g, 0, none⟩)) (hg : g = w0.heap.size) (hy : a.eval y = .agg l'.toArray) (hl : l.length = 19) (hl' : l'.length = 19)
    (h1 : l'.all (·.oneCell') = true) (h : wpList Tryz.prog ops Q rest (a.put dst undef) (w0.alloc (.cells l'.toArray 54))) :
    wpList Tryz.prog ops Q (⟨dst, .store 54 x y, t, pos, after, none⟩ :: rest) a w :=
  wpList_store_top w0 _ l l' hw g hx hg hy (hl.trans hl'.symm) (by rw [hl']; kernel_rfl) h1 h
theorem st_at (p : Nat) (l l' : List Value) (hx : a.eval x = .pointer (some ⟨p, 0, none⟩)) (hy : a.eval y = .agg l'.toArray) (hA : At w p 54 l) (hl : l.length = 19) (hl' : l'.length = 19)
    (h1 : l'.all (·.oneCell') = true) (h : ∀ w', At w' p 54 l' → Kept (· = p) w w' → wpList Tryz.prog ops Q rest (a.put dst undef) w') :
    wpList Tryz.prog ops Q (⟨dst, .store 54 x y, t, pos, after, none⟩ :: rest) a w :=
  wpList_store_at p _ l l' hx hy hA (hl.trans hl'.symm) (by rw [hl']; kernel_rfl) h1 h
theorem at_ld {g : Option (Nat × Bool)} (h : wpList Tryz.prog ops Q (⟨dst, .load 54 x, t, pos, after, g⟩ :: rest) a w) : wpList Tryz.prog ops Q (⟨dst, .load 54 x, t, pos, after, g⟩ :: rest) a w := h
theorem at_st {g : Option (Nat × Bool)} (h : wpList Tryz.prog ops Q (⟨dst, .store 54 x y, t, pos, after, g⟩ :: rest) a w) : wpList Tryz.prog ops Q (⟨dst, .store 54 x y, t, pos, after, g⟩ :: rest) a w := h
end
end
end Go.Proofs.YtphpdaldplkgmaaGreat
