/-
  Eight bytes as a value: names; the store and load of some cells within a block.
-/
import Derived.Test.YtkgeeoogmkpjhaaProg
import Derived.Test.YtkgeeoogmkpjhaaStru
import Derived.Test.YtkgeeoogmkpjhaaSl
import Derived.Test.YtkgeeoogmkpjhaaStrs
import Derived.Test.YtkgeeoogmkpjhaaInts
import Derived.Test.YtkgeeoogmkpjhaaOpenRow
import Derived.Deep.QuietTactic
import Derived.BigQuiet
import Derived.Deep.RegionHeld3
import Derived.WalkSpells
namespace Go.Proofs.Ytkgeeoogmkpjhaa
set_option linter.unusedVariables false
open Go.RowKit Go.ChangeShapes Go.WideShapes Go.Deep
/-- Eight bytes. -/
structure N8 where
  a0 : Int
  a1 : Int
  a2 : Int
  a3 : Int
  a4 : Int
  a5 : Int
  a6 : Int
  a7 : Int
def N8.l (m : N8) : List Int := [m.a0, m.a1, m.a2, m.a3, m.a4, m.a5, m.a6, m.a7]
def N8.zero : N8 := ⟨0, 0, 0, 0, 0, 0, 0, 0⟩
def N8.of (l : List Int) : N8 := ⟨l.getD 0 0, l.getD 1 0, l.getD 2 0, l.getD 3 0, l.getD 4 0, l.getD 5 0, l.getD 6 0, l.getD 7 0⟩
def N8.v (m : N8) : Value := .agg #[.int .u8 m.a0, .int .u8 m.a1, .int .u8 m.a2, .int .u8 m.a3, .int .u8 m.a4, .int .u8 m.a5, .int .u8 m.a6, .int .u8 m.a7]
theorem N8.ext_ {x y : N8} (h : x.l = y.l) : x = y := by
  obtain ⟨a, b, c, d, e, f, g, i⟩ := x
  obtain ⟨a', b', c', d', e', f', g', i'⟩ := y
  simp only [N8.l, List.cons.injEq] at h
  obtain ⟨rfl, rfl, rfl, rfl, rfl, rfl, rfl, rfl, _⟩ := h
  rfl
theorem N8.of_l (m : N8) : N8.of m.l = m := rfl
theorem N8.l_of (l : List Int) (h : l.length = 8) : (N8.of l).l = l := by
  match l, h with
  | [a, b, c, d, e, f, g, i], _ => rfl
def n8B (m m' : N8) : Bool := m.a0 == m'.a0 && (m.a1 == m'.a1 && (m.a2 == m'.a2 && (m.a3 == m'.a3 && (m.a4 == m'.a4 && (m.a5 == m'.a5 && (m.a6 == m'.a6 && m.a7 == m'.a7))))))
theorem n8B_eq (m m' : N8) : n8B m m' = true ↔ m = m' := by
  obtain ⟨a, b, c, d, e, f, g, i⟩ := m
  obtain ⟨a', b', c', d', e', f', g', i'⟩ := m'
  simp [n8B]
theorem n8B_refl (m : N8) : n8B m m = true := (n8B_eq m m).2 rfl
instance : DecidableEq N8 := fun x y => if h : x.l = y.l then isTrue (N8.ext_ h) else isFalse (fun e => h (by rw [e]))
theorem N8.v_l (m : N8) : m.v = .agg (m.l.map (Value.int .u8)).toArray := rfl
section
variable {P : Program} {ops : Array Oper} {rest : List Oper} {a : Act} {w : World} {Q : Exit → Act → World → Prop} {dst : Option Tmp} {x y : Operand} {ty t : TypeId} {pos : String} {after : Array Edge}
/-- The store of some cells within a block. -/
theorem wpList_store_sub (p o : Nat) (T : TypeId) (l l' vs : List Value) (hx : a.eval x = .pointer (some ⟨p, o, none⟩)) (hy : a.eval y = .agg vs.toArray) (hA : At w p T l) (hl : o + vs.length ≤ l.length)
    (hi : (P.info? ty).map (·.size) = some vs.length) (h1 : vs.all (·.oneCell') = true) (hres : setFrom l o vs = l') (h : ∀ w', At w' p T l' → Kept (· = p) w w' → wpList P ops Q rest (a.put dst undef) w') :
    wpList P ops Q (⟨dst, .store ty x y, t, pos, after, none⟩ :: rest) a w := by
  refine wpList_store_mid rfl ty x y rfl p o vs.toArray hx hy (fun j hj => ?_) (by simpa using hi) (by simpa using h1) ?_
  · simp at hj
    rw [hA.cell, hA.frozen]
    simp
    omega
  · have := At.setFrom vs l o w hA
    rw [hres] at this
    exact h _ (by simpa using this) (by simpa using Kept.setCells (S := (· = p)) rfl vs o w (Kept.refl _ _))
end
section
variable {P : Program} {ops : Array Oper} {rest : List Oper} {a : Act} {w : World} {Q : Exit → Act → World → Prop} {dst : Option Tmp} {x y : Operand} {ty t : TypeId} {pos : String} {after : Array Edge}
theorem wpList_load_off (p off : Nat) (l : List Value) (d : TypeDesc) (hx : a.eval x = .pointer (some ⟨p, off, none⟩)) (hA : w.rangeAt p off l) (hu : P.underlying ty = some d) (hd : d.isRow = true)
    (hi : (P.info? ty).map (·.size) = some l.length) (h : wpList P ops Q rest (a.put dst (.agg l.toArray)) w) : wpList P ops Q (⟨dst, .load ty x, t, pos, after, none⟩ :: rest) a w :=
  wpList_load_mid rfl ty x rfl p off hx l d hA hu hd hi h
end
section
variable {H : Type} {enc : TypeId × Value → H} {w : World}
end
end Go.Proofs.Ytkgeeoogmkpjhaa
