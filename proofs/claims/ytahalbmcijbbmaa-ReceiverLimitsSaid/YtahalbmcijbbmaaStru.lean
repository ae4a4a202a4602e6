/-
  A whole struct stored into, or loaded out of, a block that is known whole. Every condition stands in the law.
-/
import Derived.Test.YtahalbmcijbbmaaMq0
import Derived.Deep.MidRow
namespace Go.Proofs.Ytahalbmcijbbmaa
set_option linter.unusedVariables false
open Go.RowKit
def setFrom : List Value → Nat → List Value → List Value
  | l, _, [] => l
  | l, o, v :: r => setFrom (l.set o v) (o + 1) r
theorem setFrom_eq : ∀ (vs l : List Value) (o : Nat), o + vs.length ≤ l.length → setFrom l o vs = l.take o ++ vs ++ l.drop (o + vs.length)
  | [], l, o, h => by simp [setFrom]
  | v :: r, l, o, h => by
    simp at h
    rw [setFrom, setFrom_eq r (l.set o v) (o + 1) (by simp; omega)]
    have h1 : (l.set o v).take (o + 1) = l.take o ++ [v] := by
      rw [List.take_set, List.take_succ_eq_append_getElem (by omega), List.set_append_right _ _ (by simp; omega)]
      simp [List.length_take, Nat.min_eq_left (show o ≤ l.length by omega)]
    have h2 : (l.set o v).drop (o + 1 + r.length) = l.drop (o + (v :: r).length) := by
      rw [List.drop_set_of_lt (by omega)]
      simp [Nat.add_assoc, Nat.add_comm 1]
    rw [h1, h2]
    simp
theorem setFrom_all (l vs : List Value) (h : l.length = vs.length) : setFrom l 0 vs = vs := by
  rw [setFrom_eq vs l 0 (by omega)]
  simp [h]
section
variable {w : World} {p : Nat} {T : TypeId}
theorem At.setFrom : ∀ (vs l : List Value) (o : Nat) (w : World), At w p T l → At (w.setCells p o vs) p T (setFrom l o vs)
  | [], l, o, w, h => h
  | v :: r, l, o, w, h => At.setFrom r (l.set o v) (o + 1) (w.setCell ⟨p, o, none⟩ v) (h.set o v)
theorem Kept.setCells {S : Nat → Prop} {w0 : World} (hp : S p) : ∀ (vs : List Value) (o : Nat) (w : World), Kept S w0 w → Kept S w0 (w.setCells p o vs)
  | [], o, w, h => h
  | v :: r, o, w, h => Kept.setCells hp r (o + 1) (w.setCell ⟨p, o, none⟩ v) (h.setCell (.inl hp) v)
theorem At.there {l : List Value} (h : At w p T l) (n : Nat) (hn : n ≤ l.length) : w.there p 0 n := fun j hj => by
  rw [Nat.zero_add, h.cell, h.frozen]
  simp
  omega
theorem At.rangeAt {l : List Value} (h : At w p T l) : w.rangeAt p 0 l := fun j v hv => by rw [Nat.zero_add, h.cell, hv]
theorem setCells_top : ∀ (vs l : List Value) (o : Nat), (w.alloc (.cells l.toArray T)).setCells w.heap.size o vs = w.alloc (.cells (setFrom l o vs).toArray T)
  | [], l, o => rfl
  | v :: r, l, o => by
    rw [World.setCells, World.setCell_alloc_at _ _ _ _ _ rfl]
    have := setCells_top r (l.set o v) (o + 1)
    rw [show (l.toArray.setIfInBounds o v) = (l.set o v).toArray by simp]
    exact this
end
section
variable {P : Program} {ops : Array Oper} {rest : List Oper} {a : Act} {w : World} {Q : Exit → Act → World → Prop} {dst : Option Tmp} {x y : Operand} {ty t : TypeId} {pos : String} {after : Array Edge}
/-- The store: behind it the block holds what was stored; the world is a letter. -/
theorem wpList_store_at (p : Nat) (T : TypeId) (l l' : List Value) (hx : a.eval x = .pointer (some ⟨p, 0, none⟩)) (hy : a.eval y = .agg l'.toArray) (hA : At w p T l) (hl : l.length = l'.length)
    (hi : (P.info? ty).map (·.size) = some l'.length) (h1 : l'.all (·.oneCell') = true) (h : ∀ w', At w' p T l' → Kept (· = p) w w' → wpList P ops Q rest (a.put dst undef) w') :
    wpList P ops Q (⟨dst, .store ty x y, t, pos, after, none⟩ :: rest) a w := by
  refine wpList_store_mid rfl ty x y rfl p 0 l'.toArray hx hy (by simpa using hA.there _ (by omega)) (by simpa using hi) (by simpa using h1) ?_
  have := At.setFrom l' l 0 w hA
  rw [setFrom_all l l' hl] at this
  exact h _ (by simpa using this) (by simpa using Kept.setCells (S := (· = p)) rfl l' 0 w (Kept.refl _ _))
/-- The store into the newest block. -/
theorem wpList_store_top (w0 : World) (T : TypeId) (l l' : List Value) (hw : w = w0.alloc (.cells l.toArray T)) (g : Nat) (hx : a.eval x = .pointer (some ⟨g, 0, none⟩)) (hg : g = w0.heap.size) (hy : a.eval y = .agg l'.toArray) (hl : l.length = l'.length)
    (hi : (P.info? ty).map (·.size) = some l'.length) (h1 : l'.all (·.oneCell') = true) (h : wpList P ops Q rest (a.put dst undef) (w0.alloc (.cells l'.toArray T))) :
    wpList P ops Q (⟨dst, .store ty x y, t, pos, after, none⟩ :: rest) a w := by
  subst hw; subst hg
  refine wpList_store_mid rfl ty x y rfl _ 0 l'.toArray hx hy (by simpa using (At.new w0 T l).there _ (by omega)) (by simpa using hi) (by simpa using h1) ?_
  rw [show l'.toArray.toList = l' from rfl, setCells_top, setFrom_all l l' hl]
  exact h
/-- The load. -/
theorem wpList_load_at (p : Nat) (T : TypeId) (l : List Value) (d : TypeDesc) (hx : a.eval x = .pointer (some ⟨p, 0, none⟩)) (hA : At w p T l) (hu : P.underlying ty = some d) (hd : d.isRow = true)
    (hi : (P.info? ty).map (·.size) = some l.length) (h : wpList P ops Q rest (a.put dst (.agg l.toArray)) w) : wpList P ops Q (⟨dst, .load ty x, t, pos, after, none⟩ :: rest) a w :=
  wpList_load_mid rfl ty x rfl p 0 hx l d hA.rangeAt hu hd hi h
end
theorem At.new_ {w : World} (T : TypeId) (l : List Value) (g : Nat) (hg : g = w.heap.size) : At (w.alloc (.cells l.toArray T)) g T l := by subst hg; exact At.new w T l
section
variable {P : Program} {w : World} {fn : Func} {tmps : Array Value}
theorem results_cell_tmp (s t : Tmp) (ty : TypeId) (hr : fn.results = #[.cell s ty, .tmp t]) (p : Nat) (T : TypeId) (l : List Value) (d : TypeDesc) (v : Value) (hs : tmps.getD s undef = .pointer (some ⟨p, 0, none⟩)) (ht : tmps.getD t undef = v) (hA : At w p T l)
    (hu : P.underlying ty = some d) (hd : d.isRow = true) (hi : (P.info? ty).map (·.size) = some l.length) : (results fn tmps).run P w = .ok (.tuple #[.agg l.toArray, v]) w := by
  have h := run_loadVar_mid (P := P) w p 0 ty l d hA.rangeAt hu hd hi
  rw [Array.getD_eq_getD_getElem?] at hs ht
  simp [results, hr, hs, ht, asAddr, h]
end
end Go.Proofs.Ytahalbmcijbbmaa
