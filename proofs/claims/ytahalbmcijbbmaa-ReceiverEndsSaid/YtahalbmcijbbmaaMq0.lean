/-
  Objects behind pointers, over any program: what a call may turn (Kept), a block of known cells (At), a slice cut short, append where the new row lies. Every condition stands in the law.
-/
import Derived.Test.YtahalbmcijbbmaaBytes
import Derived.Maps.AppendAt
import Derived.Deep.Draws
import Derived.Deep.MidRow
namespace Go.Proofs.Ytahalbmcijbbmaa
section
set_option linter.unusedVariables false
open Go.RowKit

/-- Every block of w that is not in S is in w' as it was. -/
structure Kept (S : Nat → Prop) (w w' : World) : Prop where
  os : w'.os = w.os
  tape : w'.tape = w.tape
  output : w'.output = w.output
  size : w.heap.size ≤ w'.heap.size
  block : ∀ k, k < w.heap.size → ¬ S k → w'.heap[k]? = w.heap[k]?
section
variable {S S' : Nat → Prop} {w w' w'' : World}
theorem Kept.refl (S : Nat → Prop) (w : World) : Kept S w w := ⟨rfl, rfl, rfl, Nat.le_refl _, fun _ _ _ => rfl⟩
theorem Kept.trans' (h : Kept S w w') (k : Kept S' w' w'') (hs : ∀ j, S' j → S j ∨ w.heap.size ≤ j) : Kept S w w'' :=
  ⟨k.os.trans h.os, k.tape.trans h.tape, k.output.trans h.output, Nat.le_trans h.size k.size, fun j hj hn =>
    (k.block j (Nat.lt_of_lt_of_le hj h.size) (fun hs' => by rcases hs j hs' with h1 | h1; exact hn h1; omega)).trans (h.block j hj hn)⟩
theorem Kept.trans (h : Kept S w w') (k : Kept S w' w'') : Kept S w w'' := h.trans' k fun _ => .inl
theorem Kept.mono (h : Kept S w w') (hs : ∀ j, S j → S' j ∨ w.heap.size ≤ j) : Kept S' w w' :=
  ⟨h.os, h.tape, h.output, h.size, fun j hj hn => h.block j hj fun hs' => by rcases hs j hs' with h1 | h1; exact hn h1; omega⟩
theorem Kept.drew (h : Kept S w w') : Kept S w w'.drew := ⟨h.os, h.tape, h.output, h.size, h.block⟩
theorem Kept.drewN (h : Kept S w w') (n : Nat) : Kept S w (w'.drewN n) := ⟨h.os, h.tape, h.output, h.size, h.block⟩
theorem Kept.from_drew (h : Kept S w.drew w') : Kept S w w' := ⟨h.os, h.tape, h.output, h.size, h.block⟩
theorem Kept.alloc (h : Kept S w w') (o : Obj) : Kept S w (w'.alloc o) :=
  ⟨h.os, h.tape, h.output, Nat.le_trans h.size (by simp), fun j hj hn => (Below.heap_alloc w' o j (Nat.lt_of_lt_of_le hj h.size)).trans (h.block j hj hn)⟩
theorem Kept.setCell (h : Kept S w w') {p : Addr} (hp : S p.block ∨ w.heap.size ≤ p.block) (u : Value) : Kept S w (w'.setCell p u) :=
  ⟨h.os, h.tape, h.output, by simpa [World.setCell] using h.size, fun j hj hn => (Below.heap_setCell w' p u j (by
    rintro rfl
    rcases hp with hp | hp
    · exact hn hp
    · omega)).trans (h.block j hj hn)⟩
theorem Kept.setAt {p : Nat} (h : Kept (· = p) w w') (j : Nat) (u : Value) : Kept (· = p) w (w'.setCell ⟨p, j, none⟩ u) := h.setCell (.inl rfl) u
theorem Kept.of_below (h : Below w.heap.size w w') (S : Nat → Prop) : Kept S w w' := ⟨h.os, h.tape, h.output, h.size, fun j hj _ => h.block j hj⟩
theorem Kept.of_grown {row : Option Nat} (h : w.grownBy w' row) (hs : ∀ k, row = some k → S k ∨ w.heap.size ≤ k) : Kept S w w' :=
  ⟨h.os, h.tape, h.output, h.size, fun j hj hn => h.block j hj fun e => by rcases hs j e.symm with h1 | h1; exact hn h1; omega⟩
theorem Kept.below {B : Nat} {a : World} (k : Kept S w w') (h : Below B a w) (hB : B ≤ w.heap.size) (hs : ∀ j, S j → B ≤ j) : Below B a w' :=
  h.trans ⟨k.os, k.tape, k.output, k.size, fun j hj => k.block j (Nat.lt_of_lt_of_le hj hB) fun hj' => by have := hs j hj'; omega⟩
theorem Kept.cell (h : Kept S w w') {p : Addr} (hp : p.block < w.heap.size) (hs : ¬ S p.block) : w'.cell? p = w.cell? p := World.cell?_of_block (h.block p.block hp hs)
theorem Kept.frozen (h : Kept S w w') {p : Addr} (hp : p.block < w.heap.size) (hs : ¬ S p.block) : w'.frozen? p = w.frozen? p := World.frozen?_of_block (h.block p.block hp hs)
end

/-- The slice value with address A and n elements reads as the bytes bs, in a block that P allows. -/
def RdP (w : World) (P : Nat → Prop) (A : Option Addr) (n : Nat) (bs : List Int) : Prop :=
  Rd w w.heap.size A n bs ∧ ∀ b off, 0 < n → A = some ⟨b, off, none⟩ → P b
section
variable {S P P' : Nat → Prop} {w w' : World} {n : Nat} {A : Option Addr} {bs : List Int}
theorem RdP.none_ (w : World) (P : Nat → Prop) (A : Option Addr) : RdP w P A 0 [] := ⟨Rd.none_ _ _ _, fun _ _ h => absurd h (by omega)⟩
theorem RdP.mono (h : RdP w P A n bs) (hp : ∀ b, b < w.heap.size → P b → P' b) : RdP w P' A n bs :=
  ⟨h.1, fun b off hn e => by
    obtain ⟨b', off', e', hb, _⟩ := h.1.2.2 hn
    rw [e] at e'
    injection e' with e'
    injection e' with e1 e2
    exact hp b (by omega) (h.2 b off hn e)⟩
theorem RdP.kept (h : RdP w P A n bs) (k : Kept S w w') (hs : ∀ b, P b → ¬ S b) : RdP w' P A n bs := by
  refine ⟨⟨h.1.1, h.1.2.1, fun hn => ?_⟩, h.2⟩
  obtain ⟨b, off, e, hb, hc⟩ := h.1.2.2 hn
  refine ⟨b, off, e, Nat.lt_of_lt_of_le hb k.size, fun i hi => ?_⟩
  rw [k.cell (p := ⟨b, off + i, none⟩) hb (hs b (h.2 b off hn e))]
  exact hc i hi
theorem RdP.of_rd {B : Nat} (h : Rd w B A n bs) (hB : B ≤ w.heap.size) : RdP w (· < B) A n bs :=
  ⟨h.more hB, fun b off hn e => by
    obtain ⟨b', off', e', hb, _⟩ := h.2.2 hn
    rw [e] at e'
    injection e' with e'
    injection e' with e1 e2
    omega⟩
theorem RdP.len (h : RdP w P A n bs) : bs.length = n := h.1.1
theorem RdP.byt (h : RdP w P A n bs) : Byt bs := h.1.2.1
end
/-- The address of the elements from k on. -/
def cutA (A : Option Addr) (c k : Nat) : Option Addr := if c = k then A else A.map fun a => a.add k
theorem Rd.cutTo {w : World} {B n : Nat} {A : Option Addr} {bs : List Int} (h : Rd w B A n bs) {m : Nat} (hm : m ≤ n) : Rd w B A m (bs.take m) := by
  refine ⟨by rw [List.length_take, h.1]; omega, h.2.1.take m, fun hp => ?_⟩
  obtain ⟨b, off, e, hb, hc⟩ := h.2.2 (by omega)
  refine ⟨b, off, e, hb, fun i hi => ?_⟩
  rw [hc i (by omega), List.getD_eq_getElem?_getD, List.getD_eq_getElem?_getD, List.getElem?_take_of_lt hi]
theorem Rd.cutFrom {w : World} {B n : Nat} {A : Option Addr} {bs : List Int} (h : Rd w B A n bs) {c k : Nat} (hk : k ≤ n) (hc : n ≤ c) : Rd w B (cutA A c k) (n - k) (bs.drop k) := by
  refine ⟨by rw [List.length_drop, h.1], h.2.1.drop k, fun hp => ?_⟩
  obtain ⟨b, off, e, hb, hcell⟩ := h.2.2 (by omega)
  subst e
  refine ⟨b, off + k, ?_, hb, fun i hi => ?_⟩
  · unfold cutA
    rw [if_neg (by omega), Option.map_some, addr_add]
  · rw [show off + k + i = off + (k + i) by omega, hcell (k + i) (by omega), List.getD_eq_getElem?_getD, List.getD_eq_getElem?_getD, List.getElem?_drop]
theorem RdP.cutTo {w : World} {P : Nat → Prop} {n : Nat} {A : Option Addr} {bs : List Int} (h : RdP w P A n bs) {m : Nat} (hm : m ≤ n) : RdP w P A m (bs.take m) :=
  ⟨h.1.cutTo hm, fun b off hn e => h.2 b off (by omega) e⟩
theorem RdP.cutFrom {w : World} {P : Nat → Prop} {n : Nat} {A : Option Addr} {bs : List Int} (h : RdP w P A n bs) {c k : Nat} (hk : k ≤ n) (hc : n ≤ c) : RdP w P (cutA A c k) (n - k) (bs.drop k) := by
  refine ⟨h.1.cutFrom hk hc, fun b off hn e => ?_⟩
  obtain ⟨b', off', e', hb, _⟩ := h.1.2.2 (by omega)
  subst e'
  unfold cutA at e
  rw [if_neg (by omega), Option.map_some, addr_add] at e
  injection e with e
  injection e with e1 e2
  subst e1
  exact h.2 _ off' (by omega) rfl

/-- Block p holds the cells l. -/
def At (w : World) (p : Nat) (T : TypeId) (l : List Value) : Prop := w.heap[p]? = some (.cells l.toArray T (0, 0))
section
variable {S : Nat → Prop} {w w' : World} {p : Nat} {T : TypeId} {l : List Value}
theorem At.lt (h : At w p T l) : p < w.heap.size := by
  rcases Nat.lt_or_ge p w.heap.size with hlt | hge
  · exact hlt
  · unfold At at h; rw [Array.getElem?_eq_none hge] at h; cases h
theorem At.cell (h : At w p T l) (j : Nat) : w.cell? ⟨p, j, none⟩ = l[j]? := by
  rw [cell_of_row w p j _ T (0, 0) h]; simp
theorem At.frozen (h : At w p T l) (j : Nat) : w.frozen? ⟨p, j, none⟩ = false := by
  unfold At at h
  simp [World.frozen?, h]
theorem At.kept (h : At w p T l) (k : Kept S w w') (hs : ¬ S p) : At w' p T l := (k.block p h.lt hs).trans h
theorem At.drew (h : At w p T l) : At w.drew p T l := h
theorem At.drewN (h : At w p T l) (n : Nat) : At (w.drewN n) p T l := h
theorem At.alloc (h : At w p T l) (o : Obj) : At (w.alloc o) p T l := (Below.heap_alloc w o p h.lt).trans h
theorem At.below {B : Nat} (h : At w p T l) (hb : Below B w w') (hp : p < B) : At w' p T l := (hb.block p hp).trans h
theorem At.new (w : World) (T : TypeId) (l : List Value) : At (w.alloc (.cells l.toArray T)) w.heap.size T l := heap_alloc_new w _
theorem At.set (h : At w p T l) (j : Nat) (u : Value) : At (w.setCell ⟨p, j, none⟩ u) p T (l.set j u) := by
  unfold At at *
  simp [World.setCell, Array.getElem?_modify, h]
end
theorem Own.kept {S : Nat → Prop} {w w' : World} {base : Nat} {e : TypeId} {v : Value} {bs : List Int} (h : Own w base e v bs) (k : Kept S w w') (hs : ∀ j, v.ownBlock = some j → ¬ S j) : Own w' base e v bs :=
  h.keep fun j hj => k.block j (h.block_lt j hj).2 (hs j hj)
end
section
set_option linter.unusedVariables false
open Go.RowKit
/-- A slice's place. -/
structure Sl where
  A : Option Addr
  n : Nat
  c : Nat
def Sl.nil : Sl := ⟨none, 0, 0⟩
structure InD (w : World) (P : Nat → Prop) (d : Sl) (ds : List Int) : Prop where
  rd : RdP w P d.A d.n ds
  lc : d.n ≤ d.c
  cm : d.c ≤ maxLen
  nil : d.A = none → d.c = 0
section
variable {S P P' : Nat → Prop} {w w' : World} {d : Sl} {ds : List Int}
theorem InD.kept (h : InD w P d ds) (k : Kept S w w') (hs : ∀ b, P b → ¬ S b) : InD w' P d ds := ⟨h.rd.kept k hs, h.lc, h.cm, h.nil⟩
theorem InD.nil_ (w : World) (P : Nat → Prop) : InD w P .nil [] := ⟨RdP.none_ _ _ _, Nat.le_refl _, by unfold maxLen; exact Nat.zero_le _, fun _ => rfl⟩
theorem InD.mono (h : InD w P d ds) (hp : ∀ b, b < w.heap.size → P b → P' b) : InD w P' d ds := ⟨h.rd.mono hp, h.lc, h.cm, h.nil⟩
end
theorem belowN {B : Nat} {a w : World} (h : Below B a w) (n : Nat) : Below B a (w.drewN n) := ⟨h.os, h.tape, h.output, h.size, h.block⟩
end
section
set_option linter.unusedVariables false
open Go.RowKit
section
variable {w : World} {p : Nat} {T : TypeId}
theorem At.rangeAt {l : List Value} (h : At w p T l) : w.rangeAt p 0 l := fun j v hv => by rw [Nat.zero_add, h.cell, hv]
end
section
variable {P : Program} {ops : Array Oper} {rest : List Oper} {a : Act} {w : World} {Q : Exit → Act → World → Prop} {dst : Option Tmp} {x y : Operand} {ty t : TypeId} {pos : String} {after : Array Edge}
end
section
variable {P : Program} {w : World} {fn : Func} {tmps : Array Value}
theorem results_cell_tmp (s t : Tmp) (ty : TypeId) (hr : fn.results = #[.cell s ty, .tmp t]) (p : Nat) (T : TypeId) (l : List Value) (d : TypeDesc) (v : Value) (hs : tmps.getD s undef = .pointer (some ⟨p, 0, none⟩)) (ht : tmps.getD t undef = v) (hA : At w p T l)
    (hu : P.underlying ty = some d) (hd : d.isRow = true) (hi : (P.info? ty).map (·.size) = some l.length) : (results fn tmps).run P w = .ok (.tuple #[.agg l.toArray, v]) w := by
  have h := run_loadVar_mid (P := P) w p 0 ty l d hA.rangeAt hu hd hi
  rw [Array.getD_eq_getD_getElem?] at hs ht
  simp [results, hr, hs, ht, asAddr, h]
end
end
end Go.Proofs.Ytahalbmcijbbmaa
