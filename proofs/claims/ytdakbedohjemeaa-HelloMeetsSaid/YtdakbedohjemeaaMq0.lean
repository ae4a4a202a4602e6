/-
  Objects behind pointers, over any program: what a call may turn (Kept), a block of known cells (At), a slice cut short, append where the new row lies. Every condition stands in the law.
-/
import Derived.Test.YtdakbedohjemeaaBytes
import Derived.Maps.AppendAt
import Derived.Deep.Draws
import Derived.Deep.MidRow
namespace Go.Proofs.Ytdakbedohjemeaa
section
set_option linter.unusedVariables false
open Go.RowKit

/-- Every block of w that is not in S is in w' as it was. -/
structure Kept (S : Nat → Prop) (w w' : World) : Prop where
  os : w'.os = w.os
  tape : w'.tape = w.tape
  output : w'.output = w.output
  size : w.heap.size ≤ w'.heap.size
  block : ∀ k, k < w.heap.size → ¬ S k → w'.heap[k]? = w.heap[k]?
section
variable {S S' : Nat → Prop} {w w' w'' : World}
theorem Kept.refl (S : Nat → Prop) (w : World) : Kept S w w := ⟨rfl, rfl, rfl, Nat.le_refl _, fun _ _ _ => rfl⟩
theorem Kept.trans' (h : Kept S w w') (k : Kept S' w' w'') (hs : ∀ j, S' j → S j ∨ w.heap.size ≤ j) : Kept S w w'' :=
  ⟨k.os.trans h.os, k.tape.trans h.tape, k.output.trans h.output, Nat.le_trans h.size k.size, fun j hj hn =>
    (k.block j (Nat.lt_of_lt_of_le hj h.size) (fun hs' => by rcases hs j hs' with h1 | h1; exact hn h1; omega)).trans (h.block j hj hn)⟩
theorem Kept.trans (h : Kept S w w') (k : Kept S w' w'') : Kept S w w'' := h.trans' k fun _ => .inl
theorem Kept.mono (h : Kept S w w') (hs : ∀ j, S j → S' j ∨ w.heap.size ≤ j) : Kept S' w w' :=
  ⟨h.os, h.tape, h.output, h.size, fun j hj hn => h.block j hj fun hs' => by rcases hs j hs' with h1 | h1; exact hn h1; omega⟩
theorem Kept.drew (h : Kept S w w') : Kept S w w'.drew := ⟨h.os, h.tape, h.output, h.size, h.block⟩
theorem Kept.drewN (h : Kept S w w') (n : Nat) : Kept S w (w'.drewN n) := ⟨h.os, h.tape, h.output, h.size, h.block⟩
theorem Kept.alloc (h : Kept S w w') (o : Obj) : Kept S w (w'.alloc o) :=
  ⟨h.os, h.tape, h.output, Nat.le_trans h.size (by simp), fun j hj hn => (Below.heap_alloc w' o j (Nat.lt_of_lt_of_le hj h.size)).trans (h.block j hj hn)⟩
theorem Kept.setCell (h : Kept S w w') {p : Addr} (hp : S p.block ∨ w.heap.size ≤ p.block) (u : Value) : Kept S w (w'.setCell p u) :=
  ⟨h.os, h.tape, h.output, by simpa [World.setCell] using h.size, fun j hj hn => (Below.heap_setCell w' p u j (by
    rintro rfl
    rcases hp with hp | hp
    · exact hn hp
    · omega)).trans (h.block j hj hn)⟩
theorem Kept.setAt {p : Nat} (h : Kept (· = p) w w') (j : Nat) (u : Value) : Kept (· = p) w (w'.setCell ⟨p, j, none⟩ u) := h.setCell (.inl rfl) u
theorem Kept.of_below (h : Below w.heap.size w w') (S : Nat → Prop) : Kept S w w' := ⟨h.os, h.tape, h.output, h.size, fun j hj _ => h.block j hj⟩
theorem Kept.of_grown {row : Option Nat} (h : w.grownBy w' row) (hs : ∀ k, row = some k → S k ∨ w.heap.size ≤ k) : Kept S w w' :=
  ⟨h.os, h.tape, h.output, h.size, fun j hj hn => h.block j hj fun e => by rcases hs j e.symm with h1 | h1; exact hn h1; omega⟩
theorem Kept.below {B : Nat} {a : World} (k : Kept S w w') (h : Below B a w) (hB : B ≤ w.heap.size) (hs : ∀ j, S j → B ≤ j) : Below B a w' :=
  h.trans ⟨k.os, k.tape, k.output, k.size, fun j hj => k.block j (Nat.lt_of_lt_of_le hj hB) fun hj' => by have := hs j hj'; omega⟩
theorem Kept.cell (h : Kept S w w') {p : Addr} (hp : p.block < w.heap.size) (hs : ¬ S p.block) : w'.cell? p = w.cell? p := World.cell?_of_block (h.block p.block hp hs)
theorem Kept.frozen (h : Kept S w w') {p : Addr} (hp : p.block < w.heap.size) (hs : ¬ S p.block) : w'.frozen? p = w.frozen? p := World.frozen?_of_block (h.block p.block hp hs)
end

/-- The slice value with address A and n elements reads as the bytes bs, in a block that P allows. -/
def RdP (w : World) (P : Nat → Prop) (A : Option Addr) (n : Nat) (bs : List Int) : Prop :=
  Rd w w.heap.size A n bs ∧ ∀ b off, 0 < n → A = some ⟨b, off, none⟩ → P b
section
variable {S P P' : Nat → Prop} {w w' : World} {n : Nat} {A : Option Addr} {bs : List Int}
theorem RdP.none_ (w : World) (P : Nat → Prop) (A : Option Addr) : RdP w P A 0 [] := ⟨Rd.none_ _ _ _, fun _ _ h => absurd h (by omega)⟩
theorem RdP.mono (h : RdP w P A n bs) (hp : ∀ b, b < w.heap.size → P b → P' b) : RdP w P' A n bs :=
  ⟨h.1, fun b off hn e => by
    obtain ⟨b', off', e', hb, _⟩ := h.1.2.2 hn
    rw [e] at e'
    injection e' with e'
    injection e' with e1 e2
    exact hp b (by omega) (h.2 b off hn e)⟩
theorem RdP.kept (h : RdP w P A n bs) (k : Kept S w w') (hs : ∀ b, P b → ¬ S b) : RdP w' P A n bs := by
  refine ⟨⟨h.1.1, h.1.2.1, fun hn => ?_⟩, h.2⟩
  obtain ⟨b, off, e, hb, hc⟩ := h.1.2.2 hn
  refine ⟨b, off, e, Nat.lt_of_lt_of_le hb k.size, fun i hi => ?_⟩
  rw [k.cell (p := ⟨b, off + i, none⟩) hb (hs b (h.2 b off hn e))]
  exact hc i hi
theorem RdP.len (h : RdP w P A n bs) : bs.length = n := h.1.1
theorem RdP.byt (h : RdP w P A n bs) : Byt bs := h.1.2.1
end
/-- The address of the elements from k on. -/
def cutA (A : Option Addr) (c k : Nat) : Option Addr := if c = k then A else A.map fun a => a.add k
theorem Rd.cutTo {w : World} {B n : Nat} {A : Option Addr} {bs : List Int} (h : Rd w B A n bs) {m : Nat} (hm : m ≤ n) : Rd w B A m (bs.take m) := by
  refine ⟨by rw [List.length_take, h.1]; omega, h.2.1.take m, fun hp => ?_⟩
  obtain ⟨b, off, e, hb, hc⟩ := h.2.2 (by omega)
  refine ⟨b, off, e, hb, fun i hi => ?_⟩
  rw [hc i (by omega), List.getD_eq_getElem?_getD, List.getD_eq_getElem?_getD, List.getElem?_take_of_lt hi]
theorem Rd.cutFrom {w : World} {B n : Nat} {A : Option Addr} {bs : List Int} (h : Rd w B A n bs) {c k : Nat} (hk : k ≤ n) (hc : n ≤ c) : Rd w B (cutA A c k) (n - k) (bs.drop k) := by
  refine ⟨by rw [List.length_drop, h.1], h.2.1.drop k, fun hp => ?_⟩
  obtain ⟨b, off, e, hb, hcell⟩ := h.2.2 (by omega)
  subst e
  refine ⟨b, off + k, ?_, hb, fun i hi => ?_⟩
  · unfold cutA
    rw [if_neg (by omega), Option.map_some, addr_add]
  · rw [show off + k + i = off + (k + i) by omega, hcell (k + i) (by omega), List.getD_eq_getElem?_getD, List.getD_eq_getElem?_getD, List.getElem?_drop]
theorem RdP.cutTo {w : World} {P : Nat → Prop} {n : Nat} {A : Option Addr} {bs : List Int} (h : RdP w P A n bs) {m : Nat} (hm : m ≤ n) : RdP w P A m (bs.take m) :=
  ⟨h.1.cutTo hm, fun b off hn e => h.2 b off (by omega) e⟩
theorem RdP.cutFrom {w : World} {P : Nat → Prop} {n : Nat} {A : Option Addr} {bs : List Int} (h : RdP w P A n bs) {c k : Nat} (hk : k ≤ n) (hc : n ≤ c) : RdP w P (cutA A c k) (n - k) (bs.drop k) := by
  refine ⟨h.1.cutFrom hk hc, fun b off hn e => ?_⟩
  obtain ⟨b', off', e', hb, _⟩ := h.1.2.2 (by omega)
  subst e'
  unfold cutA at e
  rw [if_neg (by omega), Option.map_some, addr_add] at e
  injection e with e
  injection e with e1 e2
  subst e1
  exact h.2 _ off' (by omega) rfl

/-- Block p holds the cells l. -/
def At (w : World) (p : Nat) (T : TypeId) (l : List Value) : Prop := w.heap[p]? = some (.cells l.toArray T (0, 0))
section
variable {S : Nat → Prop} {w w' : World} {p : Nat} {T : TypeId} {l : List Value}
theorem At.lt (h : At w p T l) : p < w.heap.size := by
  rcases Nat.lt_or_ge p w.heap.size with hlt | hge
  · exact hlt
  · unfold At at h; rw [Array.getElem?_eq_none hge] at h; cases h
theorem At.cell (h : At w p T l) (j : Nat) : w.cell? ⟨p, j, none⟩ = l[j]? := by
  rw [cell_of_row w p j _ T (0, 0) h]; simp
theorem At.frozen (h : At w p T l) (j : Nat) : w.frozen? ⟨p, j, none⟩ = false := by
  unfold At at h
  simp [World.frozen?, h]
theorem At.kept (h : At w p T l) (k : Kept S w w') (hs : ¬ S p) : At w' p T l := (k.block p h.lt hs).trans h
theorem At.drew (h : At w p T l) : At w.drew p T l := h
theorem At.drewN (h : At w p T l) (n : Nat) : At (w.drewN n) p T l := h
theorem At.alloc (h : At w p T l) (o : Obj) : At (w.alloc o) p T l := (Below.heap_alloc w o p h.lt).trans h
theorem At.below {B : Nat} (h : At w p T l) (hb : Below B w w') (hp : p < B) : At w' p T l := (hb.block p hp).trans h
theorem At.new (w : World) (T : TypeId) (l : List Value) : At (w.alloc (.cells l.toArray T)) w.heap.size T l := heap_alloc_new w _
theorem At.set (h : At w p T l) (j : Nat) (u : Value) : At (w.setCell ⟨p, j, none⟩ u) p T (l.set j u) := by
  unfold At at *
  simp [World.setCell, Array.getElem?_modify, h]
theorem At.set_other (h : At w p T l) {q : Addr} (hq : q.block ≠ p) (u : Value) : At (w.setCell q u) p T l := (Below.heap_setCell w q u p (fun e => hq e.symm)).trans h
end
theorem Own.kept {S : Nat → Prop} {w w' : World} {base : Nat} {e : TypeId} {v : Value} {bs : List Int} (h : Own w base e v bs) (k : Kept S w w') (hs : ∀ j, v.ownBlock = some j → ¬ S j) : Own w' base e v bs :=
  h.keep fun j hj => k.block j (h.block_lt j hj).2 (hs j hj)
/-- What the call made reads, in its own block. -/
theorem Own.rdP {w : World} {base : Nat} {e : TypeId} {bs : List Int} {A : Option Addr} {n c : Nat} (h : Own w base e (.slice A n c) bs) (hn : bs.length = n) : RdP w (fun b => (Value.slice A n c).ownBlock = some b) A n bs := by
  refine ⟨Rd.of_own h.2 hn (by subst hn; exact h.1), fun b off _ e => ?_⟩
  subst e; rfl
/-- append(v, x...): v made by the call, x any row of bytes; where the new row lies. -/
theorem run_append_at {P : Program} {w : World} (base : Nat) (t ty e : TypeId) (i : TypeInfo) (ht : P.underlying t = some (.slice e)) (hi : P.info? e = some i) (hz : i.zero = some (.int .u8 0)) (hsize : i.size = 1) (hby : i.bytes = 1)
    (v : Value) (bs : List Int) (hown : Own w base e v bs)
    (B : Nat) (A : Option Addr) (m c : Nat) (news : List Int) (hr : Rd w B A m news)
    (hlen : bs.length + m ≤ 140737488355328) (hbase : base ≤ w.heap.size) :
    ∃ v' w', (Builtin.append_ #[t, t] ty #[v, .slice A m c]).run P w = .ok v' w' ∧ Own w' base e v' (bs ++ news) ∧ w.grownBy w' v.ownBlock ∧ (v'.ownBlock = v.ownBlock ∨ v'.ownBlock = some w.heap.size) := by
  have hnl := hr.1
  cases A with
  | none =>
    have hm : m = 0 := by
      rcases Nat.eq_zero_or_pos m with h0 | h0
      · exact h0
      · obtain ⟨b, off, h, _⟩ := hr.2.2 h0
        cases h
    subst hm
    obtain rfl := hr.zero
    refine ⟨v, w, ?_, by simpa using hown, World.grownBy.refl w _, .inl rfl⟩
    rcases hown.1.2 with ⟨rfl, h0⟩ | ⟨g, cap, cur, rfl, _, _, hnc, _⟩
    · simp [Builtin.append_, run_underlying ht, sizeOf, typeInfo, hi, Builtin.lenOf, Builtin.firstCells]
    · simp [Builtin.append_, run_underlying ht, sizeOf, typeInfo, hi, Builtin.lenOf, Builtin.firstCells, hnc, storeCells]
  | some ad =>
    have hnews : ∀ j u, (news.map (Value.int .u8))[j]? = some u → w.cell? (ad.add j) = some u := by
      intro j u hu
      have hm : 0 < m := by
        rcases Nat.eq_zero_or_pos m with h0 | h0
        · subst h0
          rw [hr.zero] at hu
          simp at hu
        · exact h0
      obtain ⟨ad', h1, hc⟩ := hr.cells hm
      injection h1 with h1
      subst h1
      exact hc j u hu
    obtain ⟨v', w', h1, h2, h3, _, h5⟩ := run_append_own_at (P := P) w base t ty e i (.int .u8 0) 1 1 ht hi hz hsize hby rfl (by decide) v bs.length (bs.map (Value.int .u8)) hown.1 ad m c (news.map (Value.int .u8)) (by simp [hnl]) hnews (oneCell_u8 news) (by unfold maxLen; omega) (by omega) hbase
    refine ⟨v', w', h1, ⟨?_, hown.2.app hr.2.1⟩, h3, h5⟩
    rw [List.map_append, List.length_append, hnl]
    exact h2
theorem wpList_append_at {P : Program} {w : World} {ops : Array Oper} {rest : List Oper} {o : Oper} {a : Act} {Q : Exit → Act → World → Prop} (hgd : o.guard = none) (s x : Operand) (t : TypeId)
    (ho : o.op = .call { callee := .builtin .append, args := #[s, x], argTypes := #[t, t] })
    (base : Nat) (e : TypeId) (i : TypeInfo) (ht : P.underlying t = some (.slice e)) (hi : P.info? e = some i) (hz : i.zero = some (.int .u8 0)) (hsize : i.size = 1) (hby : i.bytes = 1)
    (v : Value) (bs : List Int) (hs : a.eval s = v) (hown : Own w base e v bs)
    (B : Nat) (A : Option Addr) (m c : Nat) (news : List Int) (hx : a.eval x = .slice A m c) (hr : Rd w B A m news)
    (hlen : bs.length + m ≤ 140737488355328) (hbase : base ≤ w.heap.size)
    (h : ∀ v' w', Own w' base e v' (bs ++ news) → w.grownBy w' v.ownBlock → (v'.ownBlock = v.ownBlock ∨ v'.ownBlock = some w.heap.size) → wpList P ops Q rest (a.put o.dst v') w') : wpList P ops Q (o :: rest) a w := by
  refine wpList_plain hgd fun K hK => ?_
  obtain ⟨v', w', h1, h2, h3, h4⟩ := run_append_at (P := P) (w := w) base t o.type e i ht hi hz hsize hby v bs hown B A m c news hr hlen hbase
  unfold Oper.wp
  simp [execOp, ho, resolve, invoke, builtin, hs, hx, h1, Result.andThen]
  exact hK _ _ (h v' w' h2 h3 h4)
end
section
set_option linter.unusedVariables false
open Go.RowKit
def setFrom : List Value → Nat → List Value → List Value
  | l, _, [] => l
  | l, o, v :: r => setFrom (l.set o v) (o + 1) r
theorem setFrom_eq : ∀ (vs l : List Value) (o : Nat), o + vs.length ≤ l.length → setFrom l o vs = l.take o ++ vs ++ l.drop (o + vs.length)
  | [], l, o, h => by simp [setFrom]
  | v :: r, l, o, h => by
    simp at h
    rw [setFrom, setFrom_eq r (l.set o v) (o + 1) (by simp; omega)]
    have h1 : (l.set o v).take (o + 1) = l.take o ++ [v] := by
      rw [List.take_set, List.take_succ_eq_append_getElem (by omega), List.set_append_right _ _ (by simp; omega)]
      simp [List.length_take, Nat.min_eq_left (show o ≤ l.length by omega)]
    have h2 : (l.set o v).drop (o + 1 + r.length) = l.drop (o + (v :: r).length) := by
      rw [List.drop_set_of_lt (by omega)]
      simp [Nat.add_assoc, Nat.add_comm 1]
    rw [h1, h2]
    simp
theorem setFrom_all (l vs : List Value) (h : l.length = vs.length) : setFrom l 0 vs = vs := by
  rw [setFrom_eq vs l 0 (by omega)]
  simp [h]
section
variable {w : World} {p : Nat} {T : TypeId}
theorem At.setFrom : ∀ (vs l : List Value) (o : Nat) (w : World), At w p T l → At (w.setCells p o vs) p T (setFrom l o vs)
  | [], l, o, w, h => h
  | v :: r, l, o, w, h => At.setFrom r (l.set o v) (o + 1) (w.setCell ⟨p, o, none⟩ v) (h.set o v)
theorem Kept.setCells {S : Nat → Prop} {w0 : World} (hp : S p) : ∀ (vs : List Value) (o : Nat) (w : World), Kept S w0 w → Kept S w0 (w.setCells p o vs)
  | [], o, w, h => h
  | v :: r, o, w, h => Kept.setCells hp r (o + 1) (w.setCell ⟨p, o, none⟩ v) (h.setCell (.inl hp) v)
theorem At.there {l : List Value} (h : At w p T l) (n : Nat) (hn : n ≤ l.length) : w.there p 0 n := fun j hj => by
  rw [Nat.zero_add, h.cell, h.frozen]
  simp
  omega
theorem At.rangeAt {l : List Value} (h : At w p T l) : w.rangeAt p 0 l := fun j v hv => by rw [Nat.zero_add, h.cell, hv]
end
section
variable {P : Program} {ops : Array Oper} {rest : List Oper} {a : Act} {w : World} {Q : Exit → Act → World → Prop} {dst : Option Tmp} {x y : Operand} {ty t : TypeId} {pos : String} {after : Array Edge}
/-- The store: behind it the block holds what was stored; the world is a letter. -/
theorem wpList_store_at (p : Nat) (T : TypeId) (l l' : List Value) (hx : a.eval x = .pointer (some ⟨p, 0, none⟩)) (hy : a.eval y = .agg l'.toArray) (hA : At w p T l) (hl : l.length = l'.length)
    (hi : (P.info? ty).map (·.size) = some l'.length) (h1 : l'.all (·.oneCell') = true) (h : ∀ w', At w' p T l' → Kept (· = p) w w' → wpList P ops Q rest (a.put dst undef) w') :
    wpList P ops Q (⟨dst, .store ty x y, t, pos, after, none⟩ :: rest) a w := by
  refine wpList_store_mid rfl ty x y rfl p 0 l'.toArray hx hy (by simpa using hA.there _ (by omega)) (by simpa using hi) (by simpa using h1) ?_
  have := At.setFrom l' l 0 w hA
  rw [setFrom_all l l' hl] at this
  exact h _ (by simpa using this) (by simpa using Kept.setCells (S := (· = p)) rfl l' 0 w (Kept.refl _ _))
/-- The load. -/
theorem wpList_load_at (p : Nat) (T : TypeId) (l : List Value) (d : TypeDesc) (hx : a.eval x = .pointer (some ⟨p, 0, none⟩)) (hA : At w p T l) (hu : P.underlying ty = some d) (hd : d.isRow = true)
    (hi : (P.info? ty).map (·.size) = some l.length) (h : wpList P ops Q rest (a.put dst (.agg l.toArray)) w) : wpList P ops Q (⟨dst, .load ty x, t, pos, after, none⟩ :: rest) a w :=
  wpList_load_mid rfl ty x rfl p 0 hx l d hA.rangeAt hu hd hi h
end
theorem At.new_ {w : World} (T : TypeId) (l : List Value) (g : Nat) (hg : g = w.heap.size) : At (w.alloc (.cells l.toArray T)) g T l := by subst hg; exact At.new w T l
section
variable {P : Program} {w : World} {fn : Func} {tmps : Array Value}
theorem results_cell (s : Tmp) (ty : TypeId) (hr : fn.results = #[.cell s ty]) (p : Nat) (T : TypeId) (l : List Value) (d : TypeDesc) (hs : tmps.getD s undef = .pointer (some ⟨p, 0, none⟩)) (hA : At w p T l)
    (hu : P.underlying ty = some d) (hd : d.isRow = true) (hi : (P.info? ty).map (·.size) = some l.length) : (results fn tmps).run P w = .ok (.agg l.toArray) w := by
  have h := run_loadVar_mid (P := P) w p 0 ty l d hA.rangeAt hu hd hi
  rw [Array.getD_eq_getD_getElem?] at hs
  simp [results, hr, hs, asAddr, h]
theorem results_cell_tmp (s t : Tmp) (ty : TypeId) (hr : fn.results = #[.cell s ty, .tmp t]) (p : Nat) (T : TypeId) (l : List Value) (d : TypeDesc) (v : Value) (hs : tmps.getD s undef = .pointer (some ⟨p, 0, none⟩)) (ht : tmps.getD t undef = v) (hA : At w p T l)
    (hu : P.underlying ty = some d) (hd : d.isRow = true) (hi : (P.info? ty).map (·.size) = some l.length) : (results fn tmps).run P w = .ok (.tuple #[.agg l.toArray, v]) w := by
  have h := run_loadVar_mid (P := P) w p 0 ty l d hA.rangeAt hu hd hi
  rw [Array.getD_eq_getD_getElem?] at hs ht
  simp [results, hr, hs, ht, asAddr, h]
end
end
section
set_option linter.unusedVariables false
open Go.RowKit
/-- A slice's place. -/
structure Sl where
  A : Option Addr
  n : Nat
  c : Nat
def Sl.nil : Sl := ⟨none, 0, 0⟩
def FrPost (v : Value) (w : World) (e : Ending) (w' : World) : Prop := e = .returned v ∧ Below w.heap.size w w'
structure InD (w : World) (P : Nat → Prop) (d : Sl) (ds : List Int) : Prop where
  rd : RdP w P d.A d.n ds
  lc : d.n ≤ d.c
  cm : d.c ≤ maxLen
  nil : d.A = none → d.c = 0
section
variable {S P P' : Nat → Prop} {w w' : World} {d : Sl} {ds : List Int}
theorem InD.kept (h : InD w P d ds) (k : Kept S w w') (hs : ∀ b, P b → ¬ S b) : InD w' P d ds := ⟨h.rd.kept k hs, h.lc, h.cm, h.nil⟩
theorem InD.nil_ (w : World) (P : Nat → Prop) : InD w P .nil [] := ⟨RdP.none_ _ _ _, Nat.le_refl _, by unfold maxLen; exact Nat.zero_le _, fun _ => rfl⟩
theorem InD.mono (h : InD w P d ds) (hp : ∀ b, b < w.heap.size → P b → P' b) : InD w P' d ds := ⟨h.rd.mono hp, h.lc, h.cm, h.nil⟩
end
theorem belowN {B : Nat} {a w : World} (h : Below B a w) (n : Nat) : Below B a (w.drewN n) := ⟨h.os, h.tape, h.output, h.size, h.block⟩
end
end Go.Proofs.Ytdakbedohjemeaa
