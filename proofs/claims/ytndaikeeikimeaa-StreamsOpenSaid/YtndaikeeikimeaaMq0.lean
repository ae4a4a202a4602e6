/-
  Laws for rows of bytes over any program: a slice that reads as a list of bytes, one that the call itself made, making one, its text. Every condition stands in the law.
-/
import Derived.WalkKit
import Derived.ProofKit
import Derived.Lib.Hide
import Derived.OwnWalk
import Derived.Below
import Derived.Laws.OwnMore
import Derived.Laws.CopyOwn
import Derived.Laws.BytesArg
import Derived.Laws.ByValue
import Derived.Laws.Closers25b
import Derived.Maps.AppendAt
import Derived.Deep.AppendLies
import Derived.Deep.Draws
import Derived.Deep.MidRow
namespace Go.Proofs.Ytndaikeeikimeaa
section
set_option linter.unusedVariables false
open Go.RowKit

theorem addr_add (b off i : Nat) : (⟨b, off, none⟩ : Addr).add i = ⟨b, off + i, none⟩ := by
  unfold Addr.add
  by_cases h : i = 0
  · simp [h]
  · simp [h]
/-- Each number is a byte. -/
def Byt (bs : List Int) : Prop := ∀ x ∈ bs, 0 ≤ x ∧ x < 256
theorem Byt.nil : Byt [] := fun _ h => by cases h
theorem Byt.one {x : Int} (h : 0 ≤ x ∧ x < 256) : Byt [x] := fun y hy => by simp at hy; subst hy; exact h
theorem Byt.app {a b : List Int} (ha : Byt a) (hb : Byt b) : Byt (a ++ b) := fun x h => by
  rcases List.mem_append.1 h with h | h
  · exact ha x h
  · exact hb x h
theorem Byt.take {a : List Int} (ha : Byt a) (k : Nat) : Byt (a.take k) := fun x h => ha x (List.mem_of_mem_take h)
theorem Byt.drop {a : List Int} (ha : Byt a) (k : Nat) : Byt (a.drop k) := fun x h => ha x (List.mem_of_mem_drop h)
theorem Byt.getD {a : List Int} (ha : Byt a) (k : Nat) : 0 ≤ a.getD k 0 ∧ a.getD k 0 < 256 := by
  rw [List.getD_eq_getElem?_getD]
  rcases hk : a[k]? with _ | x
  · simp
  · exact ha x (List.mem_of_getElem? hk)

/-- The slice value with address A and n elements reads, in world w and below block B, as the bytes bs. -/
def Rd (w : World) (B : Nat) (A : Option Addr) (n : Nat) (bs : List Int) : Prop :=
  bs.length = n ∧ Byt bs ∧ (0 < n → ∃ b off, A = some ⟨b, off, none⟩ ∧ b < B ∧ ∀ i, i < n → w.cell? ⟨b, off + i, none⟩ = some (.int .u8 (bs.getD i 0)))
section
variable {w w' : World} {B B' n : Nat} {A : Option Addr} {bs : List Int}
theorem Rd.none_ (w : World) (B : Nat) (A : Option Addr) : Rd w B A 0 [] := ⟨rfl, Byt.nil, fun h => absurd h (by omega)⟩
theorem Rd.zero (h : Rd w B A 0 bs) : bs = [] := List.eq_nil_of_length_eq_zero h.1
theorem Rd.keep (h : Rd w B A n bs) (hB : B ≤ B') (hk : ∀ b off, b < B → w'.cell? ⟨b, off, none⟩ = w.cell? ⟨b, off, none⟩) : Rd w' B' A n bs :=
  ⟨h.1, h.2.1, fun hn => by
    obtain ⟨b, off, e, hb, hc⟩ := h.2.2 hn
    exact ⟨b, off, e, by omega, fun i hi => (hk b _ hb).trans (hc i hi)⟩⟩
theorem Rd.below (h : Rd w B A n bs) (hb : Below B w w') : Rd w' B A n bs := h.keep (Nat.le_refl _) fun b off hp => hb.cell (p := ⟨b, off, none⟩) hp
theorem Rd.drew (h : Rd w B A n bs) : Rd w.drew B A n bs := h
theorem Rd.drewN (h : Rd w B A n bs) (k : Nat) : Rd (w.drewN k) B A n bs := h
theorem Rd.alloc (h : Rd w B A n bs) (hB : B ≤ w.heap.size) (o : Obj) : Rd (w.alloc o) B A n bs := h.keep (Nat.le_refl _) fun b off hp => World.cell?_alloc_lt w o ⟨b, off, none⟩ (by show b < _; omega)
theorem Rd.of_own {base : Nat} {e : TypeId} {c : Nat} (hb : Byt bs) (hn : bs.length = n) (h : w.ownsRow base e 1 (.slice A n c) n (bs.map (Value.int .u8))) : Rd w w.heap.size A n bs := by
  refine ⟨hn, hb, fun hp => ?_⟩
  obtain ⟨g, cap, hv, _, hlt⟩ := h.form hp
  have hA : A = some ⟨g, 0, none⟩ := by injection hv
  subst hA
  refine ⟨g, 0, rfl, hlt, fun i hi => ?_⟩
  have := h.cells (g := g) rfl i (.int .u8 (bs.getD i 0)) (by
    rw [List.getElem?_map, List.getD_eq_getElem?_getD]
    have : i < bs.length := by omega
    simp [List.getElem?_eq_getElem this])
  rw [addr_add] at this
  exact this
end

/-- The value v is a slice that the call made itself (no block below base), of the bytes bs. -/
def Own (w : World) (base : Nat) (e : TypeId) (v : Value) (bs : List Int) : Prop := w.ownsRow base e 1 v bs.length (bs.map (Value.int .u8)) ∧ Byt bs
theorem Own.open_ {w : World} {base : Nat} {e : TypeId} {v : Value} {bs : List Int} (h : Own w base e v bs) :
    ∃ A c, v = .slice A bs.length c ∧ bs.length ≤ c ∧ c ≤ maxLen ∧ Rd w w.heap.size A bs.length bs := by
  rcases h.1.2 with ⟨rfl, h0⟩ | ⟨g, cap, cur, rfl, _, _, h1, h2, _⟩
  · exact ⟨none, 0, by rw [h0], by omega, by unfold maxLen; omega, by rw [List.eq_nil_of_length_eq_zero h0]; exact Rd.none_ _ _ _⟩
  · exact ⟨_, cap, rfl, h1, h2, Rd.of_own h.2 rfl h.1⟩

theorem Rd.block {w : World} {g off n B : Nat} {cur : Array Value} {t : TypeId} {bs : List Int} (hb : Byt bs) (hn : bs.length = n) (h : w.heap[g]? = some (.cells cur t (0, 0)))
    (hc : (cur.toList.drop off).take n = bs.map (Value.int .u8)) (hg : g < B) : Rd w B (some ⟨g, off, none⟩) n bs := by
  refine ⟨hn, hb, fun hp => ⟨g, off, rfl, hg, fun i hi => ?_⟩⟩
  rw [cell_of_row w g (off + i) cur t (0, 0) h]
  have h1 : ((cur.toList.drop off).take n)[i]? = some (.int .u8 (bs.getD i 0)) := by
    rw [hc, List.getElem?_map, List.getD_eq_getElem?_getD]
    have : i < bs.length := by omega
    simp [List.getElem?_eq_getElem this]
  rw [List.getElem?_take_of_lt hi, List.getElem?_drop] at h1
  simpa using h1
theorem Rd.cells {w : World} {B n : Nat} {A : Option Addr} {bs : List Int} (h : Rd w B A n bs) (hp : 0 < n) :
    ∃ ad, A = some ad ∧ ∀ j u, (bs.map (Value.int .u8))[j]? = some u → w.cell? (ad.add j) = some u := by
  obtain ⟨b, off, rfl, _, hc⟩ := h.2.2 hp
  refine ⟨_, rfl, fun j u hu => ?_⟩
  rw [List.getElem?_map] at hu
  have hj : j < bs.length := by
    rcases Nat.lt_or_ge j bs.length with h | h
    · exact h
    · rw [List.getElem?_eq_none h] at hu; cases hu
  rw [addr_add, hc j (by rw [← h.1]; exact hj), List.getD_eq_getElem?_getD]
  rw [List.getElem?_eq_getElem hj] at hu ⊢
  simpa using hu
theorem oneCell_u8 (bs : List Int) : ∀ u ∈ bs.map (Value.int .u8), u.oneCell' = true := fun u hu => by
  obtain ⟨y, _, rfl⟩ := List.mem_map.1 hu
  rfl
theorem Own.of_block {w : World} {base g n cap : Nat} {e : TypeId} {cur : Array Value} {bs : List Int} (hb : Byt bs) (hn : bs.length = n) (h : w.heap[g]? = some (.cells cur e (0, 0)))
    (hbase : base ≤ g) (hnc : n ≤ cap) (hm : cap ≤ maxLen) (hsz : cur.size = cap) (hc : cur.toList.take n = bs.map (Value.int .u8)) : Own w base e (.slice (some ⟨g, 0, none⟩) n cap) bs := by
  subst hn
  exact ⟨⟨by simp, .inr ⟨g, cap, cur, rfl, hbase, h, hnc, hm, by omega, by simpa using hc⟩⟩, hb⟩
theorem Own.none_ (w : World) (base : Nat) (e : TypeId) : Own w base e (.slice none 0 0) [] := ⟨⟨by simp, .inl ⟨rfl, rfl⟩⟩, Byt.nil⟩
theorem Own.byt {w : World} {base : Nat} {e : TypeId} {v : Value} {bs : List Int} (h : Own w base e v bs) : Byt bs := h.2
theorem Own.drew {w : World} {base : Nat} {e : TypeId} {v : Value} {bs : List Int} (h : Own w base e v bs) : Own w.drew base e v bs := h
theorem Own.alloc {w : World} {base : Nat} {e : TypeId} {v : Value} {bs : List Int} (h : Own w base e v bs) (o : Obj) : Own (w.alloc o) base e v bs := ⟨h.1.alloc o, h.2⟩
theorem Own.base_ {w : World} {base base' : Nat} {e : TypeId} {v : Value} {bs : List Int} (h : Own w base e v bs) (hb : base' ≤ base) : Own w base' e v bs := by
  refine ⟨⟨h.1.1, ?_⟩, h.2⟩
  rcases h.1.2 with h0 | ⟨g, cap, cur, h1, h2, h3⟩
  · exact .inl h0
  · exact .inr ⟨g, cap, cur, h1, by omega, h3⟩
/-- What the call made stays, where only blocks from another base on are written. -/
theorem Own.block_lt {w : World} {base : Nat} {e : TypeId} {v : Value} {bs : List Int} (h : Own w base e v bs) : ∀ k, v.ownBlock = some k → base ≤ k ∧ k < w.heap.size := by
  intro k hk
  rcases h.1.2 with ⟨rfl, _⟩ | ⟨g, cap, cur, rfl, h2, h3, _⟩
  · simp [Value.ownBlock] at hk
  · simp [Value.ownBlock] at hk
    subst hk
    refine ⟨h2, ?_⟩
    rcases Nat.lt_or_ge g w.heap.size with hlt | hge
    · exact hlt
    · rw [Array.getElem?_eq_none hge] at h3; cases h3
theorem Own.keep {w w' : World} {base : Nat} {e : TypeId} {v : Value} {bs : List Int} (h : Own w base e v bs) (hk : ∀ k, v.ownBlock = some k → w'.heap[k]? = w.heap[k]?) : Own w' base e v bs := by
  refine ⟨⟨h.1.1, ?_⟩, h.2⟩
  rcases h.1.2 with h0 | ⟨g, cap, cur, rfl, h2, h3, h4⟩
  · exact .inl h0
  · exact .inr ⟨g, cap, cur, rfl, h2, (hk g rfl).trans h3, h4⟩
theorem Own.below {w w' : World} {base B : Nat} {e : TypeId} {v : Value} {bs : List Int} (h : Own w base e v bs) (hb : Below B w w') (hB : w.heap.size ≤ B) : Own w' base e v bs :=
  h.keep fun k hk => hb.block k (by have := (h.block_lt k hk).2; omega)

end
section
set_option linter.unusedVariables false
open Go.RowKit

/-- Every block of w that is not in S is in w' as it was. -/
structure Kept (S : Nat → Prop) (w w' : World) : Prop where
  os : w'.os = w.os
  tape : w'.tape = w.tape
  output : w'.output = w.output
  size : w.heap.size ≤ w'.heap.size
  block : ∀ k, k < w.heap.size → ¬ S k → w'.heap[k]? = w.heap[k]?
section
variable {S S' : Nat → Prop} {w w' w'' : World}
theorem Kept.refl (S : Nat → Prop) (w : World) : Kept S w w := ⟨rfl, rfl, rfl, Nat.le_refl _, fun _ _ _ => rfl⟩
theorem Kept.trans' (h : Kept S w w') (k : Kept S' w' w'') (hs : ∀ j, S' j → S j ∨ w.heap.size ≤ j) : Kept S w w'' :=
  ⟨k.os.trans h.os, k.tape.trans h.tape, k.output.trans h.output, Nat.le_trans h.size k.size, fun j hj hn =>
    (k.block j (Nat.lt_of_lt_of_le hj h.size) (fun hs' => by rcases hs j hs' with h1 | h1; exact hn h1; omega)).trans (h.block j hj hn)⟩
theorem Kept.trans (h : Kept S w w') (k : Kept S w' w'') : Kept S w w'' := h.trans' k fun _ => .inl
theorem Kept.mono (h : Kept S w w') (hs : ∀ j, S j → S' j ∨ w.heap.size ≤ j) : Kept S' w w' :=
  ⟨h.os, h.tape, h.output, h.size, fun j hj hn => h.block j hj fun hs' => by rcases hs j hs' with h1 | h1; exact hn h1; omega⟩
theorem Kept.drew (h : Kept S w w') : Kept S w w'.drew := ⟨h.os, h.tape, h.output, h.size, h.block⟩
theorem Kept.drewN (h : Kept S w w') (n : Nat) : Kept S w (w'.drewN n) := ⟨h.os, h.tape, h.output, h.size, h.block⟩
theorem Kept.from_drew (h : Kept S w.drew w') : Kept S w w' := ⟨h.os, h.tape, h.output, h.size, h.block⟩
theorem Kept.alloc (h : Kept S w w') (o : Obj) : Kept S w (w'.alloc o) :=
  ⟨h.os, h.tape, h.output, Nat.le_trans h.size (by simp), fun j hj hn => (Below.heap_alloc w' o j (Nat.lt_of_lt_of_le hj h.size)).trans (h.block j hj hn)⟩
theorem Kept.setCell (h : Kept S w w') {p : Addr} (hp : S p.block ∨ w.heap.size ≤ p.block) (u : Value) : Kept S w (w'.setCell p u) :=
  ⟨h.os, h.tape, h.output, by simpa [World.setCell] using h.size, fun j hj hn => (Below.heap_setCell w' p u j (by
    rintro rfl
    rcases hp with hp | hp
    · exact hn hp
    · omega)).trans (h.block j hj hn)⟩
theorem Kept.setAt {p : Nat} (h : Kept (· = p) w w') (j : Nat) (u : Value) : Kept (· = p) w (w'.setCell ⟨p, j, none⟩ u) := h.setCell (.inl rfl) u
theorem Kept.of_below (h : Below w.heap.size w w') (S : Nat → Prop) : Kept S w w' := ⟨h.os, h.tape, h.output, h.size, fun j hj _ => h.block j hj⟩
theorem Kept.of_grown {row : Option Nat} (h : w.grownBy w' row) (hs : ∀ k, row = some k → S k ∨ w.heap.size ≤ k) : Kept S w w' :=
  ⟨h.os, h.tape, h.output, h.size, fun j hj hn => h.block j hj fun e => by rcases hs j e.symm with h1 | h1; exact hn h1; omega⟩
theorem Kept.below {B : Nat} {a : World} (k : Kept S w w') (h : Below B a w) (hB : B ≤ w.heap.size) (hs : ∀ j, S j → B ≤ j) : Below B a w' :=
  h.trans ⟨k.os, k.tape, k.output, k.size, fun j hj => k.block j (Nat.lt_of_lt_of_le hj hB) fun hj' => by have := hs j hj'; omega⟩
theorem Kept.cell (h : Kept S w w') {p : Addr} (hp : p.block < w.heap.size) (hs : ¬ S p.block) : w'.cell? p = w.cell? p := World.cell?_of_block (h.block p.block hp hs)
theorem Kept.frozen (h : Kept S w w') {p : Addr} (hp : p.block < w.heap.size) (hs : ¬ S p.block) : w'.frozen? p = w.frozen? p := World.frozen?_of_block (h.block p.block hp hs)
end

/-- The slice value with address A and n elements reads as the bytes bs, in a block that P allows. -/
def RdP (w : World) (P : Nat → Prop) (A : Option Addr) (n : Nat) (bs : List Int) : Prop :=
  Rd w w.heap.size A n bs ∧ ∀ b off, 0 < n → A = some ⟨b, off, none⟩ → P b
section
variable {S P P' : Nat → Prop} {w w' : World} {n : Nat} {A : Option Addr} {bs : List Int}
theorem RdP.none_ (w : World) (P : Nat → Prop) (A : Option Addr) : RdP w P A 0 [] := ⟨Rd.none_ _ _ _, fun _ _ h => absurd h (by omega)⟩
theorem RdP.mono (h : RdP w P A n bs) (hp : ∀ b, b < w.heap.size → P b → P' b) : RdP w P' A n bs :=
  ⟨h.1, fun b off hn e => by
    obtain ⟨b', off', e', hb, _⟩ := h.1.2.2 hn
    rw [e] at e'
    injection e' with e'
    injection e' with e1 e2
    exact hp b (by omega) (h.2 b off hn e)⟩
theorem RdP.kept (h : RdP w P A n bs) (k : Kept S w w') (hs : ∀ b, P b → ¬ S b) : RdP w' P A n bs := by
  refine ⟨⟨h.1.1, h.1.2.1, fun hn => ?_⟩, h.2⟩
  obtain ⟨b, off, e, hb, hc⟩ := h.1.2.2 hn
  refine ⟨b, off, e, Nat.lt_of_lt_of_le hb k.size, fun i hi => ?_⟩
  rw [k.cell (p := ⟨b, off + i, none⟩) hb (hs b (h.2 b off hn e))]
  exact hc i hi
theorem RdP.len (h : RdP w P A n bs) : bs.length = n := h.1.1
theorem RdP.byt (h : RdP w P A n bs) : Byt bs := h.1.2.1
end
/-- The address of the elements from k on. -/
def cutA (A : Option Addr) (c k : Nat) : Option Addr := if c = k then A else A.map fun a => a.add k
theorem Rd.cutTo {w : World} {B n : Nat} {A : Option Addr} {bs : List Int} (h : Rd w B A n bs) {m : Nat} (hm : m ≤ n) : Rd w B A m (bs.take m) := by
  refine ⟨by rw [List.length_take, h.1]; omega, h.2.1.take m, fun hp => ?_⟩
  obtain ⟨b, off, e, hb, hc⟩ := h.2.2 (by omega)
  refine ⟨b, off, e, hb, fun i hi => ?_⟩
  rw [hc i (by omega), List.getD_eq_getElem?_getD, List.getD_eq_getElem?_getD, List.getElem?_take_of_lt hi]
theorem Rd.cutFrom {w : World} {B n : Nat} {A : Option Addr} {bs : List Int} (h : Rd w B A n bs) {c k : Nat} (hk : k ≤ n) (hc : n ≤ c) : Rd w B (cutA A c k) (n - k) (bs.drop k) := by
  refine ⟨by rw [List.length_drop, h.1], h.2.1.drop k, fun hp => ?_⟩
  obtain ⟨b, off, e, hb, hcell⟩ := h.2.2 (by omega)
  subst e
  refine ⟨b, off + k, ?_, hb, fun i hi => ?_⟩
  · unfold cutA
    rw [if_neg (by omega), Option.map_some, addr_add]
  · rw [show off + k + i = off + (k + i) by omega, hcell (k + i) (by omega), List.getD_eq_getElem?_getD, List.getD_eq_getElem?_getD, List.getElem?_drop]
theorem RdP.cutTo {w : World} {P : Nat → Prop} {n : Nat} {A : Option Addr} {bs : List Int} (h : RdP w P A n bs) {m : Nat} (hm : m ≤ n) : RdP w P A m (bs.take m) :=
  ⟨h.1.cutTo hm, fun b off hn e => h.2 b off (by omega) e⟩
theorem RdP.cutFrom {w : World} {P : Nat → Prop} {n : Nat} {A : Option Addr} {bs : List Int} (h : RdP w P A n bs) {c k : Nat} (hk : k ≤ n) (hc : n ≤ c) : RdP w P (cutA A c k) (n - k) (bs.drop k) := by
  refine ⟨h.1.cutFrom hk hc, fun b off hn e => ?_⟩
  obtain ⟨b', off', e', hb, _⟩ := h.1.2.2 (by omega)
  subst e'
  unfold cutA at e
  rw [if_neg (by omega), Option.map_some, addr_add] at e
  injection e with e
  injection e with e1 e2
  subst e1
  exact h.2 _ off' (by omega) rfl

/-- Block p holds the cells l. -/
def At (w : World) (p : Nat) (T : TypeId) (l : List Value) : Prop := w.heap[p]? = some (.cells l.toArray T (0, 0))
section
variable {S : Nat → Prop} {w w' : World} {p : Nat} {T : TypeId} {l : List Value}
theorem At.lt (h : At w p T l) : p < w.heap.size := by
  rcases Nat.lt_or_ge p w.heap.size with hlt | hge
  · exact hlt
  · unfold At at h; rw [Array.getElem?_eq_none hge] at h; cases h
theorem At.cell (h : At w p T l) (j : Nat) : w.cell? ⟨p, j, none⟩ = l[j]? := by
  rw [cell_of_row w p j _ T (0, 0) h]; simp
theorem At.frozen (h : At w p T l) (j : Nat) : w.frozen? ⟨p, j, none⟩ = false := by
  unfold At at h
  simp [World.frozen?, h]
theorem At.kept (h : At w p T l) (k : Kept S w w') (hs : ¬ S p) : At w' p T l := (k.block p h.lt hs).trans h
theorem At.drew (h : At w p T l) : At w.drew p T l := h
theorem At.drewN (h : At w p T l) (n : Nat) : At (w.drewN n) p T l := h
theorem At.alloc (h : At w p T l) (o : Obj) : At (w.alloc o) p T l := (Below.heap_alloc w o p h.lt).trans h
theorem At.below {B : Nat} (h : At w p T l) (hb : Below B w w') (hp : p < B) : At w' p T l := (hb.block p hp).trans h
theorem At.new (w : World) (T : TypeId) (l : List Value) : At (w.alloc (.cells l.toArray T)) w.heap.size T l := heap_alloc_new w _
theorem At.set (h : At w p T l) (j : Nat) (u : Value) : At (w.setCell ⟨p, j, none⟩ u) p T (l.set j u) := by
  unfold At at *
  simp [World.setCell, Array.getElem?_modify, h]
theorem At.set_other (h : At w p T l) {q : Addr} (hq : q.block ≠ p) (u : Value) : At (w.setCell q u) p T l := (Below.heap_setCell w q u p (fun e => hq e.symm)).trans h
end
theorem Own.kept {S : Nat → Prop} {w w' : World} {base : Nat} {e : TypeId} {v : Value} {bs : List Int} (h : Own w base e v bs) (k : Kept S w w') (hs : ∀ j, v.ownBlock = some j → ¬ S j) : Own w' base e v bs :=
  h.keep fun j hj => k.block j (h.block_lt j hj).2 (hs j hj)
end
section
set_option linter.unusedVariables false
open Go.RowKit
/-- A slice's place. -/
structure Sl where
  A : Option Addr
  n : Nat
  c : Nat
def Sl.nil : Sl := ⟨none, 0, 0⟩
structure InD (w : World) (P : Nat → Prop) (d : Sl) (ds : List Int) : Prop where
  rd : RdP w P d.A d.n ds
  lc : d.n ≤ d.c
  cm : d.c ≤ maxLen
  nil : d.A = none → d.c = 0
section
variable {S P P' : Nat → Prop} {w w' : World} {d : Sl} {ds : List Int}
theorem InD.kept (h : InD w P d ds) (k : Kept S w w') (hs : ∀ b, P b → ¬ S b) : InD w' P d ds := ⟨h.rd.kept k hs, h.lc, h.cm, h.nil⟩
theorem InD.nil_ (w : World) (P : Nat → Prop) : InD w P .nil [] := ⟨RdP.none_ _ _ _, Nat.le_refl _, by unfold maxLen; exact Nat.zero_le _, fun _ => rfl⟩
theorem InD.mono (h : InD w P d ds) (hp : ∀ b, b < w.heap.size → P b → P' b) : InD w P' d ds := ⟨h.rd.mono hp, h.lc, h.cm, h.nil⟩
end
theorem belowN {B : Nat} {a w : World} (h : Below B a w) (n : Nat) : Below B a (w.drewN n) := ⟨h.os, h.tape, h.output, h.size, h.block⟩
end
section
set_option linter.unusedVariables false
open Go.RowKit
def setFrom : List Value → Nat → List Value → List Value
  | l, _, [] => l
  | l, o, v :: r => setFrom (l.set o v) (o + 1) r
section
variable {w : World} {p : Nat} {T : TypeId}
theorem At.setFrom : ∀ (vs l : List Value) (o : Nat) (w : World), At w p T l → At (w.setCells p o vs) p T (setFrom l o vs)
  | [], l, o, w, h => h
  | v :: r, l, o, w, h => At.setFrom r (l.set o v) (o + 1) (w.setCell ⟨p, o, none⟩ v) (h.set o v)
theorem Kept.setCells {S : Nat → Prop} {w0 : World} (hp : S p) : ∀ (vs : List Value) (o : Nat) (w : World), Kept S w0 w → Kept S w0 (w.setCells p o vs)
  | [], o, w, h => h
  | v :: r, o, w, h => Kept.setCells hp r (o + 1) (w.setCell ⟨p, o, none⟩ v) (h.setCell (.inl hp) v)
theorem At.rangeAt {l : List Value} (h : At w p T l) : w.rangeAt p 0 l := fun j v hv => by rw [Nat.zero_add, h.cell, hv]
end
section
variable {P : Program} {ops : Array Oper} {rest : List Oper} {a : Act} {w : World} {Q : Exit → Act → World → Prop} {dst : Option Tmp} {x y : Operand} {ty t : TypeId} {pos : String} {after : Array Edge}
/-- The load. -/
theorem wpList_load_at (p : Nat) (T : TypeId) (l : List Value) (d : TypeDesc) (hx : a.eval x = .pointer (some ⟨p, 0, none⟩)) (hA : At w p T l) (hu : P.underlying ty = some d) (hd : d.isRow = true)
    (hi : (P.info? ty).map (·.size) = some l.length) (h : wpList P ops Q rest (a.put dst (.agg l.toArray)) w) : wpList P ops Q (⟨dst, .load ty x, t, pos, after, none⟩ :: rest) a w :=
  wpList_load_mid rfl ty x rfl p 0 hx l d hA.rangeAt hu hd hi h
end
section
variable {P : Program} {w : World} {fn : Func} {tmps : Array Value}
theorem results_cell_tmp (s t : Tmp) (ty : TypeId) (hr : fn.results = #[.cell s ty, .tmp t]) (p : Nat) (T : TypeId) (l : List Value) (d : TypeDesc) (v : Value) (hs : tmps.getD s undef = .pointer (some ⟨p, 0, none⟩)) (ht : tmps.getD t undef = v) (hA : At w p T l)
    (hu : P.underlying ty = some d) (hd : d.isRow = true) (hi : (P.info? ty).map (·.size) = some l.length) : (results fn tmps).run P w = .ok (.tuple #[.agg l.toArray, v]) w := by
  have h := run_loadVar_mid (P := P) w p 0 ty l d hA.rangeAt hu hd hi
  rw [Array.getD_eq_getD_getElem?] at hs ht
  simp [results, hr, hs, ht, asAddr, h]
end
end
end Go.Proofs.Ytndaikeeikimeaa
