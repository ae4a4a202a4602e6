/-
  Laws for rows of bytes over any program: a slice that reads as a list of bytes, one that the call itself made, making one, its text. Every condition stands in the law.
-/
import Derived.WalkKit
import Derived.ProofKit
import Derived.Lib.Hide
import Derived.OwnWalk
import Derived.Below
import Derived.Laws.OwnMore
import Derived.Laws.CopyOwn
import Derived.Laws.BytesArg
import Derived.Laws.ByValue
import Derived.Laws.Closers25b
import Derived.Maps.AppendAt
import Derived.Deep.AppendLies
import Derived.Deep.Draws
namespace Go.Proofs.Ytdakbedohjemeaa
set_option linter.unusedVariables false
open Go.RowKit

theorem addr_add (b off i : Nat) : (⟨b, off, none⟩ : Addr).add i = ⟨b, off + i, none⟩ := by
  unfold Addr.add
  by_cases h : i = 0
  · simp [h]
  · simp [h]
/-- Each number is a byte. -/
def Byt (bs : List Int) : Prop := ∀ x ∈ bs, 0 ≤ x ∧ x < 256
theorem Byt.nil : Byt [] := fun _ h => by cases h
theorem Byt.one {x : Int} (h : 0 ≤ x ∧ x < 256) : Byt [x] := fun y hy => by simp at hy; subst hy; exact h
theorem Byt.app {a b : List Int} (ha : Byt a) (hb : Byt b) : Byt (a ++ b) := fun x h => by
  rcases List.mem_append.1 h with h | h
  · exact ha x h
  · exact hb x h
theorem Byt.take {a : List Int} (ha : Byt a) (k : Nat) : Byt (a.take k) := fun x h => ha x (List.mem_of_mem_take h)
theorem Byt.drop {a : List Int} (ha : Byt a) (k : Nat) : Byt (a.drop k) := fun x h => ha x (List.mem_of_mem_drop h)
theorem Byt.getD {a : List Int} (ha : Byt a) (k : Nat) : 0 ≤ a.getD k 0 ∧ a.getD k 0 < 256 := by
  rw [List.getD_eq_getElem?_getD]
  rcases hk : a[k]? with _ | x
  · simp
  · exact ha x (List.mem_of_getElem? hk)

/-- The slice value with address A and n elements reads, in world w and below block B, as the bytes bs. -/
def Rd (w : World) (B : Nat) (A : Option Addr) (n : Nat) (bs : List Int) : Prop :=
  bs.length = n ∧ Byt bs ∧ (0 < n → ∃ b off, A = some ⟨b, off, none⟩ ∧ b < B ∧ ∀ i, i < n → w.cell? ⟨b, off + i, none⟩ = some (.int .u8 (bs.getD i 0)))
section
variable {w w' : World} {B B' n : Nat} {A : Option Addr} {bs : List Int}
theorem Rd.none_ (w : World) (B : Nat) (A : Option Addr) : Rd w B A 0 [] := ⟨rfl, Byt.nil, fun h => absurd h (by omega)⟩
theorem Rd.zero (h : Rd w B A 0 bs) : bs = [] := List.eq_nil_of_length_eq_zero h.1
theorem Rd.keep (h : Rd w B A n bs) (hB : B ≤ B') (hk : ∀ b off, b < B → w'.cell? ⟨b, off, none⟩ = w.cell? ⟨b, off, none⟩) : Rd w' B' A n bs :=
  ⟨h.1, h.2.1, fun hn => by
    obtain ⟨b, off, e, hb, hc⟩ := h.2.2 hn
    exact ⟨b, off, e, by omega, fun i hi => (hk b _ hb).trans (hc i hi)⟩⟩
theorem Rd.below (h : Rd w B A n bs) (hb : Below B w w') : Rd w' B A n bs := h.keep (Nat.le_refl _) fun b off hp => hb.cell (p := ⟨b, off, none⟩) hp
theorem Rd.drew (h : Rd w B A n bs) : Rd w.drew B A n bs := h
theorem Rd.drewN (h : Rd w B A n bs) (k : Nat) : Rd (w.drewN k) B A n bs := h
theorem Rd.alloc (h : Rd w B A n bs) (hB : B ≤ w.heap.size) (o : Obj) : Rd (w.alloc o) B A n bs := h.keep (Nat.le_refl _) fun b off hp => World.cell?_alloc_lt w o ⟨b, off, none⟩ (by show b < _; omega)
theorem Rd.more (h : Rd w B A n bs) (hB : B ≤ B') : Rd w B' A n bs := h.keep hB fun _ _ _ => rfl
theorem Rd.of_own {base : Nat} {e : TypeId} {c : Nat} (hb : Byt bs) (hn : bs.length = n) (h : w.ownsRow base e 1 (.slice A n c) n (bs.map (Value.int .u8))) : Rd w w.heap.size A n bs := by
  refine ⟨hn, hb, fun hp => ?_⟩
  obtain ⟨g, cap, hv, _, hlt⟩ := h.form hp
  have hA : A = some ⟨g, 0, none⟩ := by injection hv
  subst hA
  refine ⟨g, 0, rfl, hlt, fun i hi => ?_⟩
  have := h.cells (g := g) rfl i (.int .u8 (bs.getD i 0)) (by
    rw [List.getElem?_map, List.getD_eq_getElem?_getD]
    have : i < bs.length := by omega
    simp [List.getElem?_eq_getElem this])
  rw [addr_add] at this
  exact this
end

/-- The value v is a slice that the call made itself (no block below base), of the bytes bs. -/
def Own (w : World) (base : Nat) (e : TypeId) (v : Value) (bs : List Int) : Prop := w.ownsRow base e 1 v bs.length (bs.map (Value.int .u8)) ∧ Byt bs
theorem Own.open_ {w : World} {base : Nat} {e : TypeId} {v : Value} {bs : List Int} (h : Own w base e v bs) :
    ∃ A c, v = .slice A bs.length c ∧ bs.length ≤ c ∧ c ≤ maxLen ∧ Rd w w.heap.size A bs.length bs := by
  rcases h.1.2 with ⟨rfl, h0⟩ | ⟨g, cap, cur, rfl, _, _, h1, h2, _⟩
  · exact ⟨none, 0, by rw [h0], by omega, by unfold maxLen; omega, by rw [List.eq_nil_of_length_eq_zero h0]; exact Rd.none_ _ _ _⟩
  · exact ⟨_, cap, rfl, h1, h2, Rd.of_own h.2 rfl h.1⟩

theorem Own.open_n {w : World} {base : Nat} {e : TypeId} {v : Value} {bs : List Int} (h : Own w base e v bs) (n : Nat) (hn : bs.length = n) :
    ∃ A c, v = .slice A n c ∧ n ≤ c ∧ c ≤ maxLen ∧ Rd w w.heap.size A n bs := by
  subst hn; exact h.open_
/-- The cells of a new block. -/
def madeL (z : Value) (n : Nat) : List Value := (madeCells z.cells n).toList
theorem madeL_len (z : Value) (n : Nat) : (madeL z n).length = n := by simp [madeL, size_madeCells]
/-- make([]T, l, c): a new block of c zero cells, known whole. -/
theorem wpList_make_lc {P : Program} {w : World} {ops : Array Oper} {rest : List Oper} {o : Oper} {a : Act} {Q : Exit → Act → World → Prop}
    (hg : o.guard = none) (l c : Operand) (t : TypeId) (hop : o.op = Op.makeSlice t l c)
    (e : TypeId) (i : TypeInfo) (z : Value) (h1 : P.underlying t = some (.slice e)) (h2 : P.info? e = some i) (h3 : i.zero = some z) (h4 : i.size = 1)
    (kl kc : IntKind) (L C : Int) (m n : Nat) (hl : a.eval l = .int kl L) (hc : a.eval c = .int kc C) (hL : L = (m : Int)) (hC : C = (n : Int)) (hmn : m ≤ n) (b2 : i.bytes * n ≤ 281474976710656) (b3 : n ≤ maxLen)
    (base : Nat) (w0 : World) (hb : Below base w0 w) (hbase : base ≤ w.heap.size)
    (hK : ∀ w' g, Hid (w'.heap[g]? = some (.cells (madeL z n).toArray e (0, 0))) → Hid (g = w.heap.size) → base ≤ g → Below base w0 w' → Below w.heap.size w w' → wpList P ops Q rest (a.put o.dst (.slice (some ⟨g, 0, none⟩) m n)) w') :
    wpList P ops Q (o :: rest) a w := by
  refine wpList_plain hg fun K hK' => ?_
  subst hL; subst hC
  have hb' : (i.bytes : Int) * (n : Int) ≤ 281474976710656 := by
    have : ((i.bytes * n : Nat) : Int) ≤ 281474976710656 := by omega
    simpa using this
  have hrun := run_make (P := P) (w := w) t e i z h1 h2 h3 kl kc (m : Int) (n : Int) (by omega) (by omega) hb' (by unfold maxLen at b3; omega)
  unfold Oper.wp
  simp [execOp, hop, hl, hc, hrun, Result.andThen, h4]
  refine hK' _ _ (hK _ _ ?_ rfl hbase (hb.alloc hbase _) ((Below.refl _ _).alloc (Nat.le_refl _) _))
  show _ = _
  rw [heap_alloc_new]
  simp [madeL]
theorem Rd.block {w : World} {g off n B : Nat} {cur : Array Value} {t : TypeId} {bs : List Int} (hb : Byt bs) (hn : bs.length = n) (h : w.heap[g]? = some (.cells cur t (0, 0)))
    (hc : (cur.toList.drop off).take n = bs.map (Value.int .u8)) (hg : g < B) : Rd w B (some ⟨g, off, none⟩) n bs := by
  refine ⟨hn, hb, fun hp => ⟨g, off, rfl, hg, fun i hi => ?_⟩⟩
  rw [cell_of_row w g (off + i) cur t (0, 0) h]
  have h1 : ((cur.toList.drop off).take n)[i]? = some (.int .u8 (bs.getD i 0)) := by
    rw [hc, List.getElem?_map, List.getD_eq_getElem?_getD]
    have : i < bs.length := by omega
    simp [List.getElem?_eq_getElem this]
  rw [List.getElem?_take_of_lt hi, List.getElem?_drop] at h1
  simpa using h1
theorem Rd.cells {w : World} {B n : Nat} {A : Option Addr} {bs : List Int} (h : Rd w B A n bs) (hp : 0 < n) :
    ∃ ad, A = some ad ∧ ∀ j u, (bs.map (Value.int .u8))[j]? = some u → w.cell? (ad.add j) = some u := by
  obtain ⟨b, off, rfl, _, hc⟩ := h.2.2 hp
  refine ⟨_, rfl, fun j u hu => ?_⟩
  rw [List.getElem?_map] at hu
  have hj : j < bs.length := by
    rcases Nat.lt_or_ge j bs.length with h | h
    · exact h
    · rw [List.getElem?_eq_none h] at hu; cases hu
  rw [addr_add, hc j (by rw [← h.1]; exact hj), List.getD_eq_getElem?_getD]
  rw [List.getElem?_eq_getElem hj] at hu ⊢
  simpa using hu
theorem oneCell_u8 (bs : List Int) : ∀ u ∈ bs.map (Value.int .u8), u.oneCell' = true := fun u hu => by
  obtain ⟨y, _, rfl⟩ := List.mem_map.1 hu
  rfl
/-- copy into a block that is known whole: as many cells as the row has go over. -/
theorem wpList_copy_rd {P : Program} {w : World} {g off : Nat} {ops : Array Oper} {rest : List Oper} {o : Oper} {a : Act} {Q : Exit → Act → World → Prop} (hgd : o.guard = none) (d s : Operand) (dT sT : TypeId)
    (ho : o.op = .call { callee := .builtin .copy, args := #[d, s], argTypes := #[dT, sT] }) (elem : TypeId) (hu : P.underlying dT = some (.slice elem)) (hsz : (P.info? elem).map (·.size) = some 1)
    (dLen dCap n c : Nat) (A : Option Addr) (hd : a.eval d = .slice (some ⟨g, off, none⟩) dLen dCap) (hs : a.eval s = .slice A n c)
    (cur : List Value) (t : TypeId) (hg : w.heap[g]? = some (.cells cur.toArray t (0, 0))) (bs : List Int) (B : Nat) (hr : Rd w B A n bs) (hn : n ≤ dLen) (hfit : off + n ≤ cur.length)
    (base : Nat) (w0 : World) (hb : Below base w0 w) (hBg : base ≤ g)
    (h : ∀ w', Hid (w'.heap[g]? = some (.cells (splice cur off (bs.map (Value.int .u8))).toArray t (0, 0))) → Below base w0 w' → wpList P ops Q rest (a.put o.dst (goInt n)) w') :
    wpList P ops Q (o :: rest) a w := by
  have hl : (bs.map (Value.int .u8)).length = n := by simp [hr.1]
  refine wpList_copy_splice hgd d s dT sT ho elem hu hsz (some ⟨g, off, none⟩) A dLen dCap n c hd hs g off cur t hg (bs.map (Value.int .u8)) ?_ (fun hp => ⟨rfl, hr.cells (by omega)⟩) (by omega) (oneCell_u8 bs) base w0 hb hBg (fun w' h1 h2 => ?_)
  · rw [hl]; exact (Nat.min_eq_left hn).symm
  · have := h w' h1 h2
    rw [hl]; exact this
/-- A literal of bytes. -/
theorem Rd.lit (w : World) (t : TypeId) (bs : List Int) (hb : Byt bs) (cs : Array Value) (hcs : cs = (bs.map (Value.int .u8)).toArray) :
    Rd (w.alloc (.cells cs t)) (w.heap.size + 1) (some ⟨w.heap.size, 0, none⟩) bs.length bs := by
  subst hcs
  refine Rd.block hb rfl (heap_alloc_new w _) ?_ (by omega)
  exact List.take_of_length_le (by simp)
/-- A literal of one byte. -/
theorem Rd.byte (w : World) (t : TypeId) (g : Nat) (hg : w.heap.size = g) (y : Int) (hy : 0 ≤ y ∧ y < 256) : Rd (w.alloc (.cells #[.int .u8 y] t)) (g + 1) (some ⟨g, 0, none⟩) 1 [y] := by
  subst hg
  exact Rd.lit w t [y] (Byt.one hy) _ rfl
theorem Own.of_block {w : World} {base g n cap : Nat} {e : TypeId} {cur : Array Value} {bs : List Int} (hb : Byt bs) (hn : bs.length = n) (h : w.heap[g]? = some (.cells cur e (0, 0)))
    (hbase : base ≤ g) (hnc : n ≤ cap) (hm : cap ≤ maxLen) (hsz : cur.size = cap) (hc : cur.toList.take n = bs.map (Value.int .u8)) : Own w base e (.slice (some ⟨g, 0, none⟩) n cap) bs := by
  subst hn
  exact ⟨⟨by simp, .inr ⟨g, cap, cur, rfl, hbase, h, hnc, hm, by omega, by simpa using hc⟩⟩, hb⟩
theorem Own.cast {w : World} {base : Nat} {e : TypeId} {v : Value} {bs bs' : List Int} (h : Own w base e v bs) (hb : bs = bs') : Own w base e v bs' := hb ▸ h
theorem Own.none_ (w : World) (base : Nat) (e : TypeId) : Own w base e (.slice none 0 0) [] := ⟨⟨by simp, .inl ⟨rfl, rfl⟩⟩, Byt.nil⟩
theorem Own.byt {w : World} {base : Nat} {e : TypeId} {v : Value} {bs : List Int} (h : Own w base e v bs) : Byt bs := h.2
theorem Own.drew {w : World} {base : Nat} {e : TypeId} {v : Value} {bs : List Int} (h : Own w base e v bs) : Own w.drew base e v bs := h
theorem Own.alloc {w : World} {base : Nat} {e : TypeId} {v : Value} {bs : List Int} (h : Own w base e v bs) (o : Obj) : Own (w.alloc o) base e v bs := ⟨h.1.alloc o, h.2⟩
theorem Own.base_ {w : World} {base base' : Nat} {e : TypeId} {v : Value} {bs : List Int} (h : Own w base e v bs) (hb : base' ≤ base) : Own w base' e v bs := by
  refine ⟨⟨h.1.1, ?_⟩, h.2⟩
  rcases h.1.2 with h0 | ⟨g, cap, cur, h1, h2, h3⟩
  · exact .inl h0
  · exact .inr ⟨g, cap, cur, h1, by omega, h3⟩
/-- What the call made stays, where only blocks from another base on are written. -/
theorem Own.block_lt {w : World} {base : Nat} {e : TypeId} {v : Value} {bs : List Int} (h : Own w base e v bs) : ∀ k, v.ownBlock = some k → base ≤ k ∧ k < w.heap.size := by
  intro k hk
  rcases h.1.2 with ⟨rfl, _⟩ | ⟨g, cap, cur, rfl, h2, h3, _⟩
  · simp [Value.ownBlock] at hk
  · simp [Value.ownBlock] at hk
    subst hk
    refine ⟨h2, ?_⟩
    rcases Nat.lt_or_ge g w.heap.size with hlt | hge
    · exact hlt
    · rw [Array.getElem?_eq_none hge] at h3; cases h3
theorem Own.keep {w w' : World} {base : Nat} {e : TypeId} {v : Value} {bs : List Int} (h : Own w base e v bs) (hk : ∀ k, v.ownBlock = some k → w'.heap[k]? = w.heap[k]?) : Own w' base e v bs := by
  refine ⟨⟨h.1.1, ?_⟩, h.2⟩
  rcases h.1.2 with h0 | ⟨g, cap, cur, rfl, h2, h3, h4⟩
  · exact .inl h0
  · exact .inr ⟨g, cap, cur, rfl, h2, (hk g rfl).trans h3, h4⟩
theorem Own.below {w w' : World} {base B : Nat} {e : TypeId} {v : Value} {bs : List Int} (h : Own w base e v bs) (hb : Below B w w') (hB : w.heap.size ≤ B) : Own w' base e v bs :=
  h.keep fun k hk => hb.block k (by have := (h.block_lt k hk).2; omega)

/-- append(v, x...): v made by the call, x any row of bytes. -/
theorem wpList_append_rd {P : Program} {w : World} {ops : Array Oper} {rest : List Oper} {o : Oper} {a : Act} {Q : Exit → Act → World → Prop} (hgd : o.guard = none) (s x : Operand) (t : TypeId)
    (ho : o.op = .call { callee := .builtin .append, args := #[s, x], argTypes := #[t, t] })
    (base : Nat) (e : TypeId) (i : TypeInfo) (ht : P.underlying t = some (.slice e)) (hi : P.info? e = some i) (hz : i.zero = some (.int .u8 0)) (hsize : i.size = 1) (hby : i.bytes = 1)
    (v : Value) (bs : List Int) (hs : a.eval s = v) (hown : Own w base e v bs)
    (B : Nat) (A : Option Addr) (m c : Nat) (news : List Int) (hx : a.eval x = .slice A m c) (hr : Rd w B A m news)
    (hlen : bs.length + m ≤ 140737488355328) (w0 : World) (hb : Below base w0 w) (hbase : base ≤ w.heap.size)
    (h : ∀ v' w', Own w' base e v' (bs ++ news) → Below base w0 w' → w.grownBy w' v.ownBlock → wpList P ops Q rest (a.put o.dst v') w') : wpList P ops Q (o :: rest) a w := by
  have hnl := hr.1
  have fin : ∀ v' w', w'.ownsRow base e 1 v' (bs.length + m) (bs.map (Value.int .u8) ++ news.map (Value.int .u8)) → w.grownBy w' v.ownBlock → wpList P ops Q rest (a.put o.dst v') w' := by
    intro v' w' h2 h3
    refine h v' w' ⟨?_, hown.2.app hr.2.1⟩ (hb.grown h3 hbase fun k hk => (hown.block_lt k hk).1) h3
    rw [List.map_append, List.length_append, hnl]
    exact h2
  cases A with
  | none =>
    have hm : m = 0 := by
      rcases Nat.eq_zero_or_pos m with h0 | h0
      · exact h0
      · obtain ⟨b, off, h, _⟩ := hr.2.2 h0
        cases h
    subst hm
    obtain rfl := hr.zero
    refine wpList_plain hgd fun K hK => ?_
    have hrun : (Builtin.append_ #[t, t] o.type #[v, .slice none 0 c]).run P w = .ok v w := by
      rcases hown.1.2 with ⟨rfl, h0⟩ | ⟨g, cap, cur, rfl, _, _, hnc, _⟩
      · simp [Builtin.append_, run_underlying ht, sizeOf, typeInfo, hi, Builtin.lenOf, Builtin.firstCells]
      · simp [Builtin.append_, run_underlying ht, sizeOf, typeInfo, hi, Builtin.lenOf, Builtin.firstCells, hnc, storeCells]
    unfold Oper.wp
    simp [execOp, ho, resolve, invoke, builtin, hs, hx, hrun, Result.andThen]
    exact hK _ _ (fin v w (by simpa using hown.1) (World.grownBy.refl w _))
  | some ad =>
    refine wpList_append_own w hgd s x t ho base e i (.int .u8 0) 1 1 ht hi hz hsize hby rfl (by decide) v bs.length (bs.map (Value.int .u8)) hs hown.1 ad m c (news.map (Value.int .u8)) hx (by simp [hnl]) ?_ ?_
      (by unfold maxLen; omega) (by omega) hbase (fun v' w' h2 h3 _ => fin v' w' h2 h3)
    · intro j u hu
      have hm : 0 < m := by
        rcases Nat.eq_zero_or_pos m with h0 | h0
        · subst h0
          rw [hr.zero] at hu
          simp at hu
        · exact h0
      obtain ⟨ad', h1, hc⟩ := hr.cells hm
      injection h1 with h1
      subst h1
      exact hc j u hu
    · exact oneCell_u8 news
end Go.Proofs.Ytdakbedohjemeaa
