/-
  Both receivers of chapter 17's law beside each other, what they told (Ly, Lz); each call at both; same.
-/
import Derived.Test.YtphpdaldplkgmaaGreatKt
import Derived.Test.YtphpdaldplkgmaaGreatKu
import Derived.Test.YtphpdaldplkgmaaGreatMq7
import Derived.Test.YtphpdaldplkgmaaGreatMq17
namespace Go.Proofs.YtphpdaldplkgmaaGreat
section
set_option linter.unusedVariables false
set_option linter.unusedSimpArgs false
open Go.RowKit
/-- The cells of frames that were told. -/
def tlC (L : List FN) : List Value := L.flatMap fun x => frL x .nil .nil
theorem tlC_len : ∀ L : List FN, (tlC L).length = L.length * 19
  | [] => rfl
  | x :: t => by
    have := tlC_len t
    unfold tlC at *
    rw [List.flatMap_cons, List.length_append, this, List.length_cons, frL_len]; omega
theorem tlC_app (a b : List FN) : tlC (a ++ b) = tlC a ++ tlC b := by unfold tlC; exact List.flatMap_append
theorem tlC_get : ∀ (L : List FN) (i : Nat) (x : FN), L[i]? = some x → ∀ (j : Nat) (v : Value), (frL x .nil .nil)[j]? = some v → (tlC L)[i * 19 + j]? = some v
  | [], i, x, h, _, _, _ => by simp at h
  | y :: t, 0, x, h, j, v, hv => by
    simp at h
    subst h
    have hj := (List.getElem?_eq_some_iff.1 hv).1
    unfold tlC
    rw [List.flatMap_cons, List.getElem?_append_left (by omega), Nat.zero_mul, Nat.zero_add]
    exact hv
  | y :: t, i + 1, x, h, j, v, hv => by
    have := tlC_get t i x (by simpa using h) j v hv
    unfold tlC at *
    rw [List.flatMap_cons, List.getElem?_append_right (by rw [frL_len]; omega), frL_len, show (i + 1) * 19 + j - 19 = i * 19 + j by omega]
    exact this
/-- The value v is a slice that the call made itself (no block below base), of the frames L. -/
def OwnT (w : World) (base : Nat) (v : Value) (L : List FN) : Prop := w.ownsRow base 54 19 v L.length (tlC L)
theorem OwnT.block_lt {w : World} {base : Nat} {v : Value} {L : List FN} (h : OwnT w base v L) : ∀ k, v.ownBlock = some k → base ≤ k ∧ k < w.heap.size := World.ownsRow.lt h
theorem OwnT.keep {w w' : World} {base : Nat} {v : Value} {L : List FN} (h : OwnT w base v L) (hk : ∀ k, v.ownBlock = some k → w'.heap[k]? = w.heap[k]?) : OwnT w' base v L := by
  refine ⟨h.1, ?_⟩
  rcases h.2 with h0 | ⟨g, cap, cur, rfl, h2, h3, h4⟩
  · exact .inl h0
  · exact .inr ⟨g, cap, cur, rfl, h2, (hk g rfl).trans h3, h4⟩
theorem OwnT.shape {w : World} {base : Nat} {v : Value} {L : List FN} (h : OwnT w base v L) : ∃ A c, v = .slice A L.length c ∧ L.length ≤ c ∧ c ≤ maxLen := by
  rcases h.2 with ⟨rfl, h0⟩ | ⟨g, cap, cur, rfl, _, _, h1, h2, _⟩
  · exact ⟨none, 0, by rw [h0], by omega, by unfold maxLen; exact Nat.zero_le _⟩
  · exact ⟨_, cap, rfl, h1, h2⟩
/-- One of them. -/
theorem OwnT.get {w : World} {base n c : Nat} {A : Option Addr} {L : List FN} (h : OwnT w base (.slice A n c) L) (i : Nat) (x : FN) (hx : L[i]? = some x) : ∃ g, A = some ⟨g, 0, none⟩ ∧ w.rangeAt g (i * 19) (frL x .nil .nil) := by
  have hi := (List.getElem?_eq_some_iff.1 hx).1
  rcases h.2 with ⟨h0, h0'⟩ | ⟨g, cap, cur, e, hb, hg, k1, k2, k3, k4⟩
  · omega
  · injection e with e1 e2 e3
    subst e1
    refine ⟨g, rfl, fun j v hv => ?_⟩
    have hq := tlC_get L i x hx j v hv
    have hql := (List.getElem?_eq_some_iff.1 hq).1
    rw [tlC_len] at hql
    rw [← k4, List.getElem?_take_of_lt (by omega)] at hq
    rw [cell_of_row w g _ cur _ (0, 0) hg]
    simpa using hq
/-- All blocks of the law's world. -/
def LO (O1 O2 : Nat → Prop) (pw : Nat) (tv : Value) : Nat → Prop := fun j => O1 j ∨ O2 j ∨ j = pw ∨ tv.ownBlock = some j
/-- Both receivers (they may be a call apart), the world's block, what was told. -/
structure Ly (W : World) (base p q pw : Nat) (O1 O2 : Nat → Prop) (tv : Value) (L : List FN) (X1 X2 : QS) : Prop where
  pr : Qp W base p O1 X1
  rf : Qr W base q O2 X2
  at_ : At W pw 31 [.pointer (some ⟨p, 0, none⟩), .pointer (some ⟨q, 0, none⟩), tv]
  own : OwnT W base tv L
  ll : L.length ≤ 1000
  bp : base ≤ pw
  d12 : ∀ j, O1 j → ¬ O2 j
  d1 : ∀ j, O1 j → j ≠ pw ∧ tv.ownBlock ≠ some j
  d2 : ∀ j, O2 j → j ≠ pw ∧ tv.ownBlock ≠ some j
  dp : tv.ownBlock ≠ some pw
section
variable {wb W0 W W' : World} {base p q pw : Nat} {O1 O2 O F : Nat → Prop} {tv : Value} {L : List FN} {X X1 X2 X' : QS}
theorem Ly.lt (h : Ly W base p q pw O1 O2 tv L X1 X2) : ∀ j, LO O1 O2 pw tv j → base ≤ j ∧ j < W.heap.size := by
  rintro j (hj | hj | rfl | hj)
  · exact h.pr.lt j hj
  · exact h.rf.lt j hj
  · exact ⟨h.bp, h.at_.lt⟩
  · exact h.own.block_lt j hj
theorem Ly.kept {T : Nat → Prop} (h : Ly W base p q pw O1 O2 tv L X1 X2) (k : Kept T W W') (hs : ∀ j, LO O1 O2 pw tv j → ¬ T j) : Ly W' base p q pw O1 O2 tv L X1 X2 :=
  { h with
    pr := h.pr.kept k fun j hj => hs j (.inl hj)
    rf := h.rf.kept k fun j hj => hs j (.inr (.inl hj))
    at_ := h.at_.kept k (hs pw (.inr (.inr (.inl rfl))))
    own := h.own.keep fun j hj => k.block j (h.own.block_lt j hj).2 (hs j (.inr (.inr (.inr hj)))) }
theorem Ly.below (h : Ly W base p q pw O1 O2 tv L X1 X2) (k : Below W.heap.size W W') : Ly W' base p q pw O1 O2 tv L X1 X2 := h.kept (Kept.of_below k (fun _ => False)) fun _ _ h => h
/-- The law's world on the way of one call of do, that began in the world W0; F: blocks beside it. -/
def Lzx (wb W0 W : World) (base p q pw : Nat) (O F O1 O2 : Nat → Prop) (tv : Value) (L : List FN) (X1 X2 : QS) : Prop :=
  Ly W base p q pw O1 O2 tv L X1 X2 ∧ Kept O W0 W ∧ (∀ j, LO O1 O2 pw tv j → O j ∨ W0.heap.size ≤ j) ∧ (∀ b, F b → ¬ LO O1 O2 pw tv b ∧ b < W.heap.size) ∧ Below base wb W
def Lz (wb W0 W : World) (base p q pw : Nat) (O F : Nat → Prop) (L : List FN) (X1 X2 : QS) : Prop := ∃ O1 O2 tv, Lzx wb W0 W base p q pw O F O1 O2 tv L X1 X2
/-- What a call leaves beside. -/
def LzP (wb W0 W W' : World) (base p q pw : Nat) (O F : Nat → Prop) (L : List FN) (X1 X2 : QS) : Prop := Lz wb W0 W' base p q pw O F L X1 X2 ∧ Kept (fun b => ¬ F b) W W'
theorem Lzx.below (h : Lzx wb W0 W base p q pw O F O1 O2 tv L X1 X2) (k : Below W.heap.size W W') : Lzx wb W0 W' base p q pw O F O1 O2 tv L X1 X2 := by
  obtain ⟨h1, h2, h3, h4, h5⟩ := h
  have hs : base ≤ W.heap.size := by have := (h1.lt pw (.inr (.inr (.inl rfl)))); omega
  exact ⟨h1.below k, h2.trans' (Kept.of_below k (fun _ => False)) (fun _ h => h.elim), h3, fun b hb => ⟨(h4 b hb).1, Nat.lt_of_lt_of_le (h4 b hb).2 k.size⟩, h5.trans (k.mono hs)⟩
theorem Lz.below (h : Lz wb W0 W base p q pw O F L X1 X2) (k : Below W.heap.size W W') : Lz wb W0 W' base p q pw O F L X1 X2 := by
  obtain ⟨O1, O2, tv, h⟩ := h
  exact ⟨O1, O2, tv, h.below k⟩
theorem Lz.drewN (h : Lz wb W0 W base p q pw O F L X1 X2) (n : Nat) : Lz wb W0 (W.drewN n) base p q pw O F L X1 X2 := h.below (belowN (Below.refl _ _) n)
/-- Blocks beside that came up later, or fewer. -/
theorem Lz.fresh {F' : Nat → Prop} (h : Lz wb W0 W base p q pw O F L X1 X2) (k : Below W.heap.size W W') (hF : ∀ b, F' b → F b ∨ (W.heap.size ≤ b ∧ b < W'.heap.size)) : Lz wb W0 W' base p q pw O F' L X1 X2 := by
  obtain ⟨O1, O2, tv, h1, h2, h3, h4, h5⟩ := h.below k
  obtain ⟨P1, P2, tv', g1, g2, g3, g4, g5⟩ := h
  refine ⟨P1, P2, tv', g1.below k, h2, g3, fun b hb => ?_, h5⟩
  rcases hF b hb with h' | ⟨h', h''⟩
  · exact ⟨(g4 b h').1, Nat.lt_of_lt_of_le (g4 b h').2 k.size⟩
  · exact ⟨fun e => by have := (g1.lt b e).2; omega, h''⟩
theorem lz_base (h : Lz wb W0 W base p q pw O F L X1 X2) : base ≤ W.heap.size := by
  obtain ⟨O1, O2, tv, h1, _⟩ := h
  have := (h1.lt pw (.inr (.inr (.inl rfl)))); omega
/-- The program's receiver was called. -/
theorem lz_prog (h : Ly W base p q pw O1 O2 tv L X1 X2) (h2 : Kept O W0 W) (h3 : ∀ j, LO O1 O2 pw tv j → O j ∨ W0.heap.size ≤ j) (h4 : ∀ b, F b → ¬ LO O1 O2 pw tv b ∧ b < W.heap.size) (h5 : Below base wb W) {O1' : Nat → Prop} (hq : Qp W' base p O1' X') (hk : Kept O1 W W') (ho : ∀ j, O1' j → O1 j ∨ W.heap.size ≤ j) :
    Lzx wb W0 W' base p q pw O F O1' O2 tv L X' X2 ∧ Kept (fun b => ¬ F b) W W' := by
  have hs0 := h2.size
  have hbs : base ≤ W.heap.size := by have := (h.lt pw (.inr (.inr (.inl rfl)))); omega
  have nw : ∀ j, O1' j → LO O1 O2 pw tv j → O1 j := fun j hj hl => (ho j hj).elim id fun hge => by have := (h.lt j hl).2; omega
  refine ⟨⟨⟨hq, h.rf.kept hk fun j hj e => h.d12 j e hj, h.at_.kept hk fun e => (h.d1 pw e).1 rfl, h.own.keep fun j hj => hk.block j (h.own.block_lt j hj).2 fun e => (h.d1 j e).2 hj, h.ll, h.bp, fun j hj e => h.d12 j (nw j hj (.inr (.inl e))) e, fun j hj => ⟨fun e => (h.d1 j (nw j hj (.inr (.inr (.inl e))))).1 e, fun e => (h.d1 j (nw j hj (.inr (.inr (.inr e))))).2 e⟩, h.d2, h.dp⟩, ?_, ?_, ?_, ?_⟩, hk.mono fun j hj => .inl fun hF => (h4 j hF).1 (.inl hj)⟩
  · exact h2.trans' hk fun j hj => h3 j (.inl hj)
  · rintro j (hj | hj)
    · rcases ho j hj with h' | h'
      · exact h3 j (.inl h')
      · exact .inr (by omega)
    · exact h3 j (.inr hj)
  · intro b hb
    refine ⟨fun e => ?_, Nat.lt_of_lt_of_le (h4 b hb).2 hk.size⟩
    rcases e with e | e
    · rcases ho b e with h' | h'
      · exact (h4 b hb).1 (.inl h')
      · have := (h4 b hb).2; omega
    · exact (h4 b hb).1 (.inr e)
  · exact hk.below h5 hbs fun j hj => (h.pr.lt j hj).1
/-- The document's receiver was called. -/
theorem lz_ref (h : Ly W base p q pw O1 O2 tv L X1 X2) (h2 : Kept O W0 W) (h3 : ∀ j, LO O1 O2 pw tv j → O j ∨ W0.heap.size ≤ j) (h4 : ∀ b, F b → ¬ LO O1 O2 pw tv b ∧ b < W.heap.size) (h5 : Below base wb W) {O2' : Nat → Prop} (hq : Qr W' base q O2' X') (hk : Kept O2 W W') (ho : ∀ j, O2' j → O2 j ∨ W.heap.size ≤ j) :
    Lzx wb W0 W' base p q pw O F O1 O2' tv L X1 X' ∧ Kept (fun b => ¬ F b) W W' := by
  have hs0 := h2.size
  have hbs : base ≤ W.heap.size := by have := (h.lt pw (.inr (.inr (.inl rfl)))); omega
  have nw : ∀ j, O2' j → LO O1 O2 pw tv j → O2 j := fun j hj hl => (ho j hj).elim id fun hge => by have := (h.lt j hl).2; omega
  refine ⟨⟨⟨h.pr.kept hk fun j hj e => h.d12 j hj e, hq, h.at_.kept hk fun e => (h.d2 pw e).1 rfl, h.own.keep fun j hj => hk.block j (h.own.block_lt j hj).2 fun e => (h.d2 j e).2 hj, h.ll, h.bp, fun j hj e => h.d12 j hj (nw j e (.inl hj)), h.d1, fun j hj => ⟨fun e => (h.d2 j (nw j hj (.inr (.inr (.inl e))))).1 e, fun e => (h.d2 j (nw j hj (.inr (.inr (.inr e))))).2 e⟩, h.dp⟩, ?_, ?_, ?_, ?_⟩, hk.mono fun j hj => .inl fun hF => (h4 j hF).1 (.inr (.inl hj))⟩
  · exact h2.trans' hk fun j hj => h3 j (.inr (.inl hj))
  · rintro j (hj | hj | hj)
    · exact h3 j (.inl hj)
    · rcases ho j hj with h' | h'
      · exact h3 j (.inr (.inl h'))
      · exact .inr (by omega)
    · exact h3 j (.inr (.inr hj))
  · intro b hb
    refine ⟨fun e => ?_, Nat.lt_of_lt_of_le (h4 b hb).2 hk.size⟩
    rcases e with e | e | e
    · exact (h4 b hb).1 (.inl e)
    · rcases ho b e with h' | h'
      · exact (h4 b hb).1 (.inr (.inl h'))
      · have := (h4 b hb).2; omega
    · exact (h4 b hb).1 (.inr (.inr e))
  · exact hk.below h5 hbs fun j hj => (h.rf.lt j hj).1
/-- What holds of its numbers behind k calls. -/
structure XI (k : Nat) (X : QS) : Prop where
  ok : X.ok
  id : X.id ≤ 4611686018427387903
  lim : X.lim ≤ 2048 * (k + 1)
  rdl : X.b.rd ≤ X.lim
theorem XI.hlm {k : Nat} (h : XI k X) (hk : k ≤ 1000) : X.lim ≤ 1099511627776 ∧ X.b.rd + X.win ≤ 1099511627776 := by
  have := h.lim; have := h.rdl; have := h.ok.win
  omega
theorem XI.on {k : Nat} (h : XI k X) (m : FN) (bs : List Int) (hm : m.wf) (hb : Byt bs) : XI (k + 1) (onX X m bs) := by
  have hl := h.lim
  have hc0 := hm.c0
  have hc1 := hm.c1
  unfold onX
  split
  · split
    · refine ⟨onSX_ok h.ok _ _ _ hb, ?_, ?_, ?_⟩ <;> unfold onSX <;> split
      · obtain ⟨_, q2, _⟩ := settleQ_b { X with b := addS X.b m.o.toNat bs m.fin }
        rw [q2]; exact h.id
      · exact h.id
      · obtain ⟨_, _, _, q4, _⟩ := settleQ_b { X with b := addS X.b m.o.toNat bs m.fin }
        rw [q4]; show X.lim ≤ _; omega
      · omega
      · obtain ⟨q1, _, _, q4, _⟩ := settleQ_b { X with b := addS X.b m.o.toNat bs m.fin }
        rw [q1, q4]; exact h.rdl
      · exact h.rdl
    · split
      · refine ⟨onRX_ok h.ok _ _ (by omega), ?_, ?_, ?_⟩ <;> unfold onRX <;> split
        · exact h.id
        · exact h.id
        · show X.lim ≤ _; omega
        · omega
        · exact h.rdl
        · exact h.rdl
      · exact ⟨h.ok, h.id, by omega, h.rdl⟩
  · exact ⟨h.ok, h.id, by omega, h.rdl⟩
theorem XI.read {k : Nat} (h : XI k X) (most : Int) : XI (k + 1) (readX X most) := by
  have hl := h.lim
  refine ⟨readX_ok h.ok most, ?_, ?_, ?_⟩
  · unfold readX
    split
    · exact h.id
    · split <;> exact h.id
  · unfold readX
    split
    · show X.lim ≤ _; omega
    · split
      · omega
      · show X.lim ≤ _; omega
  · unfold readX
    split
    · exact h.rdl
    · split
      · exact h.rdl
      · rename_i e1 e2
        have h1 := (rdyS_is h.ok.b).le h.ok.b
        have h2 := h.ok.hl (by have := h.ok.st; omega)
        show X.b.rd + min most.toNat (rdyS X.b) ≤ X.lim
        omega
theorem XI.halt {k : Nat} (h : XI k X) (code : Nat) : XI (k + 1) (haltX X code) := by
  have hl := h.lim
  refine ⟨haltX_ok h.ok code, ?_, ?_, ?_⟩ <;> unfold haltX <;> split
  · exact h.id
  · exact h.id
  · show X.lim ≤ _; omega
  · omega
  · exact h.rdl
  · exact h.rdl
theorem XI.lost {k : Nat} (h : XI k X) (a b c : Int) : XI (k + 1) (lostQ X a b c) := by
  have hl := h.lim
  have e : (lostQ X a b c).id = X.id ∧ (lostQ X a b c).lim = X.lim ∧ (lostQ X a b c).b = X.b := by
    unfold lostQ
    split
    · split
      · split <;> exact ⟨rfl, rfl, rfl⟩
      · split
        · split <;> exact ⟨rfl, rfl, rfl⟩
        · exact ⟨rfl, rfl, rfl⟩
    · exact ⟨rfl, rfl, rfl⟩
  obtain ⟨e1, e2, e3⟩ := e
  exact ⟨lostQ_ok h.ok a b c, by rw [e1]; exact h.id, by rw [e2]; omega, by rw [e2, e3]; exact h.rdl⟩
theorem XI.next {k : Nat} (h : XI k X) (room : Int) : XI (k + 1) (nextX X (nxK X room)) := by
  have hl := h.lim
  have hr := h.rdl
  have hw := h.ok.win
  refine ⟨nextX_ok2 h.ok nxK_2, ?_, ?_, ?_⟩ <;> unfold nextX <;> split
  · exact h.id
  · split <;> exact h.id
  · show X.lim ≤ _; omega
  · split
    · show X.b.rd + X.win ≤ _; omega
    · omega
  · exact h.rdl
  · split
    · show X.b.rd ≤ X.b.rd + X.win; omega
    · exact h.rdl
/-- The law's world. -/
def Lw (wb W : World) (base p q pw k : Nat) (O : Nat → Prop) (X : QS) : Prop := XI k X ∧ ∃ O1 O2 tv L, O = LO O1 O2 pw tv ∧ Ly W base p q pw O1 O2 tv L X X ∧ L.length ≤ k ∧ Below base wb W
/-- What do leaves. -/
def DoQ (wb W : World) (base p q pw k : Nat) (O : Nat → Prop) (W' : World) : Prop := ∃ O' X', Lw wb W' base p q pw (k + 1) O' X' ∧ Kept O W W' ∧ ∀ j, O' j → O j ∨ W.heap.size ≤ j
theorem Lw.start {k : Nat} (h : Lw wb W base p q pw k O X) : ∃ L, Lz wb W W base p q pw O (fun _ => False) L X X ∧ L.length ≤ k := by
  obtain ⟨_, O1, O2, tv, L, rfl, h1, hl, hb⟩ := h
  exact ⟨L, ⟨O1, O2, tv, h1, Kept.refl _ _, fun j hj => .inl hj, fun b hb => hb.elim, hb⟩, hl⟩
theorem Lz.done {k : Nat} (h : Lz wb W0 W base p q pw O F L X X) (hX : XI (k + 1) X) (hl : L.length ≤ k + 1) : DoQ wb W0 base p q pw k O W := by
  obtain ⟨O1, O2, tv, h1, h2, h3, _, h5⟩ := h
  exact ⟨_, X, ⟨hX, O1, O2, tv, L, rfl, h1, hl, h5⟩, h2, h3⟩
end
end
section
set_option linter.unusedVariables false
set_option linter.unusedSimpArgs false
open Go.RowKit
section
variable {wb W0 W W' Y : World} {base p q pw k : Nat} {O F : Nat → Prop} {L : List FN} {X X1 X2 X' : QS}
/-- A call of the program's receiver, from its contract. -/
theorem lz_callP {r : Value} (h : Lz wb W0 W base p q pw O F L X1 X2) {f : FuncId} {args : Array Value} (H : ∀ O1, Qp W base p O1 X1 → (∀ b, F b → ¬ O1 b) → Calls Tryz.prog f args W (QPost r base p O1 X' W)) :
    Calls Tryz.prog f args W fun e w' => e = .returned r ∧ LzP wb W0 W w' base p q pw O F L X' X2 := by
  obtain ⟨O1, O2, tv, h1, h2, h3, h4, h5⟩ := h
  refine (H O1 h1.pr fun b hb e => (h4 b hb).1 (.inl e)).mono ?_
  rintro e w' ⟨rfl, O', hq, hk, ho⟩
  have hl := lz_prog h1 h2 h3 h4 h5 hq hk ho
  exact ⟨rfl, ⟨_, _, _, hl.1⟩, hl.2⟩
theorem lz_callR {r : Value} (h : Lz wb W0 W base p q pw O F L X1 X2) {f : FuncId} {args : Array Value} (H : ∀ O2, Qr W base q O2 X2 → (∀ b, F b → ¬ O2 b) → Calls Tryz.prog f args W (RqPost r base q O2 X' W)) :
    Calls Tryz.prog f args W fun e w' => e = .returned r ∧ LzP wb W0 W w' base p q pw O F L X1 X' := by
  obtain ⟨O1, O2, tv, h1, h2, h3, h4, h5⟩ := h
  refine (H O2 h1.rf fun b hb e => (h4 b hb).1 (.inr (.inl e))).mono ?_
  rintro e w' ⟨rfl, O', hq, hk, ho⟩
  have hl := lz_ref h1 h2 h3 h4 h5 hq hk ho
  exact ⟨rfl, ⟨_, _, _, hl.1⟩, hl.2⟩
/-- What is read through blocks beside is read behind a call. -/
theorem LzP.rd {A : Option Addr} {n : Nat} {bs : List Int} (h : LzP wb W0 W W' base p q pw O F L X1 X2) (hd : RdP W F A n bs) : RdP W' F A n bs := hd.kept h.2 fun b hb hn => hn hb
theorem two_on (h : Lz wb W0 W base p q pw O F L X X) (hi : XI k X) (hk : k ≤ 1000) (m : FN) (d r : Sl) (bs : List Int) (hm : m.wf) (hd : RdP W F d.A d.n bs) (hdc : d.n ≤ d.c) (hdn : d.n < 9223372036854775808) :
    Calls Tryz.prog 26 #[.pointer (some ⟨p, 0, none⟩), frV m d r] W fun e w1 => e = .returned (.int .i64 (onE X m bs.length)) ∧ LzP wb W0 W w1 base p q pw O F L (onX X m bs) X ∧
      ∀ Y, Below w1.heap.size w1 Y → Calls Tryz.prog 29 #[.pointer (some ⟨q, 0, none⟩), frV m d r] Y fun e w2 => e = .returned (.int .i64 (onE X m bs.length)) ∧ LzP wb W0 Y w2 base p q pw O F L (onX X m bs) (onX X m bs) := by
  have hb := lz_base h
  refine (lz_callP h (X' := onX X m bs) fun O1 h1 hF => q_on h1 hi.ok hb m d r bs hm (hd.mono fun b _ hb => hF b hb) hdc hdn).mono ?_
  rintro e w1 ⟨rfl, hl⟩
  refine ⟨rfl, hl, fun Y hY => ?_⟩
  have hl2 := hl.1.below hY
  have hd2 : RdP Y F d.A d.n bs := (hl.rd hd).kept (Kept.of_below hY fun _ => False) fun _ _ h => h
  exact lz_callR hl2 fun O2 h2 hF => rq_on h2 hi.ok (lz_base hl2) (hi.hlm hk).1 m d r bs hm (hd2.mono fun b _ hb => hF b hb) hdc hdn
theorem two_halt (h : Lz wb W0 W base p q pw O F L X X) (hi : XI k X) (code : Nat) :
    Calls Tryz.prog 16 #[.pointer (some ⟨p, 0, none⟩), .int .u64 code] W fun e w1 => e = .returned (.int .i64 (haltE X code)) ∧ LzP wb W0 W w1 base p q pw O F L (haltX X code) X ∧
      ∀ Y, Below w1.heap.size w1 Y → Calls Tryz.prog 17 #[.pointer (some ⟨q, 0, none⟩), .int .u64 code] Y fun e w2 => e = .returned (.int .i64 (haltE X code)) ∧ LzP wb W0 Y w2 base p q pw O F L (haltX X code) (haltX X code) := by
  refine (lz_callP h (X' := haltX X code) fun O1 h1 hF => q_stop h1 hi.ok code).mono ?_
  rintro e w1 ⟨rfl, hl⟩
  exact ⟨rfl, hl, fun Y hY => lz_callR (hl.1.below hY) fun O2 h2 hF => rq_halt h2 hi.ok code⟩
theorem two_next (h : Lz wb W0 W base p q pw O F L X X) (hi : XI k X) (hk : k ≤ 1000) (room : Int) :
    Calls Tryz.prog 18 #[.pointer (some ⟨p, 0, none⟩), .int .i64 room] W fun e w1 => e = .returned (.tuple #[frV (dueF X (nxK X room)) .nil .nil, .bool (nxK X room != 0)]) ∧ LzP wb W0 W w1 base p q pw O F L (nextX X (nxK X room)) X ∧
      ∀ Y, Below w1.heap.size w1 Y → Calls Tryz.prog 19 #[.pointer (some ⟨q, 0, none⟩), .int .i64 room] Y fun e w2 => e = .returned (.tuple #[frV (dueF X (nxK X room)) .nil .nil, .bool (nxK X room != 0)]) ∧ LzP wb W0 Y w2 base p q pw O F L (nextX X (nxK X room)) (nextX X (nxK X room)) := by
  refine (lz_callP h (X' := nextX X (nxK X room)) fun O1 h1 hF => q_next h1 hi.ok room).mono ?_
  rintro e w1 ⟨rfl, hl⟩
  exact ⟨rfl, hl, fun Y hY => lz_callR (hl.1.below hY) fun O2 h2 hF => rq_next h2 hi.ok hi.id (hi.hlm hk).2 room⟩
theorem two_lost (h : Lz wb W0 W base p q pw O F L X X) (hi : XI k X) (m : FN) (d r : Sl) :
    Calls Tryz.prog 22 #[.pointer (some ⟨p, 0, none⟩), frV m d r] W fun e w1 => e = .returned (.tuple #[]) ∧ LzP wb W0 W w1 base p q pw O F L (lostQ X m.k m.s m.l) X ∧
      ∀ Y, Below w1.heap.size w1 Y → Calls Tryz.prog 23 #[.pointer (some ⟨q, 0, none⟩), frV m d r] Y fun e w2 => e = .returned (.tuple #[]) ∧ LzP wb W0 Y w2 base p q pw O F L (lostQ X m.k m.s m.l) (lostQ X m.k m.s m.l) := by
  refine (lz_callP h (X' := lostQ X m.k m.s m.l) fun O1 h1 hF => q_lost h1 hi.ok m d r).mono ?_
  rintro e w1 ⟨rfl, hl⟩
  exact ⟨rfl, hl, fun Y hY => lz_callR (hl.1.below hY) fun O2 h2 hF => rq_lost h2 hi.ok m d r⟩
/-- Read at both: both rows of bytes are read behind it. -/
theorem two_read (h : Lz wb W0 W base p q pw O F L X X) (hi : XI k X) (most : Int) (hm : -9223372036854775808 ≤ most ∧ most < 9223372036854775808) :
    Calls Tryz.prog 14 #[.pointer (some ⟨p, 0, none⟩), .int .i64 most] W fun e w1 => ∃ v, e = .returned (.tuple #[v, .bool (readQ X most).fl, .int .u64 (readQ X most).cd, .int .i64 (readQ X most).er]) ∧ Own w1 base 5 v (readQ X most).bs ∧ LzP wb W0 W w1 base p q pw O F L (readX X most) X ∧
      ∀ Y, Below w1.heap.size w1 Y → Calls Tryz.prog 15 #[.pointer (some ⟨q, 0, none⟩), .int .i64 most] Y fun e w2 => ∃ v2, e = .returned (.tuple #[v2, .bool (readQ X most).fl, .int .u64 (readQ X most).cd, .int .i64 (readQ X most).er]) ∧ Own w2 base 5 v (readQ X most).bs ∧ Own w2 base 5 v2 (readQ X most).bs ∧ LzP wb W0 Y w2 base p q pw O F L (readX X most) (readX X most) := by
  have hb := lz_base h
  obtain ⟨O1, O2, tv, h1, h2, h3, h4, h5⟩ := h
  refine (q_read h1.pr hi.ok hb most hm).mono ?_
  rintro e w1 ⟨v, rfl, hv, O1', hq, hk, ho⟩
  have hl := lz_prog h1 h2 h3 h4 h5 hq hk ho
  refine ⟨v, rfl, hv.base_ hb, ⟨⟨_, _, _, hl.1⟩, hl.2⟩, fun Y hY => ?_⟩
  have hl2 := Lzx.below hl.1 hY
  have hvY : Own Y W.heap.size 5 v (readQ X most).bs := hv.below hY (Nat.le_refl _)
  have hbY : base ≤ Y.heap.size := lz_base ⟨_, _, _, hl2⟩
  obtain ⟨g1, g2, g3, g4, g5⟩ := hl2
  refine (rq_read g1.rf hi.ok hbY most hm).mono ?_
  rintro e w2 ⟨v2, rfl, hv2, O2', hq2, hk2, ho2⟩
  have hr := lz_ref g1 g2 g3 g4 g5 hq2 hk2 ho2
  exact ⟨v2, rfl, (hvY.kept hk2 fun j hj e => by have := (hvY.block_lt j hj).1; have := (h1.rf.lt j e).2; omega).base_ hb, hv2.base_ hbY, ⟨_, _, _, hr.1⟩, hr.2⟩
end
end
section
set_option linter.unusedVariables false
set_option linter.unusedSimpArgs false
open Go.RowKit
section
variable {wb W0 W W' Y : World} {base p q pw k : Nat} {O F : Nat → Prop} {L : List FN} {X X1 X2 X' : QS}
theorem Lz.at_ (h : Lz wb W0 W base p q pw O F L X1 X2) : ∃ tv, At W pw 31 [.pointer (some ⟨p, 0, none⟩), .pointer (some ⟨q, 0, none⟩), tv] ∧ OwnT W base tv L ∧ pw < W.heap.size := by
  obtain ⟨O1, O2, tv, h, _⟩ := h
  exact ⟨tv, h.at_, h.own, h.at_.lt⟩
theorem Lz.p0 (h : Lz wb W0 W base p q pw O F L X1 X2) : W.cell? ⟨pw, 0, none⟩ = some (.pointer (some ⟨p, 0, none⟩)) := by
  obtain ⟨tv, h, _⟩ := h.at_
  rw [h.cell]; rfl
theorem Lz.p1 (h : Lz wb W0 W base p q pw O F L X1 X2) : W.cell? ⟨pw, 1, none⟩ = some (.pointer (some ⟨q, 0, none⟩)) := by
  obtain ⟨tv, h, _⟩ := h.at_
  rw [h.cell]; rfl
theorem Lz.q0 (h : Lz wb W0 W base p q pw O F L X1 X2) : W.cell? ⟨q, 0, none⟩ = some (.int .u64 X2.id) := by
  obtain ⟨O1, O2, tv, h, _⟩ := h
  exact h.rf.c0
set_option maxRecDepth 100000 in
set_option maxHeartbeats 8000000 in
theorem same17 (h : Lz wb W0 W base p q pw O F L X X) (ho : X.ok) :
    Calls Tryz.prog 25 #[.pointer (some ⟨pw, 0, none⟩)] W fun e w' => e = .returned (.bool true) ∧ Below W.heap.size W w' := by
  have p0 := h.p0
  have p1 := h.p1
  obtain ⟨O1, O2, tv, h1, _⟩ := h
  have m5 := h1.rf.c5
  have m2 := h1.rf.c2
  have H1 := Lib.hid (fun d => Calls.quiet_of_same (q_state (h1.pr.drewN d)))
  have H2 := Lib.hid (fun d => Calls.quiet_of_same (q_limit (h1.pr.drewN d)))
  have H3 := Lib.hid (fun d => Calls.quiet_of_same (q_high (h1.pr.drewN d) ho))
  have H4 := Lib.hid (fun d => Calls.quiet_of_same (q_taken (h1.pr.drewN d) ho))
  have H5 := Lib.hid (fun d => Calls.quiet_of_same (rq_high (h1.rf.drewN d)))
  have H6 := Lib.hid (fun d => Calls.quiet_of_same (rq_taken (h1.rf.drewN d)))
  clear h1 ho
  go_enter Tryz.func25, Tryz.ntmps25
  go_wp2
  go_quiet ((first | (go_at_call 27; (with_reducible exact H1.out _)) | (go_at_call 8; (with_reducible exact H2.out _)) | (go_at_call 39; (with_reducible exact H3.out _)) | (go_at_call 41; (with_reducible exact H4.out _)) | (go_at_call 40; (with_reducible exact H5.out _)) | (go_at_call 42; (with_reducible exact H6.out _))))
  go_wp2
  go_ret
  exact ⟨by first | rfl | simp, belowN (Below.refl _ _) _⟩
theorem onX_id (X : QS) (m : FN) (bs : List Int) : (onX X m bs).id = X.id := by
  unfold onX
  split
  · split
    · unfold onSX
      split
      · exact (settleQ_b { X with b := addS X.b m.o.toNat bs m.fin }).2.1
      · rfl
    · split
      · unfold onRX
        split <;> rfl
      · rfl
  · rfl
set_option maxRecDepth 100000 in
set_option maxHeartbeats 8000000 in
theorem on17 (h : Lz wb W0 W base p q pw O F L X X) (hi : XI k X) (hk : k < 1000) (m : FN) (d r : Sl) (bs : List Int) (hm : m.wf) (hd : RdP W F d.A d.n bs) (hdc : d.n ≤ d.c) (hdn : d.n < 9223372036854775808) :
    Calls Tryz.prog 12 #[.pointer (some ⟨pw, 0, none⟩), frV m d r] W fun e w' => e = .returned (.bool true) ∧ LzP wb W0 W w' base p q pw O F L (onX X m bs) (onX X m bs) := by
  have hbyt := hd.byt
  have hi' := hi.on m bs hm hbyt
  obtain ⟨LF, W1, hfv, hL, hW1, hB, hlt, hA, _⟩ := fr_box8 W m d r
  -- the frame's block stays beside
  obtain ⟨g, hg⟩ : ∃ g, W.heap.size = g := ⟨_, rfl⟩
  obtain ⟨F2, hF2⟩ : ∃ F2 : Nat → Prop, F2 = fun b => F b ∨ b = g := ⟨_, rfl⟩
  have h1 : Lz wb W0 W1 base p q pw O F2 L X X := h.fresh hB fun b hb => by
    rw [hF2] at hb
    rcases hb with hb | rfl
    · exact .inl hb
    · exact .inr ⟨by omega, by omega⟩
  have hd1 : RdP W1 F2 d.A d.n bs := (hd.kept (Kept.of_below hB fun _ => False) fun _ _ h => h).mono fun b _ hb => by rw [hF2]; exact .inl hb
  have hlf : LF.length = 19 := by rw [hL]; rfl
  rw [hg] at hA
  have hgF : F2 g := by rw [hF2]; exact .inr rfl
  have hglt : g < W1.heap.size := by omega
  obtain ⟨Y, hY⟩ : ∃ Y, W1.drew = Y := ⟨_, rfl⟩
  have hBY : Below W1.heap.size W1 Y := by rw [← hY]; exact belowN (Below.refl _ _) 1
  have h1Y := h1.below hBY
  have hAY : At Y g 54 LF := hA.below hBY hglt
  have hdY : RdP Y F2 d.A d.n bs := hd1.kept (Kept.of_below hBY fun _ => False) fun _ _ h => h
  have HLF := Lib.hid hlf
  have HAR : Hid (∀ w2, Kept (fun b => ¬ F2 b) Y w2 → w2.rangeAt g 0 LF) := Lib.hid (fun w2 hk j v hv => by
    rw [Nat.zero_add, (hAY.kept hk (fun hn => hn hgF)).cell]; exact hv)
  have H1 := Lib.hid (two_on h1Y hi (by omega) m d r bs hm hdY hdc hdn)
  have HS0 : Hid (Y.cell? ⟨pw, 0, none⟩ = some (.pointer (some ⟨p, 0, none⟩)) ∧ Y.cell? ⟨pw, 1, none⟩ = some (.pointer (some ⟨q, 0, none⟩)) ∧ Y.rangeAt g 0 LF) := Lib.hid ⟨h1Y.p0, h1Y.p1, HAR.out Y (Kept.refl _ _)⟩
  have HFIN : Hid (∀ w2, Kept (fun b => ¬ F2 b) Y w2 → Lz wb W0 w2 base p q pw O F2 L (onX X m bs) (onX X m bs) → LzP wb W0 W w2 base p q pw O F L (onX X m bs) (onX X m bs)) := Lib.hid (fun w2 hk h2 => ⟨h2.fresh (Below.refl _ _) fun b hb => .inl (by rw [hF2]; exact .inl hb), (Kept.of_below (hB.trans (hBY.mono hB.size)) _).trans (hk.mono fun j hj => .inl fun e => hj (by rw [hF2]; exact .inl e)) |>.mono fun j hj => .inl hj⟩)
  have HOK := Lib.hid hi'.ok
  rw [hfv] at H1 ⊢
  clear h hi hm hd hd1 h1 h1Y hA hAY hfv hL hi' hbyt hF2 hdY hBY hlf hB hlt
  generalize onE X m bs.length = x at H1
  have hxx : (x == x) = true := by simp
  go_enter Tryz.func12, Tryz.ntmps12
  go_upto_region 1 with fail
  (try rw [hg])
  (try rw [hW1])
  refine wp_region_held_drew (S := (fun w => w.cell? ⟨pw, 0, none⟩ = some (.pointer (some ⟨p, 0, none⟩)) ∧ w.cell? ⟨pw, 1, none⟩ = some (.pointer (some ⟨q, 0, none⟩)) ∧ w.rangeAt g 0 LF)) (by kernel_rfl) (by rw [hY]; exact HS0.out) (fun hHeld => ?_)
  rw [hY] at hHeld ⊢
  clear hY
  refine tkq 0 (some 5) (v := ?_) rfl (Or.inl ⟨by rfl, ?_⟩) (by assumption) ?_
  rotate_left
  · intro w hSw; (try dsimp only at hSw); go_simp; first | done | (with_reducible rfl)
  simp only [Act.put, List.setIfInBounds_toArray, List.set_cons_zero, List.set_cons_succ]
  refine tkq 1 (some 6) (v := ?_) rfl (Or.inl ⟨by rfl, ?_⟩) (by assumption) ?_
  rotate_left
  · intro w hSw; (try dsimp only at hSw); go_simp; first | done | (with_reducible rfl)
  simp only [Act.put, List.setIfInBounds_toArray, List.set_cons_zero, List.set_cons_succ]
  refine tkq 2 (some 7) (v := ?_) rfl (Or.inl ⟨by rfl, ?_⟩) (by assumption) ?_
  rotate_left
  · intro w hSw; (try dsimp only at hSw); go_simp; first | done | (with_reducible rfl)
  simp only [Act.put, List.setIfInBounds_toArray, List.set_cons_zero, List.set_cons_succ]
  refine tkq 3 (some 8) (v := ?_) rfl (Or.inl ⟨by rfl, ?_⟩) (by assumption) ?_
  rotate_left
  · intro w hSw; (try dsimp only at hSw); go_simp; first | done | (with_reducible rfl)
  simp only [Act.put, List.setIfInBounds_toArray, List.set_cons_zero, List.set_cons_succ]
  refine tkq 4 (some 9) (v := ?_) rfl ?_ (by assumption) ?_
  rotate_left
  · refine yl_any 54 (.tmp 3) ?_ g 0 ?_ LF _ ?_ Tryz.underlying54 rfl ?_ ?_
    · rfl
    · rfl
    · intro w hSw; exact (by simpa using hSw.2.2)
    · rw [HLF.out]; exact fr_info
    · rfl
  simp only [Act.put, List.setIfInBounds_toArray, List.set_cons_zero, List.set_cons_succ]
  refine tkq 6 (some 11) (v := ?_) rfl (Or.inl ⟨by rfl, ?_⟩) (by assumption) ?_
  rotate_left
  · intro w hSw; (try dsimp only at hSw); go_simp; first | done | (with_reducible rfl)
  simp only [Act.put, List.setIfInBounds_toArray, List.set_cons_zero, List.set_cons_succ]
  refine tkq 7 (some 12) (v := ?_) rfl (Or.inl ⟨by rfl, ?_⟩) (by assumption) ?_
  rotate_left
  · intro w hSw; (try dsimp only at hSw); go_simp; first | done | (with_reducible rfl)
  simp only [Act.put, List.setIfInBounds_toArray, List.set_cons_zero, List.set_cons_succ]
  refine tkq 8 (some 13) (v := ?_) rfl (Or.inl ⟨by rfl, ?_⟩) (by assumption) ?_
  rotate_left
  · intro w hSw; (try dsimp only at hSw); go_simp; first | done | (with_reducible rfl)
  simp only [Act.put, List.setIfInBounds_toArray, List.set_cons_zero, List.set_cons_succ]
  refine tkq 9 (some 14) (v := ?_) rfl (Or.inl ⟨by rfl, ?_⟩) (by assumption) ?_
  rotate_left
  · intro w hSw; (try dsimp only at hSw); go_simp; first | done | (with_reducible rfl)
  simp only [Act.put, List.setIfInBounds_toArray, List.set_cons_zero, List.set_cons_succ]
  refine tkq 10 (some 15) (v := ?_) rfl ?_ (by assumption) ?_
  rotate_left
  · refine yl_any 54 (.tmp 3) ?_ g 0 ?_ LF _ ?_ Tryz.underlying54 rfl ?_ ?_
    · rfl
    · rfl
    · intro w hSw; exact (by simpa using hSw.2.2)
    · rw [HLF.out]; exact fr_info
    · rfl
  simp only [Act.put, List.setIfInBounds_toArray, List.set_cons_zero, List.set_cons_succ]
  refine wpAnyH_ready (rs := [5]) (by kernel_rfl) (by simp) ?_
  refine AllReadyH.cons rfl (fun K hK => ?_) AllReadyH.nil
  go_simp
  go_wp2_with (go_at_call 26; (with_reducible refine H1.out.mono ?_); rintro e w2 ⟨rfl, hl1, hn1⟩; have HL1 := Lib.hid hl1; have HN1 := Lib.hid hn1; clear hl1 hn1)
  refine hK.out _ _ (⟨HL1.out.1.p0, HL1.out.1.p1, HAR.out _ HL1.out.2⟩) (fun hHeld => ?_)
  clear hK K
  refine wpAnyH_ready (rs := [11]) (by kernel_rfl) (by simp) ?_
  refine AllReadyH.cons rfl (fun K hK => ?_) AllReadyH.nil
  go_simp
  go_wp2_with (go_at_call 29; (with_reducible refine (HN1.out _ (Below.refl _ _)).mono ?_); rintro e w3 ⟨rfl, hl2⟩; have HL2 := Lib.hid hl2; have HZ2 := Lib.hid hl2.1; clear hl2)
  refine hK.out _ _ (⟨HL2.out.1.p0, HL2.out.1.p1, HAR.out _ (HL1.out.2.trans HL2.out.2)⟩) (fun hHeld => ?_)
  clear hK K
  refine tkq 12 (some 17) (v := ?_) rfl (Or.inl ⟨by rfl, ?_⟩) (by assumption) ?_
  rotate_left
  · intro w hSw; (try dsimp only at hSw); go_simp; first | done | (with_reducible rfl)
  simp only [Act.put, List.setIfInBounds_toArray, List.set_cons_zero, List.set_cons_succ]
  refine tkq 13 (some 18) (v := ?_) rfl (Or.inl ⟨by rfl, ?_⟩) (by assumption) ?_
  rotate_left
  · intro w hSw; (try dsimp only at hSw); go_simp; first | done | (with_reducible rfl)
  simp only [Act.put, List.setIfInBounds_toArray, List.set_cons_zero, List.set_cons_succ]
  refine tkq 14 (some 19) (v := ?_) rfl (Or.inl ⟨by rfl, ?_⟩) (by assumption) ?_
  rotate_left
  · intro w hSw; (try dsimp only at hSw); go_simp; first | done | (with_reducible rfl)
  simp only [Act.put, List.setIfInBounds_toArray, List.set_cons_zero, List.set_cons_succ]
  refine wpAnyH_ready (rs := [15]) (by kernel_rfl) (by simp) ?_
  refine AllReadyH.cons rfl (fun K hK => ?_) AllReadyH.nil
  go_simp
  go_wp2_with (go_at_call 25; (with_reducible refine (same17 HZ2.out HOK.out).mono ?_); rintro e w4 ⟨rfl, hb4⟩; have HB4 := Lib.hid hb4; clear hb4)
  refine hK.out _ _ (⟨(HL2.out.1.below HB4.out).p0, (HL2.out.1.below HB4.out).p1, HAR.out _ ((HL1.out.2.trans HL2.out.2).trans (Kept.of_below HB4.out _))⟩) (fun hHeld => ?_)
  clear hK K
  refine tkq 16 (some 21) (v := ?_) rfl (Or.inl ⟨by rfl, ?_⟩) (by assumption) ?_
  rotate_left
  · intro w hSw; (try dsimp only at hSw); go_simp; first | done | (with_reducible rfl)
  simp only [Act.put, List.setIfInBounds_toArray, List.set_cons_zero, List.set_cons_succ]
  refine tkq 17 (some 4) (v := ?_) rfl (Or.inl ⟨by rfl, ?_⟩) (by assumption) ?_
  rotate_left
  · intro w hSw; (try dsimp only at hSw); go_simp; first | done | (with_reducible rfl)
  simp only [Act.put, List.setIfInBounds_toArray, List.set_cons_zero, List.set_cons_succ]
  refine wpAnyH_done (by kernel_rfl) ?_ _
  go_wp2_with fail
  go_ret
  exact ⟨by first | rfl | simp, HFIN.out _ ((HL1.out.2.trans HL2.out.2).trans (Kept.of_below HB4.out _)) (HZ2.out.below HB4.out)⟩
end
end
end Go.Proofs.YtphpdaldplkgmaaGreat
