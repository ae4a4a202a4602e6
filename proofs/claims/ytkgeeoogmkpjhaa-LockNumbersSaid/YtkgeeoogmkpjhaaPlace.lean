/-
  Own rows by their place, one byte turned; rows cut short; append under a guard.
-/
import Derived.Test.YtkgeeoogmkpjhaaReg
import Derived.Test.YtkgeeoogmkpjhaaInRow
import Derived.Test.YtkgeeoogmkpjhaaKeep
namespace Go.Proofs.Ytkgeeoogmkpjhaa
set_option linter.unusedVariables false
set_option linter.unusedSimpArgs false
open Go.RowKit
theorem InD.below_ {w w' : World} {P : Nat → Prop} {d : Sl} {ds : List Int} (h : InD w P d ds) (k : Below w.heap.size w w') : InD w' P d ds := h.kept (Kept.of_below k (fun _ => False)) (fun _ _ h => h)
theorem At.of_below {w w' : World} {p : Nat} {T : TypeId} {l : List Value} (h : At w p T l) (k : Below w.heap.size w w') : At w' p T l := h.below k h.lt
theorem Own.place {w : World} {base : Nat} {e : TypeId} {v : Value} {bs : List Int} (h : Own w base e v bs) (hp : 0 < bs.length) :
    ∃ g c l, v = .slice (some ⟨g, 0, none⟩) bs.length c ∧ At w g e l ∧ l.length = c ∧ l.take bs.length = bs.map (Value.int .u8) ∧ base ≤ g ∧ bs.length ≤ c ∧ c ≤ maxLen := by
  rcases h.1.2 with ⟨_, h0⟩ | ⟨g, cap, cur, hv, hbg, hg, hnc, hcm, hcs, htake⟩
  · omega
  · exact ⟨g, cap, cur.toList, hv, hg, by simp; omega, by simpa using htake, hbg, hnc, hcm⟩
theorem place_cell {w : World} {g : Nat} {e : TypeId} {l : List Value} {bs : List Int} (h : At w g e l) (ht : l.take bs.length = bs.map (Value.int .u8)) (i : Nat) (x : Int) (hx : bs[i]? = some x) : w.cell? ⟨g, i, none⟩ = some (.int .u8 x) := by
  rw [h.cell]
  have hi : i < bs.length := (List.getElem?_eq_some_iff.1 hx).1
  rw [← List.getElem?_take_of_lt hi, ht, List.getElem?_map, hx]
  rfl
theorem place_set {w : World} {g base : Nat} {e : TypeId} {l : List Value} {bs : List Int} {c : Nat} (h : At w g e l) (hl : l.length = c) (ht : l.take bs.length = bs.map (Value.int .u8)) (hb : Byt bs) (hbg : base ≤ g) (hn : bs.length ≤ c) (hc : c ≤ maxLen) (i : Nat) (y : Int) (hy : 0 ≤ y ∧ y < 256) :
    Own (w.setCell ⟨g, i, none⟩ (.int .u8 y)) base e (.slice (some ⟨g, 0, none⟩) bs.length c) (bs.set i y) := by
  refine Own.of_block ?_ (by simp) (h.set i (.int .u8 y)) hbg hn hc (by simp [hl]) ?_
  · intro z hz
    rcases List.mem_or_eq_of_mem_set hz with hz | hz
    · exact hb z hz
    · rw [hz]; exact hy
  · show (l.set i (.int .u8 y)).take bs.length = _
    rw [List.take_set, ht, List.map_set]
theorem b_xor (a b : Int) (h0 : 0 ≤ a) (h1 : a < 256) (k0 : 0 ≤ b) (k1 : b < 256) : 0 ≤ bits BinOp.xor IntKind.u8 a b ∧ bits BinOp.xor IntKind.u8 a b < 256 := by
  rw [u8_xor _ _ h0 h1 k0 k1]
  have := Nat.xor_lt_two_pow (n := 8) (x := a.toNat) (y := b.toNat) (by omega) (by omega)
  omega
theorem InRow.inDl {w : World} {A : Option Addr} {n c : Nat} {bs : List Int} (h : InRow w A n c bs) : InD w (fun b => b < w.heap.size) ⟨A, n, c⟩ bs :=
  ⟨⟨h.1, fun b off hn' e => by obtain ⟨b', off', e', hb', _⟩ := h.1.2.2 hn'; simp only at e; rw [e] at e'; injection e' with e'; injection e' with e1 e2; omega⟩, h.2.1, h.2.2.1, h.2.2.2⟩
theorem InD.cutTo_ {w : World} {P : Nat → Prop} {A : Option Addr} {n c : Nat} {bs : List Int} (h : InD w P ⟨A, n, c⟩ bs) (k : Nat) : InD w P ⟨A, min n k, c⟩ (bs.take (min n k)) :=
  ⟨h.rd.cutTo (Nat.min_le_left n k), Nat.le_trans (Nat.min_le_left n k) h.lc, h.cm, h.nil⟩
theorem wpList_append_at_g {P : Program} {w : World} {ops : Array Oper} {rest : List Oper} {o : Oper} {a : Act} {Q : Exit → Act → World → Prop} (hgd : Region.wanted o (yielded ops a.tmps) = true) (s x : Operand) (t : TypeId)
    (ho : o.op = .call { callee := .builtin .append, args := #[s, x], argTypes := #[t, t] })
    (base : Nat) (e : TypeId) (i : TypeInfo) (ht : P.underlying t = some (.slice e)) (hi : P.info? e = some i) (hz : i.zero = some (.int .u8 0)) (hsize : i.size = 1) (hby : i.bytes = 1)
    (v : Value) (bs : List Int) (hs : a.eval s = v) (hown : Own w base e v bs)
    (B : Nat) (A : Option Addr) (m c : Nat) (news : List Int) (hx : a.eval x = .slice A m c) (hr : Rd w B A m news)
    (hlen : bs.length + m ≤ 140737488355328) (hbase : base ≤ w.heap.size)
    (h : ∀ v' w', Own w' base e v' (bs ++ news) → w.grownBy w' v.ownBlock → (v'.ownBlock = v.ownBlock ∨ v'.ownBlock = some w.heap.size) → wpList P ops Q rest (a.put o.dst v') w') : wpList P ops Q (o :: rest) a w := by
  refine wpList_step fun K hK => ?_
  rw [if_pos hgd]
  obtain ⟨v', w', h1, h2, h3, h4⟩ := run_append_at (P := P) (w := w) base t o.type e i ht hi hz hsize hby v bs hown B A m c news hr hlen hbase
  unfold Oper.wp
  simp [execOp, ho, resolve, invoke, builtin, hs, hx, h1, Result.andThen]
  exact hK _ _ (h v' w' h2 h3 h4)
end Go.Proofs.Ytkgeeoogmkpjhaa
