/-
  Rows of signed numbers: the call's own, and one more appended; a row that came in, out of its reading.
-/
import Derived.Test.YtolnadnmnadpoaaRe
import Derived.Test.YtolnadnmnadpoaaOpenRow
import Derived.Maps.AppendAt
import Derived.WalkKit
import Derived.SizedLaws
namespace Go.Proofs.Ytolnadnmnadpoaa
set_option linter.unusedVariables false
set_option linter.unusedSimpArgs false
open Go.RowKit Go.ChangeShapes Go.WideShapes Go.Deep
theorem i64_info : (Try.prog.info? 2).map (fun i => (i.zero, i.size, i.bytes)) = some (some (.int .i64 0), 1, 8) := by kernel_rfl
theorem oneCell_i64 (xs : List Int) : ∀ u ∈ xs.map (Value.int .i64), u.oneCell' = true := fun u hu => by
  obtain ⟨x, _, rfl⟩ := List.mem_map.1 hu
  rfl
def Wd64 (xs : List Int) : Prop := ∀ x ∈ xs, -9223372036854775808 ≤ x ∧ x < 9223372036854775808
/-- A row of signed numbers of the call's own. -/
structure OwnN (w : World) (base : Nat) (v : Value) (xs : List Int) : Prop where
  own : w.ownsRow base 2 1 v xs.length (xs.map (Value.int .i64))
  wd : Wd64 xs
section
variable {w w' : World} {base : Nat} {v : Value} {xs : List Int}
theorem OwnN.nil_ (w : World) (base : Nat) : OwnN w base (.slice none 0 0) [] := ⟨⟨rfl, .inl ⟨rfl, rfl⟩⟩, fun d h => by cases h⟩
theorem OwnN.keep (h : OwnN w base v xs) (hk : ∀ k, v.ownBlock = some k → w'.heap[k]? = w.heap[k]?) : OwnN w' base v xs := by
  refine ⟨⟨h.own.1, ?_⟩, h.wd⟩
  rcases h.own.2 with h0 | ⟨g, cap, cur, rfl, hb, hg, hr⟩
  · exact .inl h0
  · exact .inr ⟨g, cap, cur, rfl, hb, (hk g rfl).trans hg, hr⟩
theorem OwnN.lt (h : OwnN w base v xs) : ∀ k, v.ownBlock = some k → base ≤ k ∧ k < w.heap.size := by
  intro k hk
  rcases h.own.2 with ⟨rfl, _⟩ | ⟨g, cap, cur, rfl, hb, hg, _⟩
  · cases hk
  · have : g = k := Option.some.inj hk
    subst this
    refine ⟨hb, ?_⟩
    rcases Nat.lt_or_ge g w.heap.size with h | h
    · exact h
    · rw [Array.getElem?_eq_none h] at hg; cases hg
theorem OwnN.below (h : OwnN w base v xs) (k : Below w.heap.size w w') : OwnN w' base v xs := h.keep fun j hj => k.block j (h.lt j hj).2
theorem OwnN.inN (h : OwnN w base v xs) : ∃ A c, v = .slice A xs.length c ∧ xs.length ≤ c ∧ c ≤ maxLen ∧ InN w A xs.length xs := by
  have hlt := h.lt
  rcases h.own.2 with ⟨rfl, h0⟩ | ⟨g, cap, cur, rfl, hb, hg, hn, hm, hs, ht⟩
  · obtain rfl : xs = [] := List.eq_nil_of_length_eq_zero h0
    exact ⟨none, 0, rfl, Nat.le_refl _, by unfold maxLen; omega, InN.nil_ _ _⟩
  · refine ⟨_, cap, rfl, hn, hm, rfl, h.wd, fun _ => ⟨g, 0, rfl, (hlt g rfl).2, fun i x hx => ?_⟩⟩
    have hA : At w g 2 cur.toList := hg
    have hj : (xs.map (Value.int .i64))[i]? = some (.int .i64 x) := by rw [List.getElem?_map, hx]; rfl
    rw [Nat.zero_add, hA.cell]
    rw [← ht, List.getElem?_take] at hj
    split at hj
    · exact hj
    · cases hj
end
theorem inN_block {w : World} {g : Nat} (xs : List Int) (h : At w g 2 (xs.map (Value.int .i64))) (hw : Wd64 xs) (n : Nat) (hn : xs.length = n) : InN w (some ⟨g, 0, none⟩) n xs :=
  ⟨hn, hw, fun _ => ⟨g, 0, rfl, h.lt, fun i x hx => by rw [Nat.zero_add, h.cell, List.getElem?_map, hx]; rfl⟩⟩
/-- append of one number that stands in a block. -/
theorem run_append_n (w : World) (ty : TypeId) (base : Nat) (v : Value) (xs : List Int) (hown : OwnN w base v xs) (ad : Addr) (c : Nat) (x : Int) (hx : w.cell? ad = some (.int .i64 x)) (hwd : -9223372036854775808 ≤ x ∧ x < 9223372036854775808) (hN : (xs.length + 1) * 8 ≤ 140737488355328) (hbase : base ≤ w.heap.size) :
    ∃ v' w', (Builtin.append_ #[23, 23] ty #[v, .slice (some ad) 1 c]).run Try.prog w = .ok v' w' ∧ OwnN w' base v' (xs ++ [x]) ∧ w.grownBy w' v.ownBlock ∧ (v'.ownBlock = v.ownBlock ∨ v'.ownBlock = some w.heap.size) := by
  have hI := i64_info
  obtain ⟨i, hi, hz, hsz, hby⟩ : ∃ i, Try.prog.info? 2 = some i ∧ i.zero = some (.int .i64 0) ∧ i.size = 1 ∧ i.bytes = 8 := by
    cases hq : Try.prog.info? 2 with
    | none => rw [hq] at hI; cases hI
    | some i =>
      rw [hq] at hI
      simp only [Option.map_some, Option.some.injEq, Prod.mk.injEq] at hI
      exact ⟨i, rfl, hI⟩
  have hnews : ∀ j u, ([x].map (Value.int .i64))[j]? = some u → w.cell? (ad.add j) = some u := by
    intro j u hu
    match j with
    | 0 =>
      simp at hu
      subst hu
      obtain ⟨b, off, s⟩ := ad
      simpa [Addr.add] using hx
    | j + 1 => simp at hu
  obtain ⟨v', w', k1, k2, k3, _, k5⟩ := run_append_own_at (P := Try.prog) (w := w) base 23 ty 2 i _ 1 8 Try.underlying23 hi hz hsz hby rfl (by omega) v xs.length (xs.map (Value.int .i64)) hown.own ad 1 c ([x].map (Value.int .i64)) rfl hnews (oneCell_i64 [x]) (by unfold maxLen; omega) hN hbase
  refine ⟨v', w', k1, ⟨?_, fun d hd => (List.mem_append.1 hd).elim (hown.wd d) (fun h => by simp at h; subst h; exact hwd)⟩, k3, k5⟩
  rw [List.length_append, List.map_append]
  exact k2
section
variable {w : World} {ops : Array Oper} {rest : List Oper} {o : Oper} {a : Act} {Q : Exit → Act → World → Prop}
theorem wpList_append_n (hgd : o.guard = none) (s x : Operand) (ho : o.op = .call { callee := .builtin .append, args := #[s, x], argTypes := #[23, 23] }) (base : Nat) (v : Value) (xs : List Int) (hs : a.eval s = v) (hown : OwnN w base v xs)
    (ad : Addr) (c : Nat) (hx : a.eval x = .slice (some ad) 1 c) (y : Int) (hy : w.cell? ad = some (.int .i64 y)) (hwd : -9223372036854775808 ≤ y ∧ y < 9223372036854775808) (hN : (xs.length + 1) * 8 ≤ 140737488355328) (hbase : base ≤ w.heap.size)
    (h : ∀ v' w', OwnN w' base v' (xs ++ [y]) → w.grownBy w' v.ownBlock → wpList Try.prog ops Q rest (a.put o.dst v') w') :
    wpList Try.prog ops Q (o :: rest) a w := by
  obtain ⟨v', w', k1, k2, k3, _⟩ := run_append_n w o.type base v xs hown ad c y hy hwd hN hbase
  refine wpList_plain hgd fun K hK => ?_
  unfold Oper.wp
  simp [execOp, ho, resolve, invoke, builtin, hs, hx, k1, Result.andThen]
  exact hK _ _ (h v' w' k2 k3)
end
/-- What a reading of a row of signed numbers says. -/
theorem inN_of_trod {H : Type} {enc : TypeId × Value → H} {P : Program} {w : World} {t e : TypeId} {fuel : Nat} {cs : List Value} {x : DataW H × List MemPlace} (ht : P.underlying t = some (.slice e)) (he : P.underlying e = some (.int .i64)) (hc : P.cellsOf e = 1)
    (h : DataW.trod enc P w 0 (fun _ => true) true fuel t cs = some x) :
    ∃ A len cap xs, cs = [.slice A len cap] ∧ InN w A len xs ∧ len ≤ cap ∧ cap ≤ maxLen ∧ ((x.1 = .nil ∧ cap = 0) ∨ ∃ es sp, x.1 = .slice es sp ∧ es.length + sp.length = cap) := by
  rcases open_ints ht he hc h with ⟨hcs, hx⟩ | ⟨x', l, c, zs, hcs, _, hl, hm, hz, hx, hcell, hwz⟩
  · exact ⟨none, 0, 0, [], hcs, InN.nil_ _ _, Nat.le_refl _, by unfold maxLen; omega, .inl ⟨by rw [hx], rfl⟩⟩
  · have hz' : zs.length = c := by simpa using hz
    refine ⟨_, _, _, zs.take l, hcs, ⟨by rw [List.length_take]; omega, fun y hy => by have := bounds_i64 (hwz y (List.mem_of_mem_take hy)); omega, fun hp => ?_⟩, hl, hm, .inr ⟨_, _, by rw [hx], ?_⟩⟩
    · obtain ⟨b, off, spot⟩ := x'
      have h0 := hcell 0 (by omega)
      have hs : spot = none := by simpa [Addr.add] using World.cell?_spot h0
      subst hs
      rw [addr_add] at h0
      refine ⟨b, off, rfl, cell_lt h0, fun i y hi => ?_⟩
      rw [List.getElem?_take] at hi
      split at hi
      · rename_i hil
        have h2 := hcell i (by omega)
        rw [addr_add] at h2
        rw [h2, List.getD_eq_getElem?_getD, hi]; rfl
      · cases hi
    · simp [lits]
      omega
end Go.Proofs.Ytolnadnmnadpoaa
