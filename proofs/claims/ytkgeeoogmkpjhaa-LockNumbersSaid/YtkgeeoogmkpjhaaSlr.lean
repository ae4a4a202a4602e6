/-
  A slice of rows of bytes, of the call's own: its rows read, appended to.
-/
import Derived.Test.YtkgeeoogmkpjhaaPlace
import Derived.Deep.AppendLies
namespace Go.Proofs.Ytkgeeoogmkpjhaa
set_option linter.unusedVariables false
set_option linter.unusedSimpArgs false
open Go.RowKit
def slV (d : Sl) : Value := .slice d.A d.n d.c
structure RowsAt (W : World) (base : Nat) (v : Value) (L : List (Sl × List Int)) : Prop where
  own : W.ownsRow base 22 1 v L.length (L.map fun r => slV r.1)
  rows : ∀ r ∈ L, InD W (fun b => v.ownBlock ≠ some b) r.1 r.2
theorem ownsRow_lt {W : World} {base : Nat} {e : TypeId} {v : Value} {n : Nat} {xs : List Value} (h : W.ownsRow base e 1 v n xs) : ∀ k, v.ownBlock = some k → base ≤ k ∧ k < W.heap.size := by
  intro k hk
  rcases h.2 with ⟨rfl, _⟩ | ⟨g, cap, cur, rfl, hbg, hg, _⟩
  · simp [Value.ownBlock] at hk
  · simp [Value.ownBlock] at hk
    subst hk
    exact ⟨hbg, (Array.getElem?_eq_some_iff.1 hg).1⟩
theorem ownsRow_below {W W' : World} {base : Nat} {e : TypeId} {v : Value} {n : Nat} {xs : List Value} (h : W.ownsRow base e 1 v n xs) (hb : Below W.heap.size W W') : W'.ownsRow base e 1 v n xs := by
  refine ⟨h.1, ?_⟩
  rcases h.2 with h2 | ⟨g, cap, cur, h1, h2, hg, h3⟩
  · exact .inl h2
  · exact .inr ⟨g, cap, cur, h1, h2, by rw [hb.block g (Array.getElem?_eq_some_iff.1 hg).1]; exact hg, h3⟩
theorem RowsAt.below {W W' : World} {base : Nat} {v : Value} {L : List (Sl × List Int)} (h : RowsAt W base v L) (hb : Below W.heap.size W W') : RowsAt W' base v L :=
  ⟨ownsRow_below h.own hb, fun r hr => (h.rows r hr).below_ hb⟩
theorem slV_one (L : List (Sl × List Int)) : ∀ u ∈ L.map (fun r => slV r.1), u.oneCell' = true := by
  intro u hu
  obtain ⟨r, _, rfl⟩ := List.mem_map.1 hu
  rfl
theorem RowsAt.grown {W W' : World} {base g cap H : Nat} {v : Value} {L M : List (Sl × List Int)} (h : RowsAt W base v L) (hM : ∀ r ∈ M, InD W (fun b => v.ownBlock ≠ some b) r.1 r.2) (hH : W.heap.size = H)
    (ho : W'.ownsRow base 22 1 (.slice (some ⟨g, 0, none⟩) (L.length + M.length) cap) (L.length + M.length) (L.map (fun r => slV r.1) ++ M.map (fun r => slV r.1))) (hg : W.grownBy W' v.ownBlock) (hor : v.ownBlock = some g ∨ g = H) :
    RowsAt W' base (.slice (some ⟨g, 0, none⟩) (L.length + M.length) cap) (L ++ M) := by
  refine ⟨by rw [List.map_append, List.length_append]; exact ho, fun r hr => ?_⟩
  have h0 : InD W (fun b => v.ownBlock ≠ some b) r.1 r.2 := by
    rcases List.mem_append.1 hr with h1 | h1
    · exact h.rows r h1
    · exact hM r h1
  have h1 : InD W (fun b => v.ownBlock ≠ some b ∧ b < W.heap.size) r.1 r.2 := h0.mono (fun b hb hP => ⟨hP, hb⟩)
  have hk : Kept (fun j => v.ownBlock = some j) W W' := Kept.of_grown hg (fun k hk => .inl hk)
  refine (h1.kept hk (fun b hb e => hb.1 e)).mono (fun b _ hb e => ?_)
  simp [Value.ownBlock] at e
  subst e
  rcases hor with h2 | h2
  · exact hb.1 h2
  · omega
theorem RowsAt.cell {W : World} {base : Nat} {v : Value} {L : List (Sl × List Int)} (h : RowsAt W base v L) (hp : 0 < L.length) : ∃ g cap, v = .slice (some ⟨g, 0, none⟩) L.length cap ∧ g < W.heap.size ∧ L.length ≤ cap ∧ cap ≤ maxLen ∧ ∀ j r, L[j]? = some r → W.cell? ⟨g, j, none⟩ = some (slV r.1) := by
  rcases h.own.2 with ⟨_, h0⟩ | ⟨g, cap, cur, hv, hbg, hg, hnc, hcm, hcs, ht⟩
  · omega
  · refine ⟨g, cap, hv, (Array.getElem?_eq_some_iff.1 hg).1, hnc, hcm, fun j r hj => ?_⟩
    have hA : At W g 22 cur.toList := by simpa [At] using hg
    have hj' : j < L.length := (List.getElem?_eq_some_iff.1 hj).1
    rw [hA.cell, ← List.getElem?_take_of_lt (show j < L.length * 1 by omega), ht, List.getElem?_map, hj]
    rfl
theorem rows_new (W : World) : RowsAt (W.alloc (.cells #[] 22)) W.heap.size (.slice (some ⟨W.heap.size, 0, none⟩) 0 0) [] :=
  ⟨⟨rfl, .inr ⟨W.heap.size, 0, #[], rfl, Nat.le_refl _, heap_alloc_new W _, Nat.le_refl _, Nat.zero_le _, rfl, rfl⟩⟩, fun r hr => by cases hr⟩
theorem ownsRow_base {W : World} {base base' : Nat} {e : TypeId} {v : Value} {n : Nat} {xs : List Value} (h : W.ownsRow base e 1 v n xs) (hb : base' ≤ base) : W.ownsRow base' e 1 v n xs := by
  refine ⟨h.1, ?_⟩
  rcases h.2 with h2 | ⟨g, cap, cur, h1, h2, h3⟩
  · exact .inl h2
  · exact .inr ⟨g, cap, cur, h1, by omega, h3⟩
theorem RowsAt.base_ {W : World} {base base' : Nat} {v : Value} {L : List (Sl × List Int)} (h : RowsAt W base v L) (hb : base' ≤ base) : RowsAt W base' v L := ⟨ownsRow_base h.own hb, h.rows⟩
theorem sl_info : (Try.prog.info? 22).map (fun i => (i.zero, i.size, i.bytes)) = some (some (.slice none 0 0), 1, 24) := by kernel_rfl
theorem sl_parts : ∃ i, Try.prog.info? 22 = some i ∧ i.zero = some (.slice none 0 0) ∧ i.size = 1 ∧ i.bytes = 24 := by
  have h := sl_info
  cases hi : Try.prog.info? 22 with
  | none => rw [hi] at h; simp at h
  | some i =>
    rw [hi] at h
    simp only [Option.map_some, Option.some.injEq, Prod.mk.injEq] at h
    exact ⟨i, rfl, h.1, h.2.1, h.2.2⟩
section
variable {w : World} {ops : Array Oper} {rest : List Oper} {a : Act} {Q : Exit → Act → World → Prop}
/-- append of rows, that lie in a block in a row, onto such a slice. -/
theorem wpList_append_rows {o : Oper} (hgd : o.guard = none) (s x : Operand) (ho : o.op = .call { callee := .builtin .append, args := #[s, x], argTypes := #[55, 55] })
    (base : Nat) (v : Value) (L M : List (Sl × List Int)) (hs : a.eval s = v) (h : RowsAt w base v L) (g0 m : Nat) (T : TypeId) (hx : a.eval x = .slice (some ⟨g0, 0, none⟩) m m) (hm : m = M.length) (hm0 : 0 < m) (hA : At w g0 T (M.map fun r => slV r.1)) (hM : ∀ r ∈ M, InD w (fun b => v.ownBlock ≠ some b) r.1 r.2)
    (hl : L.length + M.length ≤ 1000) (hbase : base ≤ w.heap.size)
    (hK : ∀ v' w', RowsAt w' base v' (L ++ M) → w.grownBy w' v.ownBlock → (∃ A c, v' = .slice A (L.length + M.length) c) → (∀ q, v'.ownBlock = some q → v.ownBlock = some q ∨ q = w.heap.size) → wpList Try.prog ops Q rest (a.put o.dst v') w') : wpList Try.prog ops Q (o :: rest) a w := by
  obtain ⟨i, hi, hz, hsz, hby⟩ := sl_parts
  subst hm
  refine wpList_append_lies w hgd s x 55 ho base 22 i (.slice none 0 0) 1 24 Try.underlying55 hi hz hsz hby rfl (by decide) v L.length _ hs h.own ⟨g0, 0, none⟩ M.length M.length (M.map fun r => slV r.1) hx (by simp) ?_ (slV_one M) hm0 (by unfold maxLen; omega) (by omega) hbase w.heap.size rfl ?_
  · intro j u hu
    rw [addr_add, Nat.zero_add, hA.cell]
    exact hu
  · intro g cap w' h2 h3 h4 h5
    refine hK _ _ (h.grown hM rfl h2 h3 h4) h3 ⟨_, _, rfl⟩ (fun q hq => ?_)
    simp [Value.ownBlock] at hq
    subst hq
    exact h4
end
end Go.Proofs.Ytkgeeoogmkpjhaa
