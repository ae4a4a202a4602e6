/-
  LockBack returns true at every input: its walk.
-/
import Derived.Test.YtijjiifekilapaaL2
import Derived.Test.YtijjiifekilapaaHre
import Derived.Test.YtijjiifekilapaaMq5
import Derived.ArgAppend
import Derived.Deep.Upon
namespace Go.Proofs.Ytijjiifekilapaa
section
set_option linter.unusedVariables false
set_option linter.unusedSimpArgs false
open Go.RowKit Go.ChangeShapes Go.WideShapes Go.Deep
/-- A row that came in, cut to no more than k bytes. -/
theorem InRow.cutk {w : World} {A : Option Addr} {n c : Nat} {bs : List Int} (h : InRow w A n c bs) (k : Nat) : Rd w w.heap.size A (min n k) (bs.take (min n k)) ∧ min n k ≤ k ∧ min n k ≤ n ∧ min n k ≤ c ∧ c ≤ maxLen ∧ (k < n → A ≠ none) := by
  obtain ⟨h1, h2, h3, h4⟩ := h
  exact ⟨h1.cut (Nat.min_le_left _ _), Nat.min_le_right _ _, Nat.min_le_left _ _, Nat.le_trans (Nat.min_le_left _ _) h2, h3, fun hk e => by have := h4 e; omega⟩
end
section
set_option linter.unusedVariables false
set_option linter.unusedSimpArgs false
open Go.RowKit Go.ChangeShapes Go.WideShapes Go.Deep
theorem run_app_lit {P : Program} {w : World} (t ty e : TypeId) (i : TypeInfo) (ht : P.underlying t = some (.slice e)) (hi : P.info? e = some i) (hz : i.zero = some (.int .u8 0)) (hsize : i.size = 1) (hby : i.bytes = 1)
    (g n B B' : Nat) (lits : List Int) (hl : Rd w B (some ⟨g, 0, none⟩) n lits) (hn : 0 < n) (A : Option Addr) (m c : Nat) (news : List Int) (hr : Rd w B' A m news) (hB : B ≤ w.heap.size) (hlen : n + m ≤ 140737488355328) :
    ∃ A' c' w', (Builtin.append_ #[t, t] ty #[.slice (some ⟨g, 0, none⟩) n n, .slice A m c]).run P w = .ok (.slice A' (n + m) c') w' ∧ n + m ≤ c' ∧ c' ≤ maxLen ∧ A' ≠ none ∧ Rd w' w'.heap.size A' (n + m) (lits ++ news) ∧ Below w.heap.size w w' := by
  rcases Nat.eq_zero_or_pos m with h0 | h0
  · subst h0
    obtain rfl := hr.zero
    have hsrc : Src P i.size t (.slice A 0 c) 0 [] w := by
      cases A with
      | none => exact Src.ofNil w ht c
      | some a => exact Src.ofSlice w ht a 0 c [] (by simp) (fun j u h => by simp at h) (fun u h => by cases h)
    refine ⟨_, n, w, run_append_nothing w t t ty e i ht hi (some ⟨g, 0, none⟩) n n (Nat.le_refl _) (.slice A 0 c) hsrc, Nat.le_refl _, by unfold maxLen; omega, by simp, ?_, Below.refl _ _⟩
    rw [List.append_nil]
    exact hl.more hB
  · obtain ⟨a1, e1, hc1⟩ := hl.cells hn
    obtain ⟨a2, rfl, hc2⟩ := hr.cells h0
    have e1' : a1 = ⟨g, 0, none⟩ := by injection e1 with e1; exact e1.symm
    subst e1'
    obtain ⟨v', w', h1, h2, h3⟩ := run_append_arg_grows (P := P) w t ty e i (.int .u8 0) 1 1 ht hi hz hsize hby rfl (by decide) ⟨g, 0, none⟩ n n (lits.map (Value.int .u8)) (by simp [hl.1]) hc1 a2 m c (news.map (Value.int .u8)) (by simp [hr.1]) hc2 (by omega) (by unfold maxLen; omega) (by omega)
    have hown : Own w' w.heap.size e v' (lits ++ news) := ⟨by rw [List.map_append, List.length_append, hl.1, hr.1]; exact h2, hl.2.1.app hr.2.1⟩
    obtain ⟨g', c', _, rfl, _, _, _, _, x1, x2⟩ := hown.place (by rw [List.length_append, hl.1, hr.1]; omega)
    rw [List.length_append, hl.1, hr.1] at hown x1 h1
    obtain ⟨A9, c9, hv, _, _, hrd⟩ := hown.open_n (n + m) (by rw [List.length_append, hl.1, hr.1])
    injection hv with hv _ hvc
    subst hv; subst hvc
    exact ⟨_, _, w', h1, x1, x2, by simp, hrd, (Below.refl _ _).grown h3 (Nat.le_refl _) (fun k hk => by cases hk)⟩
theorem wpList_app_lit {P : Program} {w : World} {ops : Array Oper} {rest : List Oper} {o : Oper} {a : Act} {Q : Exit → Act → World → Prop} (hgd : Region.wanted o (yielded ops a.tmps) = true) (s x : Operand) (t : TypeId)
    (ho : o.op = .call { callee := .builtin .append, args := #[s, x], argTypes := #[t, t] })
    (e : TypeId) (i : TypeInfo) (ht : P.underlying t = some (.slice e)) (hi : P.info? e = some i) (hz : i.zero = some (.int .u8 0)) (hsize : i.size = 1) (hby : i.bytes = 1)
    (g n B B' : Nat) (lits : List Int) (hs : a.eval s = .slice (some ⟨g, 0, none⟩) n n) (hl : Rd w B (some ⟨g, 0, none⟩) n lits) (hn : 0 < n) (A : Option Addr) (m c : Nat) (news : List Int) (hx : a.eval x = .slice A m c) (hr : Rd w B' A m news) (hB : B ≤ w.heap.size) (hlen : n + m ≤ 140737488355328)
    (h : ∀ A' c' w', n + m ≤ c' → c' ≤ maxLen → A' ≠ none → Rd w' w'.heap.size A' (n + m) (lits ++ news) → Below w.heap.size w w' → wpList P ops Q rest (a.put o.dst (.slice A' (n + m) c')) w') : wpList P ops Q (o :: rest) a w := by
  refine wpList_step fun K hK => ?_
  rw [if_pos hgd]
  obtain ⟨A', c', w', h1, h2, h3, h4, h5, h6⟩ := run_app_lit (P := P) (w := w) t o.type e i ht hi hz hsize hby g n B B' lits hl hn A m c news hr hB hlen
  unfold Oper.wp
  simp [execOp, ho, resolve, invoke, builtin, hs, hx, h1, Result.andThen]
  exact hK _ _ (h A' c' w' h2 h3 h4 h5 h6)
end
end Go.Proofs.Ytijjiifekilapaa
