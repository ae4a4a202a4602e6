/-
  slices.Clone of Ranges.
-/
import Derived.Test.YtkahndjflhgccaaMg
namespace Go.Proofs.Ytkahndjflhgccaa
set_option linter.unusedVariables false
open Go.RowKit
theorem rsC_cells {w : World} {P : Nat → Prop} {A : Option Addr} {n : Nat} {rs : RS} (h : RgP w P A n rs) (ad : Addr) (hA : A = some ad) (j : Nat) (u : Value) (hu : (rsC rs)[j]? = some u) : w.cell? (ad.add j) = some u := by
  subst hA
  have hj := (List.getElem?_eq_some_iff.1 hu).1
  rw [rsC_len] at hj
  have hn := h.1
  obtain ⟨b, off, e, _, _, hc⟩ := h.2.2 (by omega)
  injection e with e
  subst e
  have hi : j / 2 < rs.length := by omega
  have hx : rs[j / 2]? = some rs[j / 2] := List.getElem?_eq_getElem hi
  have c := hc (j / 2) _ hx
  have g := rsC_get rs (j / 2) _ hx
  rw [addr_add]
  rcases Nat.mod_two_eq_zero_or_one j with h0 | h0
  · have ej : j = j / 2 * 2 := by omega
    rw [ej, g.1] at hu
    rw [ej, c.1]; exact hu
  · have ej : j = j / 2 * 2 + 1 := by omega
    rw [ej, g.2] at hu
    rw [ej, ← Nat.add_assoc, c.2]; exact hu
theorem wpList_append_rs {w : World} {ops : Array Oper} {rest : List Oper} {o : Oper} {a : Act} {Q : Exit → Act → World → Prop} (hgd : o.guard = none) (s x : Operand)
    (ho : o.op = .call { callee := .builtin .append, args := #[s, x], argTypes := #[27, 27] }) (base : Nat) (v : Value) (hs : a.eval s = v) (hown : OwnR w base v []) (P : Nat → Prop) (ad : Addr) (n c : Nat) (rs : RS)
    (hx : a.eval x = .slice (some ad) n c) (hr : RgP w P (some ad) n rs) (hl : n ≤ 1000000) (hbase : base ≤ w.heap.size)
    (h : ∀ v' w', OwnR w' base v' rs → w.grownBy w' v.ownBlock → (v'.ownBlock = v.ownBlock ∨ v'.ownBlock = some w.heap.size) → wpList Try.prog ops Q rest (a.put o.dst v') w') : wpList Try.prog ops Q (o :: rest) a w := by
  have hI := rg_info
  cases hq : Try.prog.info? 60 with
  | none => rw [hq] at hI; cases hI
  | some i =>
    rw [hq] at hI
    simp only [Option.map_some, Option.some.injEq, Prod.mk.injEq] at hI
    refine wpList_plain hgd fun K hK => ?_
    obtain ⟨v', w', k1, k2, k3, _, k5⟩ := run_append_own_at (P := Try.prog) (w := w) base 27 o.type 60 i _ 2 16 Try.underlying27 hq hI.1 hI.2.1 hI.2.2 rfl (by omega) v 0 [] hown.1 ad n c (rsC rs) (by rw [rsC_len, hr.1]) (rsC_cells hr ad rfl) (rsC_one rs) (by unfold maxLen; omega) (by omega) hbase
    unfold Oper.wp
    simp [execOp, ho, resolve, invoke, builtin, hs, hx, k1, Result.andThen]
    refine hK _ _ (h v' w' ⟨?_, hr.2.1⟩ k3 k5)
    rw [Nat.zero_add, List.nil_append] at k2
    rw [hr.1]; exact k2
set_option maxRecDepth 100000 in
theorem sclone_any (P : Nat → Prop) (r : Sl) (rs : RS) (w : World) (hr : InR w P r rs) (hn : r.n ≤ 1000000) :
    Calls Try.prog 50 #[.slice r.A r.n r.c] w fun e w' => ∃ v, e = .returned v ∧ OwnR w' w.heap.size v rs ∧ Below w.heap.size w w' := by
  obtain ⟨A, n, c⟩ := r
  obtain ⟨hrd, hnc, hcm, hA⟩ := hr
  simp only at hrd hnc hcm hA hn ⊢
  cases A with
  | none =>
    obtain rfl := hA rfl
    obtain rfl : n = 0 := by omega
    obtain rfl : rs = [] := List.eq_nil_of_length_eq_zero hrd.1
    clear hA
    have he := fun W : World => Lib.run_eql_slice_nil (P := Try.prog) W 27 60 none 0 0 0 0 Try.underlying27
    have hown : OwnR w w.heap.size (.slice none 0 0) [] := ⟨⟨rfl, .inl ⟨rfl, rfl⟩⟩, fun r h => by cases h⟩
    go_enter Try.func50, Try.ntmps50
    go_wp2
    go_ret
    exact ⟨_, rfl, hown, Below.refl _ _⟩
  | some ad =>
    clear hA
    have he := fun W : World => Lib.run_eql_slice_nil (P := Try.prog) W 27 60 (some ad) n c 0 0 Try.underlying27
    have hb1 : Below w.heap.size w (w.alloc (.cells #[] 60)) := (Below.refl _ _).alloc (Nat.le_refl _) _
    have hr1 := hrd.kept (S := fun _ => False) (Kept.of_below hb1 (fun _ => False)) (fun _ _ h => h)
    have hown : OwnR (w.alloc (.cells #[] 60)) w.heap.size (.slice (some ⟨w.heap.size, 0, none⟩) 0 0) [] := ⟨⟨rfl, .inr ⟨_, 0, _, rfl, Nat.le_refl _, heap_alloc_new w _, Nat.le_refl _, by unfold maxLen; omega, rfl, rfl⟩⟩, fun r h => by cases h⟩
    have hs1 : w.heap.size ≤ (w.alloc (.cells #[] 60)).heap.size := by simp
    go_enter Try.func50, Try.ntmps50
    go_wp2_with (at_builtin; refine wpList_append_rs rfl (.tmp 5) (.tmp 6) rfl w.heap.size _ rfl hown P ad n c rs rfl hr1 hn hs1 ?_; intro v2 w2 hown2 hg2 hv2; have hb2 := hb1.grown hg2 hs1 (fun k hk => (hown.block_lt k hk).1))
    go_ret
    exact ⟨_, rfl, hown2, hb2⟩
end Go.Proofs.Ytkahndjflhgccaa
