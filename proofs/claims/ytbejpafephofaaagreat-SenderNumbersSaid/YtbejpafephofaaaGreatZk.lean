/-
  The document's sender (narthexref16.Sender) of the call's own: what it holds (Dm); New, Write, Finish, Stop.
-/
import Derived.Test.YtbejpafephofaaaGreatMq18
import Derived.Test.YtbejpafephofaaaGreatMq21
import Derived.StillTailTactics
namespace Go.Proofs.YtbejpafephofaaaGreat
set_option linter.unusedVariables false
set_option linter.unusedSimpArgs false
open Go.RowKit
/-- The document's sender: numbers of X; fr the cells of its Reset; dd is it due; O its blocks. -/
structure Dm (w0 W : World) (q : Nat) (O : Nat → Prop) (X : SS) (fr : List Value) (dd : Bool) : Prop where
  ok : X.o.ok
  ex : ∃ L, Rs W w0.heap.size q 3 53 L O X.o ∧ L.length = 31 ∧ L[0]? = some (.int .u64 X.id) ∧ L[1]? = some (.int .u64 X.lim) ∧ L[2]? = some (.int .i64 X.st) ∧ (∀ j v, fr[j]? = some v → L[11 + j]? = some v) ∧ L[30]? = some (.bool dd)
  fl : fr.length = 19
  bl : Below w0.heap.size w0 W
  le : X.o.bs.length ≤ 800000
section
variable {w0 W W' : World} {q : Nat} {O : Nat → Prop} {X : SS} {fr : List Value} {dd : Bool}
theorem Dm.at_ (h : Dm w0 W q O X fr dd) : ∃ L, At W q 53 L ∧ L.length = 31 ∧ L[0]? = some (.int .u64 X.id) ∧ L[1]? = some (.int .u64 X.lim) ∧ L[2]? = some (.int .i64 X.st) ∧ (∀ j v, fr[j]? = some v → L[11 + j]? = some v) ∧ L[30]? = some (.bool dd) ∧ L[6]? = some (.int .i64 X.o.gn) ∧ L[7]? = some (.bool X.o.ov) := by
  obtain ⟨L, hr, h1, h2, h3, h4, h5, h6⟩ := h.ex
  obtain ⟨Ab, cb, Aa, ca, Ag, cg, C, A, _, hr, _, _, _⟩ := hr.open_
  exact ⟨L, hr.at_, h1, h2, h3, h4, h5, h6, hr.cl 3 _ rfl, hr.cl 4 _ rfl⟩
theorem Dm.Oq (h : Dm w0 W q O X fr dd) : O q := by
  obtain ⟨L, ⟨vb, va, vg, C, A, rfl, _⟩, _⟩ := h.ex
  exact List.mem_cons_self
theorem Dm.lt (h : Dm w0 W q O X fr dd) : ∀ b, O b → w0.heap.size ≤ b ∧ b < W.heap.size := by
  obtain ⟨L, hr, _⟩ := h.ex
  exact hr.lt
theorem Dm.kept {S : Nat → Prop} (h : Dm w0 W q O X fr dd) (k : Kept S W W') (hs : ∀ b, O b → ¬ S b) (hb : Below w0.heap.size w0 W') : Dm w0 W' q O X fr dd := by
  obtain ⟨L, hr, hx⟩ := h.ex
  exact ⟨h.ok, ⟨L, hr.kept k hs, hx⟩, h.fl, hb, h.le⟩
theorem Dm.below (h : Dm w0 W q O X fr dd) (k : Below W.heap.size W W') : Dm w0 W' q O X fr dd := h.kept (Kept.of_below k (fun _ => False)) (fun _ _ h => h) (h.bl.trans (k.mono h.bl.size))
theorem Dm.drewN (h : Dm w0 W q O X fr dd) (n : Nat) : Dm w0 (W.drewN n) q O X fr dd := h.below (below_drewN (Below.refl _ _) n)
theorem Dm.c0 (h : Dm w0 W q O X fr dd) : W.cell? ⟨q, 0, none⟩ = some (.int .u64 X.id) := by obtain ⟨L, a, _, h0, h1, h2, _, h30, h6, h7⟩ := h.at_; rw [a.cell, h0]
theorem Dm.c1 (h : Dm w0 W q O X fr dd) : W.cell? ⟨q, 1, none⟩ = some (.int .u64 X.lim) := by obtain ⟨L, a, _, h0, h1, h2, _, h30, h6, h7⟩ := h.at_; rw [a.cell, h1]
theorem Dm.c2 (h : Dm w0 W q O X fr dd) : W.cell? ⟨q, 2, none⟩ = some (.int .i64 X.st) := by obtain ⟨L, a, _, h0, h1, h2, _, h30, h6, h7⟩ := h.at_; rw [a.cell, h2]
theorem Dm.c6 (h : Dm w0 W q O X fr dd) : W.cell? ⟨q, 6, none⟩ = some (.int .i64 X.o.gn) := by obtain ⟨L, a, _, h0, h1, h2, _, h30, h6, h7⟩ := h.at_; rw [a.cell, h6]
theorem Dm.c7 (h : Dm w0 W q O X fr dd) : W.cell? ⟨q, 7, none⟩ = some (.bool X.o.ov) := by obtain ⟨L, a, _, h0, h1, h2, _, h30, h6, h7⟩ := h.at_; rw [a.cell, h7]
theorem Dm.c30 (h : Dm w0 W q O X fr dd) : W.cell? ⟨q, 30, none⟩ = some (.bool dd) := by obtain ⟨L, a, _, h0, h1, h2, _, h30, h6, h7⟩ := h.at_; rw [a.cell, h30]
theorem Dm.c3 (h : Dm w0 W q O X fr dd) : ∃ A c, W.cell? ⟨q, 3, none⟩ = some (.slice A X.o.bs.length c) := by
  obtain ⟨L, hr, _⟩ := h.ex
  obtain ⟨Ab, cb, Aa, ca, Ag, cg, C, A, _, hr, _, _, _⟩ := hr.open_
  exact ⟨Ab, cb, hr.c0⟩
theorem Dm.frozen (h : Dm w0 W q O X fr dd) (j : Nat) : W.frozen? ⟨q, j, none⟩ = false := by obtain ⟨L, a, _⟩ := h.at_; exact a.frozen j
theorem Dm.fr_ (h : Dm w0 W q O X fr dd) : W.rangeAt q 11 fr := fun j v hv => by obtain ⟨L, a, _, _, _, _, hf, _⟩ := h.at_; rw [a.cell]; exact hf j v hv
/-- Cells of its block outside the buffer are set. -/
theorem Rs.outs {base o : Nat} {T : TypeId} {L : List Value} {S : OS} (h : Rs W base q o T L O S) {L' : List Value} (hA : At W' q T L') (hl : ∀ j, o ≤ j → j < o + 8 → L'[j]? = L[j]?) (k : Kept (· = q) W W') : Rs W' base q o T L' O S := by
  obtain ⟨vb, va, vg, C, A, rfl, h, hf⟩ := h
  refine ⟨vb, va, vg, C, A, rfl, { h with at_ := hA, cl := fun j u hj => ?_, ob := h.ob.kept k fun j hj => h.ne (i := 1) (j := 0) (by rw [← hj]; rfl) rfl (by omega), oa := ow_kept h.oa k fun j hj => h.ne (i := 2) (j := 0) (by rw [← hj]; rfl) rfl (by omega), og := ow_kept h.og k fun j hj => h.ne (i := 3) (j := 0) (by rw [← hj]; rfl) rfl (by omega) }, hf⟩
  have hj8 : j < 8 := (List.getElem?_eq_some_iff.1 hj).1
  rw [hl (o + j) (by omega) (by omega)]
  exact h.cl j u hj
theorem Kept.belowO {S : Nat → Prop} (k : Kept S W W') (h : Below w0.heap.size w0 W) (hs : ∀ j, S j → w0.heap.size ≤ j) : Below w0.heap.size w0 W' := k.below h h.size hs
/-- .. by another list of cells. -/
theorem Dm.outs (h : Dm w0 W q O X fr dd) {X' : SS} {fr' : List Value} {dd' : Bool} (k : Kept (· = q) W W') (ho : X'.o = X.o) (hfl : fr'.length = 19)
    (hA : ∀ L, At W q 53 L → L.length = 31 → ∃ L', At W' q 53 L' ∧ L'.length = 31 ∧ (∀ j, 3 ≤ j → j < 11 → L'[j]? = L[j]?) ∧ (L[0]? = some (.int .u64 X.id) → L'[0]? = some (.int .u64 X'.id)) ∧ (L[1]? = some (.int .u64 X.lim) → L'[1]? = some (.int .u64 X'.lim)) ∧ (L[2]? = some (.int .i64 X.st) → L'[2]? = some (.int .i64 X'.st)) ∧
      ((∀ j v, fr[j]? = some v → L[11 + j]? = some v) → ∀ j v, fr'[j]? = some v → L'[11 + j]? = some v) ∧ (L[30]? = some (.bool dd) → L'[30]? = some (.bool dd'))) : Dm w0 W' q O X' fr' dd' := by
  obtain ⟨L, hr, hl, h0, h1, h2, hf, h30⟩ := h.ex
  have hat : At W q 53 L := by obtain ⟨_, _, _, _, _, _, hr, _⟩ := hr; exact hr.at_
  obtain ⟨L', a', l', e, e0, e1, e2, ef, e30⟩ := hA L hat hl
  exact ⟨by rw [ho]; exact h.ok, ⟨L', by rw [ho]; exact hr.outs a' (fun j h1 h2 => e j h1 h2) k, l', e0 h0, e1 h1, e2 h2, ef hf, e30 h30⟩, hfl, k.belowO h.bl fun j hj => by rw [hj]; exact (h.lt q h.Oq).1, by rw [ho]; exact h.le⟩
/-- What a call that changes it leaves. -/
def DmPost (w0 W : World) (q : Nat) (O : Nat → Prop) (X' : SS) (fr' : List Value) (dd' : Bool) (r : Value) (e : Ending) (W' : World) : Prop := e = .returned r ∧ ∃ O', Dm w0 W' q O' X' fr' dd' ∧ Kept O W W' ∧ ∀ j, O' j → O j ∨ W.heap.size ≤ j
theorem Dm.top (h : Dm w0 W q O X fr dd) {X' : SS} {fr' : List Value} {dd' : Bool} (h' : Dm w0 W' q O X' fr' dd') (k : Kept (· = q) W W') (r : Value) : DmPost w0 W q O X' fr' dd' r (.returned r) W' :=
  ⟨rfl, O, h', k.mono fun j hj => .inl (by rw [hj]; exact h.Oq), fun j hj => .inl hj⟩
/-- What a call of its buffer leaves. -/
theorem Dm.buf (h : Dm w0 W q O X fr dd) {S' : OS} {r : Value} {e : Ending} {L' : List Value} {O' : Nat → Prop} (he : e = .returned r) (ok' : S'.ok) (le' : S'.bs.length ≤ 800000)
    (hL : ∀ L, Rs W w0.heap.size q 3 53 L O X.o → ∃ L' O', Rs W' w0.heap.size q 3 53 L' O' S' ∧ Samo 3 L L' ∧ Kept O W W' ∧ ∀ j, O' j → O j ∨ W.heap.size ≤ j) : DmPost w0 W q O { X with o := S' } fr dd r e W' := by
  obtain ⟨L, hr, hl, h0, h1, h2, hf, h30⟩ := h.ex
  obtain ⟨L', O', hr', hs, hk, ho⟩ := hL L hr
  refine ⟨he, O', ⟨ok', ⟨L', hr', by rw [hs.len]; exact hl, by rw [hs.out 0 (.inl (by omega))]; exact h0, by rw [hs.out 1 (.inl (by omega))]; exact h1, by rw [hs.out 2 (.inl (by omega))]; exact h2, fun j v hv => by rw [hs.out (11 + j) (.inr (by omega))]; exact hf j v hv, by rw [hs.out 30 (.inr (by omega))]; exact h30⟩, h.fl, hk.belowO h.bl fun j hj => (h.lt j hj).1, le'⟩, hk, ho⟩
end
end Go.Proofs.YtbejpafephofaaaGreat
