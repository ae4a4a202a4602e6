/-
  receiver.Receiver behind a pointer (Ql, Qp); New, State, Limit, Highest, Taken, lacks, sized, settle, Stop.
-/
import Derived.Test.YtahalbmcijbbmaaMq5
import Derived.Test.YtahalbmcijbbmaaIj
import Derived.Test.YtahalbmcijbbmaaMq7
import Derived.Test.YtahalbmcijbbmaaMq6
import Derived.BigQuiet
import Derived.WalkKit
import Derived.Laws.BitsAllLaws
import Derived.Laws.Bits64b
import Derived.Laws.DeepNot64
namespace Go.Proofs.Ytahalbmcijbbmaa
section
set_option linter.unusedVariables false
set_option linter.unusedSimpArgs false
open Go.RowKit
def qpL (X : QS) (pin : Value) : List Value := [.int .u64 X.id, .int .u64 X.win, .int .i64 X.st, .int .u64 X.lim, pin, .int .u64 X.code, .int .u64 X.fin, .bool X.asked, .int .u64 X.stop, .bool X.due, .bool X.again]
/-- A receiver that has its buffer. -/
structure Ql (w : World) (base p pb : Nat) (Ob : Nat → Prop) (X : QS) : Prop where
  at_ : At w p 61 (qpL X (.pointer (some ⟨pb, 0, none⟩)))
  bf : Bf w base pb Ob X.b
  nb : ¬ Ob p
  bp : base ≤ p
/-- One that was reset: it has let its buffer go. -/
structure Qd (w : World) (base p : Nat) (X : QS) : Prop where
  at_ : At w p 61 (qpL X (.pointer none))
  bp : base ≤ p
def pOb (p : Nat) (Ob : Nat → Prop) : Nat → Prop := fun j => j = p ∨ Ob j
/-- A receiver, and the blocks that it has. -/
def Qp (w : World) (base p : Nat) (O : Nat → Prop) (X : QS) : Prop :=
  (X.st < 5 ∧ ∃ pb Ob, O = pOb p Ob ∧ Ql w base p pb Ob X) ∨ (5 ≤ X.st ∧ O = pOb p (fun _ => False) ∧ Qd w base p X)
/-- What a call that changes it leaves. -/
def QPost (r : Value) (base p : Nat) (O : Nat → Prop) (X' : QS) (w : World) (e : Ending) (w' : World) : Prop :=
  e = .returned r ∧ ∃ O', Qp w' base p O' X' ∧ Kept O w w' ∧ ∀ j, O' j → O j ∨ w.heap.size ≤ j
section
variable {w w' : World} {base p pb : Nat} {O Ob Ob' : Nat → Prop} {X X' : QS}
theorem Ql.lt (h : Ql w base p pb Ob X) : ∀ j, pOb p Ob j → base ≤ j ∧ j < w.heap.size := by
  rintro j (rfl | hj)
  · exact ⟨h.bp, h.at_.lt⟩
  · exact h.bf.lt j hj
theorem Ql.kept {T : Nat → Prop} (h : Ql w base p pb Ob X) (k : Kept T w w') (hs : ∀ j, pOb p Ob j → ¬ T j) : Ql w' base p pb Ob X :=
  { h with at_ := h.at_.kept k (hs p (.inl rfl)), bf := h.bf.kept k fun j hj => hs j (.inr hj) }
theorem Ql.below (h : Ql w base p pb Ob X) (k : Below w.heap.size w w') : Ql w' base p pb Ob X := h.kept (Kept.of_below k (fun _ => False)) fun _ _ h => h
theorem Ql.drewN (h : Ql w base p pb Ob X) (n : Nat) : Ql (w.drewN n) base p pb Ob X := h.kept ((Kept.refl (fun _ => False) w).drewN n) fun _ _ h => h
/-- A cell of its own block is set. -/
theorem Ql.set (h : Ql w base p pb Ob X) (j : Nat) (u : Value) (he : (qpL X (.pointer (some ⟨pb, 0, none⟩))).set j u = qpL X' (.pointer (some ⟨pb, 0, none⟩))) (hb : X'.b = X.b) : Ql (w.setCell ⟨p, j, none⟩ u) base p pb Ob X' :=
  ⟨he ▸ h.at_.set j u, by rw [hb]; exact h.bf.kept ((Kept.refl (· = p) w).setAt j u) fun k hk e => h.nb (by rw [← e]; exact hk), h.nb, h.bp⟩
/-- Its buffer is turned. -/
theorem Ql.step {S' : BS} (h : Ql w base p pb Ob X) (hb : Bf w' base pb Ob' S') (k : Kept Ob w w') (ho : ∀ j, Ob' j → Ob j ∨ w.heap.size ≤ j) : Ql w' base p pb Ob' { X with b := S' } :=
  ⟨h.at_.kept k h.nb, hb, fun e => (ho p e).elim h.nb fun e' => by have := h.at_.lt; omega, h.bp⟩
theorem Ql.post (h : Ql w base p pb Ob X) (h' : Ql w' base p pb Ob' X') (hst : X'.st < 5) (k : Kept (pOb p Ob) w w') (ho : ∀ j, Ob' j → Ob j ∨ w.heap.size ≤ j) (r : Value) : QPost r base p (pOb p Ob) X' w (.returned r) w' :=
  ⟨rfl, _, .inl ⟨hst, _, _, rfl, h'⟩, k, fun j hj => hj.elim (fun e => .inl (.inl e)) fun e => (ho j e).imp .inr id⟩
theorem Ql.same (h : Ql w base p pb Ob X) (hst : X.st < 5) (k : Below w.heap.size w w') (r : Value) : QPost r base p (pOb p Ob) X w (.returned r) w' :=
  h.post (h.below k) hst (Kept.of_below k _) (fun j hj => .inl hj) r
theorem Qd.same (h : Qd w base p X) (hst : 5 ≤ X.st) (k : Below w.heap.size w w') (r : Value) : QPost r base p (pOb p fun _ => False) X w (.returned r) w' :=
  ⟨rfl, _, .inr ⟨hst, rfl, h.at_.below k h.at_.lt, h.bp⟩, Kept.of_below k _, fun j hj => .inl hj⟩
theorem Qd.set (h : Qd w base p X) (j : Nat) (u : Value) (he : (qpL X (.pointer none)).set j u = qpL X' (.pointer none)) : Qd (w.setCell ⟨p, j, none⟩ u) base p X' := ⟨he ▸ h.at_.set j u, h.bp⟩
theorem Qd.drewN (h : Qd w base p X) (n : Nat) : Qd (w.drewN n) base p X := ⟨h.at_.drewN n, h.bp⟩
theorem Qd.post (h : Qd w base p X) (h' : Qd w' base p X') (hst : 5 ≤ X'.st) (k : Kept (· = p) w w') (r : Value) : QPost r base p (pOb p fun _ => False) X' w (.returned r) w' :=
  ⟨rfl, _, .inr ⟨hst, rfl, h'⟩, k.mono fun j hj => .inl (.inl hj), fun j hj => .inl hj⟩
theorem Qp.lt (h : Qp w base p O X) : ∀ j, O j → base ≤ j ∧ j < w.heap.size := by
  rcases h with ⟨_, pb, Ob, rfl, h⟩ | ⟨_, rfl, h⟩
  · exact h.lt
  · rintro j (rfl | hj)
    · exact ⟨h.bp, h.at_.lt⟩
    · exact hj.elim
theorem Qp.own (h : Qp w base p O X) : O p := by
  rcases h with ⟨_, pb, Ob, rfl, h⟩ | ⟨_, rfl, h⟩ <;> exact .inl rfl
theorem Qp.kept {T : Nat → Prop} (h : Qp w base p O X) (k : Kept T w w') (hs : ∀ j, O j → ¬ T j) : Qp w' base p O X := by
  rcases h with ⟨hst, pb, Ob, rfl, h⟩ | ⟨hst, rfl, h⟩
  · exact .inl ⟨hst, pb, Ob, rfl, h.kept k hs⟩
  · exact .inr ⟨hst, rfl, h.at_.kept k (hs p (.inl rfl)), h.bp⟩
theorem Qp.below (h : Qp w base p O X) (k : Below w.heap.size w w') : Qp w' base p O X := h.kept (Kept.of_below k (fun _ => False)) fun _ _ h => h
theorem Qp.drewN (h : Qp w base p O X) (n : Nat) : Qp (w.drewN n) base p O X := h.kept ((Kept.refl (fun _ => False) w).drewN n) fun _ _ h => h
theorem Qp.at_ (h : Qp w base p O X) : ∃ pin, At w p 61 (qpL X pin) := by
  rcases h with ⟨_, pb, Ob, rfl, h⟩ | ⟨_, rfl, h⟩
  · exact ⟨_, h.at_⟩
  · exact ⟨_, h.at_⟩
theorem Qp.live (h : Qp w base p O X) (hst : X.st < 5) : ∃ pb Ob, O = pOb p Ob ∧ Ql w base p pb Ob X := by
  rcases h with ⟨_, h⟩ | ⟨h, _⟩
  · exact h
  · omega
theorem Qp.dead (h : Qp w base p O X) (hst : 5 ≤ X.st) : O = pOb p (fun _ => False) ∧ Qd w base p X := by
  rcases h with ⟨h, _⟩ | ⟨_, h⟩
  · omega
  · exact h
theorem Qp.c0 (h : Qp w base p O X) : w.cell? ⟨p, 0, none⟩ = some (.int .u64 X.id) := by obtain ⟨pin, h⟩ := h.at_; rw [h.cell]; rfl
theorem Qp.c1 (h : Qp w base p O X) : w.cell? ⟨p, 1, none⟩ = some (.int .u64 X.win) := by obtain ⟨pin, h⟩ := h.at_; rw [h.cell]; rfl
theorem Qp.c2 (h : Qp w base p O X) : w.cell? ⟨p, 2, none⟩ = some (.int .i64 X.st) := by obtain ⟨pin, h⟩ := h.at_; rw [h.cell]; rfl
theorem Qp.c3 (h : Qp w base p O X) : w.cell? ⟨p, 3, none⟩ = some (.int .u64 X.lim) := by obtain ⟨pin, h⟩ := h.at_; rw [h.cell]; rfl
theorem Qp.c5 (h : Qp w base p O X) : w.cell? ⟨p, 5, none⟩ = some (.int .u64 X.code) := by obtain ⟨pin, h⟩ := h.at_; rw [h.cell]; rfl
theorem Qp.c6 (h : Qp w base p O X) : w.cell? ⟨p, 6, none⟩ = some (.int .u64 X.fin) := by obtain ⟨pin, h⟩ := h.at_; rw [h.cell]; rfl
theorem Qp.c7 (h : Qp w base p O X) : w.cell? ⟨p, 7, none⟩ = some (.bool X.asked) := by obtain ⟨pin, h⟩ := h.at_; rw [h.cell]; rfl
theorem Qp.c9 (h : Qp w base p O X) : w.cell? ⟨p, 9, none⟩ = some (.bool X.due) := by obtain ⟨pin, h⟩ := h.at_; rw [h.cell]; rfl
theorem Qp.fz (h : Qp w base p O X) (j : Nat) : w.frozen? ⟨p, j, none⟩ = false := by obtain ⟨pin, h⟩ := h.at_; exact h.frozen j
theorem Ql.qp (h : Ql w base p pb Ob X) (hst : X.st < 5) : Qp w base p (pOb p Ob) X := .inl ⟨hst, pb, Ob, rfl, h⟩
theorem Qd.qp (h : Qd w base p X) (hst : 5 ≤ X.st) : Qp w base p (pOb p fun _ => False) X := .inr ⟨hst, rfl, h⟩
theorem Ql.c4 (h : Ql w base p pb Ob X) : w.cell? ⟨p, 4, none⟩ = some (.pointer (some ⟨pb, 0, none⟩)) := by rw [h.at_.cell]; rfl
theorem Qd.c4 (h : Qd w base p X) : w.cell? ⟨p, 4, none⟩ = some (.pointer none) := by rw [h.at_.cell]; rfl
/-- Behind something that made blocks of its own alone. -/
theorem QPost.after {r : Value} {e : Ending} {w1 : World} (h : Qp w base p O X) (k : Below w.heap.size w w1) (hP : QPost r base p O X' w1 e w') : QPost r base p O X' w e w' := by
  obtain ⟨he, O', h1, h2, h3⟩ := hP
  have := k.size
  exact ⟨he, O', h1, (Kept.of_below k O).trans h2, fun j hj => (h3 j hj).imp id fun h => by omega⟩
end
/-- What New leaves. -/
def QNew (X : QS) (w : World) (e : Ending) (w' : World) : Prop := ∃ p, e = .returned (.pointer (some ⟨p, 0, none⟩)) ∧ (∃ O, Qp w' w.heap.size p O X) ∧ Below w.heap.size w w'
set_option maxRecDepth 100000 in
set_option maxHeartbeats 2000000 in
theorem q_new (id win : Nat) (hid : id < 18446744073709551616) (hw : win < 18446744073709551616) (w : World) : Calls Try.prog 5 #[.int .u64 id, .int .u64 win] w (QNew (qs0 id win) w) := by
  have HN := Lib.hid (inew_any w)
  obtain ⟨m, hm⟩ : ∃ m, m = min win 2048 := ⟨_, rfl⟩
  have HF : Hid (∀ w1 p1, (∃ O, Bf w1 w.heap.size p1 O bs0) → Below w.heap.size w w1 → QNew (qs0 id win) w (.returned (.pointer (some ⟨w1.heap.size, 0, none⟩))) (w1.alloc (.cells #[.int .u64 id, .int .u64 m, .int .i64 1, .int .u64 m, .pointer (some ⟨p1, 0, none⟩), .int .u64 0, .int .u64 0, .bool false, .int .u64 0, .bool false, .bool false] 61))) := Lib.hid (by
    rintro w1 p1 ⟨O, hb⟩ hB
    refine ⟨_, rfl, ⟨_, .inl ⟨by show 1 < 5; omega, p1, O, rfl, ?_⟩⟩, hB.alloc hB.size _⟩
    refine ⟨?_, hb.kept ((Kept.refl (fun _ => False) w1).alloc _) (fun _ _ h => h), fun e => by have := (hb.lt _ e).2; omega, hB.size⟩
    have := At.new w1 61 (qpL (qs0 id win) (.pointer (some ⟨p1, 0, none⟩)))
    unfold qpL qs0 at this
    simp only [← hm] at this
    unfold qpL qs0
    simp only [← hm]
    exact this)
  have hmz : (if (2048 : Int) < (win : Int) then (2048 : Int) else (win : Int)) = (m : Int) := by rw [hm]; split <;> omega
  clear hm
  go_enter Try.func5, Try.ntmps5
  go_wp2_with (go_at_call 18; (with_reducible refine HN.out.mono ?_); rintro e w1 ⟨p1, rfl, hO, hB⟩; have HO := Lib.hid (HF.out w1 p1 hO hB); clear hO hB)
  go_ret
  exact HO.out
section
variable {w w' : World} {base p pb : Nat} {O Ob Ob' : Nat → Prop} {X X' : QS}
theorem q_state (h : Qp w base p O X) : Calls Try.prog 9 #[.pointer (some ⟨p, 0, none⟩)] w fun e w' => e = .returned (.int .i64 X.st) ∧ w' = w := by
  have h2 := h.c2
  clear h
  go_enter Try.func9, Try.ntmps9
  go_wp2
  go_ret
  exact ⟨rfl, rfl⟩
theorem q_limit (h : Qp w base p O X) : Calls Try.prog 7 #[.pointer (some ⟨p, 0, none⟩)] w fun e w' => e = .returned (.int .u64 X.lim) ∧ w' = w := by
  have h2 := h.c3
  clear h
  go_enter Try.func7, Try.ntmps7
  go_wp2
  go_ret
  exact ⟨rfl, rfl⟩
end
end
section
set_option linter.unusedVariables false
open Go.RowKit
end
end Go.Proofs.Ytahalbmcijbbmaa
