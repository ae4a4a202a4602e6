/-
  receiver.Receiver behind a pointer (Ql, Qp); New, State, Limit, Highest, Taken, lacks, sized, settle, Stop.
-/
import Derived.Test.YtphpdaldplkgmaaGreatMq16
import Derived.Test.YtphpdaldplkgmaaGreatMq15
import Derived.BigQuiet
import Derived.Test.YtphpdaldplkgmaaGreatMq1
import Derived.Deep.RegionHeld3
import Derived.Test.YtphpdaldplkgmaaGreatProg
import Derived.Test.YtphpdaldplkgmaaGreatMq0
import Derived.Deep.RegionHeld
namespace Go.Proofs.YtphpdaldplkgmaaGreat
section
set_option linter.unusedVariables false
set_option linter.unusedSimpArgs false
open Go.RowKit
def qpL (X : QS) (pin : Value) : List Value := [.int .u64 X.id, .int .u64 X.win, .int .i64 X.st, .int .u64 X.lim, pin, .int .u64 X.code, .int .u64 X.fin, .bool X.asked, .int .u64 X.stop, .bool X.due, .bool X.again]
/-- A receiver that has its buffer. -/
structure Ql (w : World) (base p pb : Nat) (Ob : Nat → Prop) (X : QS) : Prop where
  at_ : At w p 46 (qpL X (.pointer (some ⟨pb, 0, none⟩)))
  bf : Bf w base pb Ob X.b
  nb : ¬ Ob p
  bp : base ≤ p
/-- One that was reset: it has let its buffer go. -/
structure Qd (w : World) (base p : Nat) (X : QS) : Prop where
  at_ : At w p 46 (qpL X (.pointer none))
  bp : base ≤ p
def pOb (p : Nat) (Ob : Nat → Prop) : Nat → Prop := fun j => j = p ∨ Ob j
/-- A receiver, and the blocks that it has. -/
def Qp (w : World) (base p : Nat) (O : Nat → Prop) (X : QS) : Prop :=
  (X.st < 5 ∧ ∃ pb Ob, O = pOb p Ob ∧ Ql w base p pb Ob X) ∨ (5 ≤ X.st ∧ O = pOb p (fun _ => False) ∧ Qd w base p X)
/-- What a call that changes it leaves. -/
def QPost (r : Value) (base p : Nat) (O : Nat → Prop) (X' : QS) (w : World) (e : Ending) (w' : World) : Prop :=
  e = .returned r ∧ ∃ O', Qp w' base p O' X' ∧ Kept O w w' ∧ ∀ j, O' j → O j ∨ w.heap.size ≤ j
section
variable {w w' : World} {base p pb : Nat} {O Ob Ob' : Nat → Prop} {X X' : QS}
theorem Ql.lt (h : Ql w base p pb Ob X) : ∀ j, pOb p Ob j → base ≤ j ∧ j < w.heap.size := by
  rintro j (rfl | hj)
  · exact ⟨h.bp, h.at_.lt⟩
  · exact h.bf.lt j hj
theorem Ql.kept {T : Nat → Prop} (h : Ql w base p pb Ob X) (k : Kept T w w') (hs : ∀ j, pOb p Ob j → ¬ T j) : Ql w' base p pb Ob X :=
  { h with at_ := h.at_.kept k (hs p (.inl rfl)), bf := h.bf.kept k fun j hj => hs j (.inr hj) }
theorem Ql.below (h : Ql w base p pb Ob X) (k : Below w.heap.size w w') : Ql w' base p pb Ob X := h.kept (Kept.of_below k (fun _ => False)) fun _ _ h => h
theorem Ql.drewN (h : Ql w base p pb Ob X) (n : Nat) : Ql (w.drewN n) base p pb Ob X := h.kept ((Kept.refl (fun _ => False) w).drewN n) fun _ _ h => h
/-- A cell of its own block is set. -/
theorem Ql.set (h : Ql w base p pb Ob X) (j : Nat) (u : Value) (he : (qpL X (.pointer (some ⟨pb, 0, none⟩))).set j u = qpL X' (.pointer (some ⟨pb, 0, none⟩))) (hb : X'.b = X.b) : Ql (w.setCell ⟨p, j, none⟩ u) base p pb Ob X' :=
  ⟨he ▸ h.at_.set j u, by rw [hb]; exact h.bf.kept ((Kept.refl (· = p) w).setAt j u) fun k hk e => h.nb (by rw [← e]; exact hk), h.nb, h.bp⟩
/-- Its buffer is turned. -/
theorem Ql.step {S' : BS} (h : Ql w base p pb Ob X) (hb : Bf w' base pb Ob' S') (k : Kept Ob w w') (ho : ∀ j, Ob' j → Ob j ∨ w.heap.size ≤ j) : Ql w' base p pb Ob' { X with b := S' } :=
  ⟨h.at_.kept k h.nb, hb, fun e => (ho p e).elim h.nb fun e' => by have := h.at_.lt; omega, h.bp⟩
theorem Ql.post (h : Ql w base p pb Ob X) (h' : Ql w' base p pb Ob' X') (hst : X'.st < 5) (k : Kept (pOb p Ob) w w') (ho : ∀ j, Ob' j → Ob j ∨ w.heap.size ≤ j) (r : Value) : QPost r base p (pOb p Ob) X' w (.returned r) w' :=
  ⟨rfl, _, .inl ⟨hst, _, _, rfl, h'⟩, k, fun j hj => hj.elim (fun e => .inl (.inl e)) fun e => (ho j e).imp .inr id⟩
theorem Ql.same (h : Ql w base p pb Ob X) (hst : X.st < 5) (k : Below w.heap.size w w') (r : Value) : QPost r base p (pOb p Ob) X w (.returned r) w' :=
  h.post (h.below k) hst (Kept.of_below k _) (fun j hj => .inl hj) r
theorem Qd.same (h : Qd w base p X) (hst : 5 ≤ X.st) (k : Below w.heap.size w w') (r : Value) : QPost r base p (pOb p fun _ => False) X w (.returned r) w' :=
  ⟨rfl, _, .inr ⟨hst, rfl, h.at_.below k h.at_.lt, h.bp⟩, Kept.of_below k _, fun j hj => .inl hj⟩
theorem Qd.set (h : Qd w base p X) (j : Nat) (u : Value) (he : (qpL X (.pointer none)).set j u = qpL X' (.pointer none)) : Qd (w.setCell ⟨p, j, none⟩ u) base p X' := ⟨he ▸ h.at_.set j u, h.bp⟩
theorem Qd.drewN (h : Qd w base p X) (n : Nat) : Qd (w.drewN n) base p X := ⟨h.at_.drewN n, h.bp⟩
theorem Qd.post (h : Qd w base p X) (h' : Qd w' base p X') (hst : 5 ≤ X'.st) (k : Kept (· = p) w w') (r : Value) : QPost r base p (pOb p fun _ => False) X' w (.returned r) w' :=
  ⟨rfl, _, .inr ⟨hst, rfl, h'⟩, k.mono fun j hj => .inl (.inl hj), fun j hj => .inl hj⟩
theorem Qp.lt (h : Qp w base p O X) : ∀ j, O j → base ≤ j ∧ j < w.heap.size := by
  rcases h with ⟨_, pb, Ob, rfl, h⟩ | ⟨_, rfl, h⟩
  · exact h.lt
  · rintro j (rfl | hj)
    · exact ⟨h.bp, h.at_.lt⟩
    · exact hj.elim
theorem Qp.own (h : Qp w base p O X) : O p := by
  rcases h with ⟨_, pb, Ob, rfl, h⟩ | ⟨_, rfl, h⟩ <;> exact .inl rfl
theorem Qp.kept {T : Nat → Prop} (h : Qp w base p O X) (k : Kept T w w') (hs : ∀ j, O j → ¬ T j) : Qp w' base p O X := by
  rcases h with ⟨hst, pb, Ob, rfl, h⟩ | ⟨hst, rfl, h⟩
  · exact .inl ⟨hst, pb, Ob, rfl, h.kept k hs⟩
  · exact .inr ⟨hst, rfl, h.at_.kept k (hs p (.inl rfl)), h.bp⟩
theorem Qp.below (h : Qp w base p O X) (k : Below w.heap.size w w') : Qp w' base p O X := h.kept (Kept.of_below k (fun _ => False)) fun _ _ h => h
theorem Qp.drewN (h : Qp w base p O X) (n : Nat) : Qp (w.drewN n) base p O X := h.kept ((Kept.refl (fun _ => False) w).drewN n) fun _ _ h => h
theorem Qp.at_ (h : Qp w base p O X) : ∃ pin, At w p 46 (qpL X pin) := by
  rcases h with ⟨_, pb, Ob, rfl, h⟩ | ⟨_, rfl, h⟩
  · exact ⟨_, h.at_⟩
  · exact ⟨_, h.at_⟩
theorem Qp.live (h : Qp w base p O X) (hst : X.st < 5) : ∃ pb Ob, O = pOb p Ob ∧ Ql w base p pb Ob X := by
  rcases h with ⟨_, h⟩ | ⟨h, _⟩
  · exact h
  · omega
theorem Qp.dead (h : Qp w base p O X) (hst : 5 ≤ X.st) : O = pOb p (fun _ => False) ∧ Qd w base p X := by
  rcases h with ⟨h, _⟩ | ⟨_, h⟩
  · omega
  · exact h
theorem Qp.c0 (h : Qp w base p O X) : w.cell? ⟨p, 0, none⟩ = some (.int .u64 X.id) := by obtain ⟨pin, h⟩ := h.at_; rw [h.cell]; rfl
theorem Qp.c1 (h : Qp w base p O X) : w.cell? ⟨p, 1, none⟩ = some (.int .u64 X.win) := by obtain ⟨pin, h⟩ := h.at_; rw [h.cell]; rfl
theorem Qp.c2 (h : Qp w base p O X) : w.cell? ⟨p, 2, none⟩ = some (.int .i64 X.st) := by obtain ⟨pin, h⟩ := h.at_; rw [h.cell]; rfl
theorem Qp.c3 (h : Qp w base p O X) : w.cell? ⟨p, 3, none⟩ = some (.int .u64 X.lim) := by obtain ⟨pin, h⟩ := h.at_; rw [h.cell]; rfl
theorem Qp.c5 (h : Qp w base p O X) : w.cell? ⟨p, 5, none⟩ = some (.int .u64 X.code) := by obtain ⟨pin, h⟩ := h.at_; rw [h.cell]; rfl
theorem Qp.c6 (h : Qp w base p O X) : w.cell? ⟨p, 6, none⟩ = some (.int .u64 X.fin) := by obtain ⟨pin, h⟩ := h.at_; rw [h.cell]; rfl
theorem Qp.c7 (h : Qp w base p O X) : w.cell? ⟨p, 7, none⟩ = some (.bool X.asked) := by obtain ⟨pin, h⟩ := h.at_; rw [h.cell]; rfl
theorem Qp.c8 (h : Qp w base p O X) : w.cell? ⟨p, 8, none⟩ = some (.int .u64 X.stop) := by obtain ⟨pin, h⟩ := h.at_; rw [h.cell]; rfl
theorem Qp.c9 (h : Qp w base p O X) : w.cell? ⟨p, 9, none⟩ = some (.bool X.due) := by obtain ⟨pin, h⟩ := h.at_; rw [h.cell]; rfl
theorem Qp.c10 (h : Qp w base p O X) : w.cell? ⟨p, 10, none⟩ = some (.bool X.again) := by obtain ⟨pin, h⟩ := h.at_; rw [h.cell]; rfl
theorem Qp.fz (h : Qp w base p O X) (j : Nat) : w.frozen? ⟨p, j, none⟩ = false := by obtain ⟨pin, h⟩ := h.at_; exact h.frozen j
theorem Ql.qp (h : Ql w base p pb Ob X) (hst : X.st < 5) : Qp w base p (pOb p Ob) X := .inl ⟨hst, pb, Ob, rfl, h⟩
theorem Qd.qp (h : Qd w base p X) (hst : 5 ≤ X.st) : Qp w base p (pOb p fun _ => False) X := .inr ⟨hst, rfl, h⟩
theorem Ql.c4 (h : Ql w base p pb Ob X) : w.cell? ⟨p, 4, none⟩ = some (.pointer (some ⟨pb, 0, none⟩)) := by rw [h.at_.cell]; rfl
theorem Qd.c4 (h : Qd w base p X) : w.cell? ⟨p, 4, none⟩ = some (.pointer none) := by rw [h.at_.cell]; rfl
/-- Behind something that made blocks of its own alone. -/
theorem QPost.after {r : Value} {e : Ending} {w1 : World} (h : Qp w base p O X) (k : Below w.heap.size w w1) (hP : QPost r base p O X' w1 e w') : QPost r base p O X' w e w' := by
  obtain ⟨he, O', h1, h2, h3⟩ := hP
  have := k.size
  exact ⟨he, O', h1, (Kept.of_below k O).trans h2, fun j hj => (h3 j hj).imp id fun h => by omega⟩
end
/-- What New leaves. -/
def QNew (X : QS) (w : World) (e : Ending) (w' : World) : Prop := ∃ p, e = .returned (.pointer (some ⟨p, 0, none⟩)) ∧ (∃ O, Qp w' w.heap.size p O X) ∧ Below w.heap.size w w'
set_option maxRecDepth 100000 in
set_option maxHeartbeats 2000000 in
theorem q_new (id win : Nat) (hid : id < 18446744073709551616) (hw : win < 18446744073709551616) (w : World) : Calls Tryz.prog 5 #[.int .u64 id, .int .u64 win] w (QNew (qs0 id win) w) := by
  have HN := Lib.hid (inew_any w)
  obtain ⟨m, hm⟩ : ∃ m, m = min win 2048 := ⟨_, rfl⟩
  have HF : Hid (∀ w1 p1, (∃ O, Bf w1 w.heap.size p1 O bs0) → Below w.heap.size w w1 → QNew (qs0 id win) w (.returned (.pointer (some ⟨w1.heap.size, 0, none⟩))) (w1.alloc (.cells #[.int .u64 id, .int .u64 m, .int .i64 1, .int .u64 m, .pointer (some ⟨p1, 0, none⟩), .int .u64 0, .int .u64 0, .bool false, .int .u64 0, .bool false, .bool false] 46))) := Lib.hid (by
    rintro w1 p1 ⟨O, hb⟩ hB
    refine ⟨_, rfl, ⟨_, .inl ⟨by show 1 < 5; omega, p1, O, rfl, ?_⟩⟩, hB.alloc hB.size _⟩
    refine ⟨?_, hb.kept ((Kept.refl (fun _ => False) w1).alloc _) (fun _ _ h => h), fun e => by have := (hb.lt _ e).2; omega, hB.size⟩
    have := At.new w1 46 (qpL (qs0 id win) (.pointer (some ⟨p1, 0, none⟩)))
    unfold qpL qs0 at this
    simp only [← hm] at this
    unfold qpL qs0
    simp only [← hm]
    exact this)
  have hmz : (if (2048 : Int) < (win : Int) then (2048 : Int) else (win : Int)) = (m : Int) := by rw [hm]; split <;> omega
  clear hm
  go_enter Tryz.func5, Tryz.ntmps5
  go_wp2_with (go_at_call 11; (with_reducible refine HN.out.mono ?_); rintro e w1 ⟨p1, rfl, hO, hB⟩; have HO := Lib.hid (HF.out w1 p1 hO hB); clear hO hB)
  go_ret
  exact HO.out
section
variable {w w' : World} {base p pb : Nat} {O Ob Ob' : Nat → Prop} {X X' : QS}
theorem q_state (h : Qp w base p O X) : Calls Tryz.prog 27 #[.pointer (some ⟨p, 0, none⟩)] w fun e w' => e = .returned (.int .i64 X.st) ∧ w' = w := by
  have h2 := h.c2
  clear h
  go_enter Tryz.func27, Tryz.ntmps27
  go_wp2
  go_ret
  exact ⟨rfl, rfl⟩
theorem q_limit (h : Qp w base p O X) : Calls Tryz.prog 8 #[.pointer (some ⟨p, 0, none⟩)] w fun e w' => e = .returned (.int .u64 X.lim) ∧ w' = w := by
  have h2 := h.c3
  clear h
  go_enter Tryz.func8, Tryz.ntmps8
  go_wp2
  go_ret
  exact ⟨rfl, rfl⟩
theorem q_lacks (h : Qp w base p O X) (hk : X.st = 1 ∨ X.st = 2 ∨ X.st = 3 ∨ X.st = 4 ∨ X.st = 5 ∨ X.st = 6) : Calls Tryz.prog 32 #[.pointer (some ⟨p, 0, none⟩)] w fun e w' => e = .returned (.bool (decide (X.st ≤ 2))) ∧ w' = w := by
  have h2 := h.c2
  clear h
  rcases hk with hk | hk | hk | hk | hk | hk
  all_goals
    rw [hk] at h2 ⊢
    clear hk
    go_enter Tryz.func32, Tryz.ntmps32
    go_wp2
    go_ret
    exact ⟨rfl, rfl⟩
end
end
section
set_option linter.unusedVariables false
set_option linter.unusedSimpArgs false
open Go.RowKit
section
variable {w w' : World} {base p pb : Nat} {O Ob Ob' : Nat → Prop} {X X' : QS}
set_option maxHeartbeats 2000000 in
theorem q_high (h : Qp w base p O X) (ho : X.ok) : Calls Tryz.prog 39 #[.pointer (some ⟨p, 0, none⟩)] w fun e w' => e = .returned (.int .u64 (highQ X)) ∧ w' = w := by
  have h2 := h.c2
  have h6 := h.c6
  have hk := ho.st
  unfold highQ
  by_cases h5 : 5 ≤ X.st
  · rw [if_pos h5]
    have hk' : X.st = 5 ∨ X.st = 6 := by omega
    clear h ho hk h5
    rcases hk' with hk | hk
    all_goals
      rw [hk] at h2
      clear hk
      go_enter Tryz.func39, Tryz.ntmps39
      go_wp2
      go_ret
      exact ⟨rfl, rfl⟩
  · rw [if_neg h5]
    obtain ⟨pb, Ob, rfl, hl⟩ := h.live (by omega)
    have h4 := hl.c4
    have HH := Lib.hid (ihigh_any hl.bf)
    have hk' : X.st = 1 ∨ X.st = 2 ∨ X.st = 3 ∨ X.st = 4 := by omega
    clear h ho hk h5 hl
    rcases hk' with hk | hk | hk | hk
    all_goals
      rw [hk] at h2
      clear hk
      go_enter Tryz.func39, Tryz.ntmps39
      go_wp2_with (go_at_call 58; (with_reducible refine HH.out.mono ?_); rintro e w1 ⟨rfl, hw⟩; rw [hw]; clear hw)
      go_ret
      exact ⟨rfl, rfl⟩
set_option maxHeartbeats 2000000 in
theorem q_taken (h : Qp w base p O X) (ho : X.ok) : Calls Tryz.prog 41 #[.pointer (some ⟨p, 0, none⟩)] w fun e w' => e = .returned (.int .u64 (takenQ X)) ∧ w' = w := by
  have h2 := h.c2
  have h6 := h.c6
  have hk := ho.st
  unfold takenQ
  by_cases h5 : 5 ≤ X.st
  · rw [if_pos h5]
    have hk' : X.st = 5 ∨ X.st = 6 := by omega
    clear h ho hk h5
    rcases hk' with hk | hk
    all_goals
      rw [hk] at h2
      clear hk
      go_enter Tryz.func41, Tryz.ntmps41
      go_wp2
      go_ret
      exact ⟨rfl, rfl⟩
  · rw [if_neg h5]
    obtain ⟨pb, Ob, rfl, hl⟩ := h.live (by omega)
    have h4 := hl.c4
    have HH := Lib.hid (iread_any hl.bf)
    have hk' : X.st = 1 ∨ X.st = 2 ∨ X.st = 3 ∨ X.st = 4 := by omega
    clear h ho hk h5 hl
    rcases hk' with hk | hk | hk | hk
    all_goals
      rw [hk] at h2
      clear hk
      go_enter Tryz.func41, Tryz.ntmps41
      go_wp2_with (go_at_call 59; (with_reducible refine HH.out.mono ?_); rintro e w1 ⟨rfl, hw⟩; rw [hw]; clear hw)
      go_ret
      exact ⟨rfl, rfl⟩
/-- Where it ends, and is that known. -/
def sizedN (X : QS) : Nat := if 5 ≤ X.st then X.fin else X.b.fi
def sizedB (X : QS) : Bool := if 5 ≤ X.st then true else X.b.en
set_option maxHeartbeats 2000000 in
theorem q_sized (h : Qp w base p O X) (ho : X.ok) : Calls Tryz.prog 62 #[.pointer (some ⟨p, 0, none⟩)] w fun e w' => e = .returned (.tuple #[.int .u64 (sizedN X), .bool (sizedB X)]) ∧ ∃ d, w' = w.drewN d := by
  have h2 := h.c2
  have h6 := h.c6
  have hk := ho.st
  unfold sizedN sizedB
  by_cases h5 : 5 ≤ X.st
  · rw [if_pos h5, if_pos h5]
    have hk' : X.st = 5 ∨ X.st = 6 := by omega
    clear h ho hk h5
    rcases hk' with hk | hk
    all_goals
      rw [hk] at h2
      clear hk
      go_enter Tryz.func62, Tryz.ntmps62
      go_wp2
      go_ret2
      exact ⟨rfl, 0, rfl⟩
  · rw [if_neg h5, if_neg h5]
    obtain ⟨pb, Ob, rfl, hl⟩ := h.live (by omega)
    have h4 := hl.c4
    have HH := Lib.hid (ifin_any hl.bf)
    have hk' : X.st = 1 ∨ X.st = 2 ∨ X.st = 3 ∨ X.st = 4 := by omega
    clear h ho hk h5 hl
    rcases hk' with hk | hk | hk | hk
    all_goals
      rw [hk] at h2
      clear hk
      go_enter Tryz.func62, Tryz.ntmps62
      go_wp2_with (go_at_call 83; (with_reducible refine HH.out.mono ?_); rintro e w1 ⟨rfl, hw⟩; have HW := Lib.hid hw; clear hw)
      go_ret2
      exact ⟨rfl, HW.out⟩
/-- What settle needs of the worlds it meets. -/
structure Stl (w : World) (base p pb : Nat) (Ob : Nat → Prop) (X : QS) (W : World) : Prop where
  c2 : W.cell? ⟨p, 2, none⟩ = some (.int .i64 X.st)
  c4 : W.cell? ⟨p, 4, none⟩ = some (.pointer (some ⟨pb, 0, none⟩))
  c9 : W.cell? ⟨p, 9, none⟩ = some (.bool X.due)
  f2 : W.frozen? ⟨p, 2, none⟩ = false
  f9 : W.frozen? ⟨p, 9, none⟩ = false
theorem Ql.stl (h : Ql w base p pb Ob X) (W : World) (k : Below w.heap.size w W) : Stl w base p pb Ob X W := by
  have h1 := h.below k
  exact ⟨by rw [h1.at_.cell]; rfl, h1.c4, by rw [h1.at_.cell]; rfl, h1.at_.frozen 2, h1.at_.frozen 9⟩
theorem q_lacksN (W : World) (s : Nat) (h2 : W.cell? ⟨p, 2, none⟩ = some (.int .i64 s)) (hk : s = 1 ∨ s = 2 ∨ s = 3 ∨ s = 4 ∨ s = 5 ∨ s = 6) : Calls Tryz.prog 32 #[.pointer (some ⟨p, 0, none⟩)] W fun e w' => e = .returned (.bool (decide (s ≤ 2))) ∧ w' = W := by
  rcases hk with hk | hk | hk | hk | hk | hk
  all_goals
    rw [hk] at h2 ⊢
    clear hk
    go_enter Tryz.func32, Tryz.ntmps32
    go_wp2
    go_ret
    exact ⟨rfl, rfl⟩
def SlPost (w : World) (base p pb : Nat) (Ob : Nat → Prop) (X' : QS) (W : World) : Prop := Ql W base p pb Ob X' ∧ Kept (· = p) w W
set_option maxHeartbeats 8000000 in
set_option maxRecDepth 100000 in
/-- settle, of a receiver that has its buffer. -/
theorem q_settle (h : Ql w base p pb Ob X) (hb : X.b.ok) (hst : X.st = 1 ∨ X.st = 2 ∨ X.st = 3 ∨ X.st = 4) : Calls Tryz.prog 61 #[.pointer (some ⟨p, 0, none⟩)] w fun e w' => e = .returned (.tuple #[]) ∧ SlPost w base p pb Ob (settleQ X) w' := by
  have HS : Hid (∀ W, Below w.heap.size w W → Stl w base p pb Ob X W) := Lib.hid h.stl
  have HLK : Hid (∀ W, Below w.heap.size w W → Calls Tryz.prog 32 #[.pointer (some ⟨p, 0, none⟩)] W fun e w' => e = .returned (.bool (decide (X.st ≤ 2))) ∧ w' = W) := Lib.hid (fun W k => q_lacksN W X.st (h.stl W k).c2 (by omega))
  have HSAME : Hid (settleQ X = X → ∀ W, Below w.heap.size w W → SlPost w base p pb Ob (settleQ X) W) := Lib.hid (fun e W k => by rw [e]; exact ⟨h.below k, Kept.of_below k _⟩)
  obtain ⟨cc2, cc4, cc9, ff2, ff9⟩ := h.stl w (Below.refl _ _)
  by_cases h3 : X.st ≤ 2
  · have HW := Lib.hid (iwhole_any base pb Ob X.b w h.bf hb (rdyS X.b) (rdyS_is hb))
    have HF : Hid (∀ W, Below w.heap.size w W → Calls Tryz.prog 83 #[.pointer (some ⟨pb, 0, none⟩)] W fun e w' => e = .returned (.tuple #[.int .u64 X.b.fi, .bool X.b.en]) ∧ ∃ d, w' = W.drewN d) := Lib.hid (fun W k => ifin_any (h.below k).bf)
    have hwb : (X.b.en && decide (X.b.rd + rdyS X.b = X.b.fi)) = wholeB X.b := rfl
    rw [hwb] at HW
    cases hw : wholeB X.b with
    | true =>
      have HL3 : Hid (∀ W, Below w.heap.size w W → Calls Tryz.prog 32 #[.pointer (some ⟨p, 0, none⟩)] (W.setCell ⟨p, 2, none⟩ (.int .i64 3)) fun e w' => e = .returned (.bool false) ∧ w' = W.setCell ⟨p, 2, none⟩ (.int .i64 3)) := Lib.hid (fun W k => q_lacksN _ 3 (by rw [((h.below k).at_.set 2 (.int .i64 3)).cell]; rfl) (by omega))
      have HE : Hid (∀ W, Below w.heap.size w W → SlPost w base p pb Ob (settleQ X) ((W.setCell ⟨p, 2, none⟩ (.int .i64 3)).setCell ⟨p, 9, none⟩ (.bool false))) := Lib.hid (fun W k => by
        have e : settleQ X = { X with st := 3, due := false } := by unfold settleQ; rw [if_pos h3, if_pos hw]
        rw [e]
        exact ⟨((h.below k).set (X' := { X with st := 3 }) 2 (.int .i64 3) rfl rfl).set (X' := { X with st := 3, due := false }) 9 (.bool false) rfl rfl, ((Kept.of_below k (· = p)).setCell (p := ⟨p, 2, none⟩) (.inl rfl) _).setCell (p := ⟨p, 9, none⟩) (.inl rfl) _⟩)
      rw [hw] at HW
      have hdl : decide (X.st ≤ 2) = true := by simpa using h3
      rw [hdl] at HLK
      clear h hb hst h3 HSAME HF hwb hw hdl
      generalize settleQ X = X2 at *
      cases hd : X.due
      all_goals
        rw [hd] at cc9
        go_enter Tryz.func61, Tryz.ntmps61
        go_wp2_with (first
          | (go_at_call 32; (with_reducible refine (HLK.out _ (Below.refl _ _)).mono ?_); rintro e w1 ⟨rfl, hw⟩; rw [hw]; clear hw)
          | (go_at_call 82; (with_reducible refine HW.out.mono ?_); rintro e w1 ⟨rfl, hB1⟩; have HB1 := Lib.hid hB1; obtain ⟨dd2, dd4, dd9, gg2, gg9⟩ := HS.out w1 hB1; rw [hd] at dd9; clear hB1)
          | (go_at_call 32; (with_reducible refine (HL3.out _ HB1.out).mono ?_); rintro e w2 ⟨rfl, hw⟩; rw [hw]; clear hw))
        go_end0
        exact ⟨rfl, HE.out _ HB1.out⟩
    | false =>
      have HE : Hid (∀ W, Below w.heap.size w W → X.b.en = true → SlPost w base p pb Ob (settleQ X) ((W.setCell ⟨p, 2, none⟩ (.int .i64 2)).setCell ⟨p, 9, none⟩ (.bool X.due))) := Lib.hid (fun W k he => by
        have e : settleQ X = { X with st := 2 } := by unfold settleQ; rw [if_pos h3, hw, he]; rfl
        rw [e]
        exact ⟨((h.below k).set (X' := { X with st := 2 }) 2 (.int .i64 2) rfl rfl).set (X' := { X with st := 2 }) 9 (.bool X.due) rfl rfl, ((Kept.of_below k (· = p)).setCell (p := ⟨p, 2, none⟩) (.inl rfl) _).setCell (p := ⟨p, 9, none⟩) (.inl rfl) _⟩)
      have HE0 : Hid (∀ W, Below w.heap.size w W → X.b.en = false → SlPost w base p pb Ob (settleQ X) (W.setCell ⟨p, 9, none⟩ (.bool X.due))) := Lib.hid (fun W k he => by
        have e : settleQ X = X := by unfold settleQ; rw [if_pos h3, hw, he]; rfl
        rw [e]
        exact ⟨(h.below k).set (X' := X) 9 (.bool X.due) rfl rfl, (Kept.of_below k (· = p)).setCell (p := ⟨p, 9, none⟩) (.inl rfl) _⟩)
      have HL2 : Hid (∀ W, Below w.heap.size w W → Calls Tryz.prog 32 #[.pointer (some ⟨p, 0, none⟩)] (W.setCell ⟨p, 2, none⟩ (.int .i64 2)) fun e w' => e = .returned (.bool true) ∧ w' = W.setCell ⟨p, 2, none⟩ (.int .i64 2)) := Lib.hid (fun W k => q_lacksN _ 2 (by rw [((h.below k).at_.set 2 (.int .i64 2)).cell]; rfl) (by omega))
      rw [hw] at HW
      have hdl : decide (X.st ≤ 2) = true := by simpa using h3
      rw [hdl] at HLK
      clear h hb hst h3 HSAME hwb hw hdl
      generalize settleQ X = X2 at *
      cases hd : X.due <;> cases hen : X.b.en
      all_goals
        rw [hd] at cc9 HE HE0
        rw [hen] at HF HE HE0
        go_enter Tryz.func61, Tryz.ntmps61
        go_wp2_with (first
          | (go_at_call 82; (with_reducible refine HW.out.mono ?_); rintro e w1 ⟨rfl, hB1⟩; have HB1 := Lib.hid hB1; have ee4 := (HS.out w1 hB1).c4; clear hB1)
          | (go_at_call 32; (with_reducible refine (HLK.out w (Below.refl _ _)).mono ?_); rintro e w1 ⟨rfl, hw⟩; rw [hw]; clear hw)
          | (go_at_call 83; (with_reducible refine (HF.out _ HB1.out).mono ?_); rintro e w2 ⟨rfl, d2, hw2⟩; have HB2 : Hid (Below w.heap.size w w2) := Lib.hid (by rw [hw2]; exact belowN HB1.out d2); clear hw2; obtain ⟨dd2, dd4, dd9, gg2, gg9⟩ := HS.out w2 HB2.out; rw [hd] at dd9)
          | (go_at_call 32; (with_reducible refine (HL2.out _ HB2.out).mono ?_); rintro e w3 ⟨rfl, hw⟩; rw [hw]; clear hw)
          | (go_at_call 32; (with_reducible refine (HLK.out _ HB2.out).mono ?_); rintro e w3 ⟨rfl, hw⟩; rw [hw]; clear hw))
        go_end0
        first
          | exact ⟨rfl, HE.out _ HB2.out (by first | rfl | trivial)⟩
          | exact ⟨rfl, HE0.out _ HB2.out (by first | rfl | trivial)⟩
  · have hdl : decide (X.st ≤ 2) = false := by simpa using h3
    have HZ := Lib.hid (HSAME.out (by unfold settleQ; rw [if_neg h3]) w (Below.refl _ _))
    rw [hdl] at HLK
    clear h hb hst h3 HSAME hdl
    generalize settleQ X = X2 at *
    go_enter Tryz.func61, Tryz.ntmps61
    go_wp2_with (go_at_call 32; (with_reducible refine (HLK.out _ (Below.refl _ _)).mono ?_); rintro e w1 ⟨rfl, hw⟩; rw [hw]; clear hw)
    (first | go_end0 | refine bodyPost_ret (results_none rfl _ _ _) rfl ?_)
    exact ⟨rfl, HZ.out⟩
end
end
section
set_option linter.unusedVariables false
set_option linter.unusedSimpArgs false
open Go.RowKit
theorem results_tmp4q {fn : Func} {t u v x : Tmp} (h : fn.results = #[.tmp t, .tmp u, .tmp v, .tmp x]) (tmps : Array Value) (P : Program) (w : World) :
    (results fn tmps).run P w = .ok (.tuple #[tmps.getD t undef, tmps.getD u undef, tmps.getD v undef, tmps.getD x undef]) w := by
  simp [results, h]
/-- What Read leaves. -/
def RQPost (base p : Nat) (O : Nat → Prop) (X : QS) (most : Int) (w : World) (e : Ending) (w' : World) : Prop :=
  ∃ v, e = .returned (.tuple #[v, .bool (readQ X most).fl, .int .u64 (readQ X most).cd, .int .i64 (readQ X most).er]) ∧ Own w' w.heap.size 5 v (readQ X most).bs ∧ ∃ O', Qp w' base p O' (readX X most) ∧ Kept O w w' ∧ ∀ j, O' j → O j ∨ w.heap.size ≤ j
section
variable {w w' : World} {base p pb : Nat} {O Ob Ob' : Nat → Prop} {X X' : QS}
set_option maxHeartbeats 8000000 in
set_option maxRecDepth 100000 in
theorem q_read (h : Qp w base p O X) (ho : X.ok) (hb : base ≤ w.heap.size) (most : Int) (hm : -9223372036854775808 ≤ most ∧ most < 9223372036854775808) :
    Calls Tryz.prog 14 #[.pointer (some ⟨p, 0, none⟩), .int .i64 most] w (RQPost base p O X most w) := by
  have c2 := h.c2
  have c5 := h.c5
  have f2 := h.fz 2
  by_cases h5 : X.st = 5
  · have e1 : readQ X most = ⟨false, X.code, 29, []⟩ := by unfold readQ; rw [if_pos h5]
    have e2 : readX X most = { X with st := 6 } := by unfold readX; rw [if_pos h5]
    have HE : Hid (∀ d, RQPost base p O X most w (.returned (.tuple #[.slice none 0 0, .bool false, .int .u64 X.code, .int .i64 29])) ((w.setCell ⟨p, 2, none⟩ (.int .i64 6)).drewN d)) := Lib.hid (fun d => by
      obtain ⟨rfl, hd⟩ := h.dead (by omega)
      unfold RQPost
      rw [e1, e2]
      refine ⟨_, rfl, Own.none_ _ _ _, _, .inr ⟨by show 5 ≤ 6; omega, rfl, (hd.set (X' := { X with st := 6 }) 2 (.int .i64 6) rfl).drewN d⟩, ?_, fun j hj => .inl hj⟩
      exact (((Kept.refl (pOb p fun _ => False) w).setCell (p := ⟨p, 2, none⟩) (.inl (.inl rfl)) _).drewN d))
    have d5 : (w.setCell ⟨p, 2, none⟩ (.int .i64 6)).cell? ⟨p, 5, none⟩ = some (.int .u64 X.code) := by
      obtain ⟨pin, ha⟩ := h.at_
      rw [(ha.set 2 (.int .i64 6)).cell]; rfl
    rw [h5] at c2
    clear h ho hb e1 e2 h5
    go_enter Tryz.func14, Tryz.ntmps14
    go_wp2
    go_quiet (fail)
    go_wp2
    refine bodyPost_ret (results_tmp4q rfl _ _ _) rfl ?_
    exact HE.out _
  · by_cases h46 : X.st = 4 ∨ X.st = 6
    · have e1 : readQ X most = ⟨false, 0, 24, []⟩ := by unfold readQ; rw [if_neg h5, if_pos h46]
      have e2 : readX X most = X := by unfold readX; rw [if_neg h5, if_pos h46]
      have HE : Hid (∀ d, RQPost base p O X most w (.returned (.tuple #[.slice none 0 0, .bool false, .int .u64 0, .int .i64 24])) (w.drewN d)) := Lib.hid (fun d => by
        unfold RQPost
        rw [e1, e2]
        exact ⟨_, rfl, Own.none_ _ _ _, _, h.drewN d, (Kept.refl _ _).drewN d, fun j hj => .inl hj⟩)
      clear h ho hb e1 e2 h5
      rcases h46 with h4 | h4
      all_goals
        rw [h4] at c2
        clear h4
        go_enter Tryz.func14, Tryz.ntmps14
        go_wp2
        refine bodyPost_ret (results_tmp4q rfl _ _ _) rfl ?_
        exact HE.out 0
    · obtain ⟨pb, Ob, rfl, hl⟩ := h.live (by have := ho.st; omega)
      have c4 := hl.c4
      have hr := rdyS_is ho.b
      have HT := Lib.hid (itake_any base pb Ob X.b most w hl.bf ho.b hb hm (rdyS X.b) hr)
      obtain ⟨n, hn⟩ : ∃ n, n = min most.toNat (rdyS X.b) := ⟨_, rfl⟩
      have hk : X.st = 1 ∨ X.st = 2 ∨ X.st = 3 := by have := ho.st; omega
      rw [← hn] at HT
      have hol : ∀ n, (outB X.b.g X.b.rd n).length = n := outB_len _ _
      have e2 : readX X most = { X with b := takeS X.b n, st := if (X.b.en && decide (X.b.rd + n = X.b.fi)) = true then 4 else X.st } := by unfold readX; rw [if_neg h5, if_neg h46, ← hn]
      have HE1 : Hid (∀ (v : Value) (W : World) (Ob' : Nat → Prop) (d : Nat), Own W w.heap.size 5 v (outB X.b.g X.b.rd n) → Bf W base pb Ob' (takeS X.b n) → Kept Ob w W → (∀ j, Ob' j → Ob j ∨ w.heap.size ≤ j) →
          ((n = 0 ∧ (X.b.en && decide (X.b.rd + n = X.b.fi)) = false → RQPost base p (pOb p Ob) X most w (.returned (.tuple #[.slice none 0 0, .bool false, .int .u64 0, .int .i64 26])) (W.drewN d)) ∧
           (0 < n → (X.b.en && decide (X.b.rd + n = X.b.fi)) = false → RQPost base p (pOb p Ob) X most w (.returned (.tuple #[v, .bool false, .int .u64 0, .int .i64 0])) (W.drewN d)) ∧
           ((X.b.en && decide (X.b.rd + n = X.b.fi)) = true → RQPost base p (pOb p Ob) X most w (.returned (.tuple #[v, .bool true, .int .u64 0, .int .i64 0])) ((W.setCell ⟨p, 2, none⟩ (.int .i64 4)).drewN d)) ∧
           W.cell? ⟨p, 2, none⟩ = some (.int .i64 X.st) ∧ W.frozen? ⟨p, 2, none⟩ = false)) := Lib.hid (by
        intro v W Ob' d h1 h2 h3 h4
        have hl' := hl.step h2 h3 h4
        have hst5 : X.st < 5 := by omega
        refine ⟨?_, ?_, ?_, by rw [hl'.at_.cell]; rfl, hl'.at_.frozen 2⟩
        · rintro ⟨n0, hen⟩
          unfold RQPost
          rw [e2, hen]
          have e1 : readQ X most = ⟨false, 0, 26, []⟩ := by unfold readQ; rw [if_neg h5, if_neg h46, ← hn, if_pos ⟨n0, by rw [n0, Nat.add_zero] at hen; exact hen⟩]
          rw [e1]
          exact ⟨_, rfl, Own.none_ _ _ _, _, .inl ⟨hst5, _, _, rfl, hl'.drewN d⟩, (h3.mono fun j hj => .inl (.inr hj)).drewN d, fun j hj => hj.elim (fun e => .inl (.inl e)) fun e => (h4 j e).imp .inr id⟩
        · intro n0 hen
          unfold RQPost
          have e1 : readQ X most = ⟨false, 0, 0, outB X.b.g X.b.rd n⟩ := by unfold readQ; rw [if_neg h5, if_neg h46, ← hn, if_neg (by omega), hen]
          rw [e1, e2, hen]
          exact ⟨_, rfl, h1, _, .inl ⟨hst5, _, _, rfl, hl'.drewN d⟩, (h3.mono fun j hj => .inl (.inr hj)).drewN d, fun j hj => hj.elim (fun e => .inl (.inl e)) fun e => (h4 j e).imp .inr id⟩
        · intro hen
          unfold RQPost
          have e1 : readQ X most = ⟨true, 0, 0, outB X.b.g X.b.rd n⟩ := by
            unfold readQ
            rw [if_neg h5, if_neg h46, ← hn, if_neg, hen]
            rintro ⟨n0, hc⟩
            rw [n0, Nat.add_zero] at hen
            rw [hen] at hc
            cases hc
          rw [e1, e2, hen]
          have hl2 := hl'.set (X' := { X with b := takeS X.b n, st := 4 }) 2 (.int .i64 4) rfl rfl
          have hk2 : Kept (pOb p Ob) w (W.setCell ⟨p, 2, none⟩ (.int .i64 4)) := (h3.mono fun j hj => .inl (.inr hj)).setCell (p := ⟨p, 2, none⟩) (.inl (.inl rfl)) _
          refine ⟨_, rfl, ?_, _, .inl ⟨by show 4 < 5; omega, _, _, rfl, hl2.drewN d⟩, hk2.drewN d, fun j hj => hj.elim (fun e => .inl (.inl e)) fun e => (h4 j e).imp .inr id⟩
          have hp := hl.at_.lt
          exact h1.keep fun j hj => by
            have := (h1.block_lt j hj).1
            exact Below.heap_setCell W ⟨p, 2, none⟩ (.int .i64 4) j (fun e => by have e' : j = p := e; omega))
      have HOL := Lib.hid (hol n)
      clear h ho hb e2 h5 h46 hl hr hn hol
      rcases hk with hk | hk | hk
      all_goals
        rw [hk] at c2
        rw [hk] at HE1
        clear hk
        cases hen : (X.b.en && decide (X.b.rd + n = X.b.fi)) with
        | false =>
          unfold TPost at HT
          rw [hen] at HT HE1
          rcases Nat.eq_zero_or_pos n with hn0 | hn0
          · subst hn0
            go_enter Tryz.func14, Tryz.ntmps14
            go_wp2_with (go_at_call 30; (with_reducible refine HT.out.mono ?_); rintro e w1 ⟨v, rfl, ho1, Ob', hb1, hk1, ho2⟩; have HX := Lib.hid (HE1.out v w1 Ob' 0 ho1 hb1 hk1 ho2); obtain ⟨A1, c1, rfl, _, _, _⟩ := ho1.open_; rw [HOL.out]; clear ho1 hb1 hk1 ho2)
            refine bodyPost_ret (results_tmp4q rfl _ _ _) rfl ?_
            exact HX.out.1 ⟨by first | rfl | trivial, by first | rfl | trivial⟩
          · have hnz : ((n : Int) == 0) = false := by simp; omega
            go_enter Tryz.func14, Tryz.ntmps14
            go_wp2_with (go_at_call 30; (with_reducible refine HT.out.mono ?_); rintro e w1 ⟨v, rfl, ho1, Ob', hb1, hk1, ho2⟩; have HX := Lib.hid (HE1.out v w1 Ob' 0 ho1 hb1 hk1 ho2); obtain ⟨A1, c1, e1, _, _, _⟩ := ho1.open_; rw [HOL.out] at e1; subst e1; clear ho1 hb1 hk1 ho2)
            refine bodyPost_ret (results_tmp4q rfl _ _ _) rfl ?_
            exact HX.out.2.1 hn0 (by first | rfl | trivial)
        | true =>
          unfold TPost at HT
          rw [hen] at HT HE1
          rcases Nat.eq_zero_or_pos n with hn0 | hn0
          · subst hn0
            go_enter Tryz.func14, Tryz.ntmps14
            go_wp2_with (go_at_call 30; (with_reducible refine HT.out.mono ?_); rintro e w1 ⟨v, rfl, ho1, Ob', hb1, hk1, ho2⟩; have HX := Lib.hid (HE1.out v w1 Ob' 0 ho1 hb1 hk1 ho2); obtain ⟨A1, c1, e1, _, _, _⟩ := ho1.open_; rw [HOL.out] at e1; subst e1; have gg2 := HX.out.2.2.2.1; have gf2 := HX.out.2.2.2.2; clear ho1 hb1 hk1 ho2)
            refine bodyPost_ret (results_tmp4q rfl _ _ _) rfl ?_
            exact HX.out.2.2.1 (by first | rfl | trivial)
          · have hnz : ((n : Int) == 0) = false := by simp; omega
            go_enter Tryz.func14, Tryz.ntmps14
            go_wp2_with (go_at_call 30; (with_reducible refine HT.out.mono ?_); rintro e w1 ⟨v, rfl, ho1, Ob', hb1, hk1, ho2⟩; have HX := Lib.hid (HE1.out v w1 Ob' 0 ho1 hb1 hk1 ho2); obtain ⟨A1, c1, e1, _, _, _⟩ := ho1.open_; rw [HOL.out] at e1; subst e1; have gg2 := HX.out.2.2.2.1; have gf2 := HX.out.2.2.2.2; clear ho1 hb1 hk1 ho2)
            refine bodyPost_ret (results_tmp4q rfl _ _ _) rfl ?_
            exact HX.out.2.2.1 (by first | rfl | trivial)
end
end
section
set_option linter.unusedVariables false
set_option linter.unusedSimpArgs false
open Go.RowKit
theorem tk_dst {P : Program} {md : Region.Mode} {ops : Array Oper} {Q : Exit → Act → World → Prop} {S : World → Prop} {i : Nat} {oi : Oper} {dst : Option Tmp} {v : Value} {fuel : Nat} {listed : Array Bool} {a : Act} {w : World} (hi : ops[i]? = some oi) (hd : oi.dst = dst)
    (hs : Region.noSelect ops = true) (hf : Region.free md ops listed i = true) (hr : (Region.ready md ops listed).contains i = true)
    (hQ : ∀ c a w, Q (.panic c) (a.put dst v) w → Q (.panic c) a w) (hy : YieldsIf P ops S oi v a) (hS : S w)
    (h : wpAnyH P md ops Q S fuel (listed.setIfInBounds i true) (a.put dst v) w) : wpAnyH P md ops Q S (fuel + 1) listed a w := by
  subst hd
  exact wpAnyH_take hi hs hf hr hQ hy hS h
theorem yl_any {P : Program} {ops : Array Oper} {S : World → Prop} {op : Oper} {a : Act} (ty : TypeId) (x : Operand) (ho : op.op = .load ty x) (b o : Nat) (hx : a.eval x = .pointer (some ⟨b, o, none⟩)) (L : List Value) (d : TypeDesc) (hS : ∀ w, S w → w.rangeAt b o L)
    (hu : P.underlying ty = some d) (hd : d.isRow = true) (hi : (P.info? ty).map (·.size) = some L.length) (hw : Region.wanted op (yielded ops a.tmps) = true) : YieldsIf P ops S op (.agg L.toArray) a :=
  yieldsIf_load_mid hw _ x ho b o hx L _ hS hu hd hi
theorem step_st_any {P : Program} {ops : Array Oper} {a : Act} {w : World} {K : Act → World → Prop} {Q : Exit → Act → World → Prop} {E : Prop} {dst : Option Tmp} {x y : Operand} {ty t : TypeId} {pos : String} {after : Array Edge} {g : Option (Nat × Bool)}
    (hg : Region.wanted ⟨dst, .store ty x y, t, pos, after, g⟩ (yielded ops a.tmps) = true) (p : Nat) (T : TypeId) (l l' : List Value) (hx : a.eval x = .pointer (some ⟨p, 0, none⟩)) (hy : a.eval y = .agg l'.toArray) (hA : At w p T l) (hl : l.length = l'.length)
    (hi : (P.info? ty).map (·.size) = some l'.length) (h1 : l'.all (·.oneCell') = true) (h : ∀ w', At w' p T l' → Kept (· = p) w w' → K (a.put dst undef) w') :
    if Region.wanted ⟨dst, .store ty x y, t, pos, after, g⟩ (yielded ops a.tmps) = true then Oper.wp P ⟨dst, .store ty x y, t, pos, after, g⟩ a w K Q else E := by
  rw [if_pos hg]
  refine wp_store_mid _ x y rfl p 0 l'.toArray hx hy (by simpa using hA.there _ (by omega)) (by simpa using hi) (by simpa using h1) ?_
  have := At.setFrom l' l 0 w hA
  rw [setFrom_all l l' hl] at this
  exact h _ (by simpa using this) (by simpa using Kept.setCells (S := (· = p)) rfl l' 0 w (Kept.refl _ _))
end
section
set_option linter.unusedVariables false
open Go.RowKit
theorem tkq {P : Program} {md : Region.Mode} {ops : Array Oper} {Q : Exit → Act → World → Prop} {S : World → Prop} (i : Nat) (dst : Option Tmp) {oi : Oper} {v : Value} {fuel : Nat} {listed : Array Bool} {a : Act} {w : World} (hi : ops[i]? = some oi)
    (hy : YieldsIf P ops S oi v a) (hS : S w) (h : wpAnyH P md ops Q S fuel (listed.setIfInBounds i true) (a.put dst v) w)
    (hd : oi.dst = dst := by rfl) (hs : Region.noSelect ops = true := by kernel_rfl) (hf : Region.free md ops listed i = true := by kernel_rfl) (hr : (Region.ready md ops listed).contains i = true := by kernel_rfl)
    (hQ : ∀ c a w, Q (.panic c) (a.put dst v) w → Q (.panic c) a w := by exact fun _ _ _ h => h) : wpAnyH P md ops Q S (fuel + 1) listed a w :=
  tk_dst hi hd hs hf hr hQ hy hS h
end
end Go.Proofs.YtphpdaldplkgmaaGreat
