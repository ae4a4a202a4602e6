/-
  receiver.Receiver behind a pointer (Ql, Qp); New, State, Limit, Highest, Taken, lacks, sized, settle, Stop.
-/
import Derived.Test.YtndaikeeikimeaaMq14
import Derived.Test.YtndaikeeikimeaaMq15
import Derived.Test.YtndaikeeikimeaaMq16
import Derived.BigQuiet
import Derived.Test.YtndaikeeikimeaaProg
import Derived.Test.YtndaikeeikimeaaMq0
import Derived.Test.YtndaikeeikimeaaMq13
import Derived.Deep.QuietTactic
import Derived.Deep.RegionHeld3
import Derived.WalkSpells
namespace Go.Proofs.Ytndaikeeikimeaa
section
set_option linter.unusedVariables false
set_option linter.unusedSimpArgs false
open Go.RowKit
def qpL (X : QS) (pin : Value) : List Value := [.int .u64 X.id, .int .u64 X.win, .int .i64 X.st, .int .u64 X.lim, pin, .int .u64 X.code, .int .u64 X.fin, .bool X.asked, .int .u64 X.stop, .bool X.due, .bool X.again]
/-- A receiver that has its buffer. -/
structure Ql (w : World) (base p pb : Nat) (Ob : Nat → Prop) (X : QS) : Prop where
  at_ : At w p 73 (qpL X (.pointer (some ⟨pb, 0, none⟩)))
  bf : Bf w base pb Ob X.b
  nb : ¬ Ob p
  bp : base ≤ p
/-- One that was reset: it has let its buffer go. -/
structure Qd (w : World) (base p : Nat) (X : QS) : Prop where
  at_ : At w p 73 (qpL X (.pointer none))
  bp : base ≤ p
def pOb (p : Nat) (Ob : Nat → Prop) : Nat → Prop := fun j => j = p ∨ Ob j
/-- A receiver, and the blocks that it has. -/
def Qp (w : World) (base p : Nat) (O : Nat → Prop) (X : QS) : Prop :=
  (X.st < 5 ∧ ∃ pb Ob, O = pOb p Ob ∧ Ql w base p pb Ob X) ∨ (5 ≤ X.st ∧ O = pOb p (fun _ => False) ∧ Qd w base p X)
/-- What a call that changes it leaves. -/
def QPost (r : Value) (base p : Nat) (O : Nat → Prop) (X' : QS) (w : World) (e : Ending) (w' : World) : Prop :=
  e = .returned r ∧ ∃ O', Qp w' base p O' X' ∧ Kept O w w' ∧ ∀ j, O' j → O j ∨ w.heap.size ≤ j
section
variable {w w' : World} {base p pb : Nat} {O Ob Ob' : Nat → Prop} {X X' : QS}
theorem Ql.lt (h : Ql w base p pb Ob X) : ∀ j, pOb p Ob j → base ≤ j ∧ j < w.heap.size := by
  rintro j (rfl | hj)
  · exact ⟨h.bp, h.at_.lt⟩
  · exact h.bf.lt j hj
theorem Ql.kept {T : Nat → Prop} (h : Ql w base p pb Ob X) (k : Kept T w w') (hs : ∀ j, pOb p Ob j → ¬ T j) : Ql w' base p pb Ob X :=
  { h with at_ := h.at_.kept k (hs p (.inl rfl)), bf := h.bf.kept k fun j hj => hs j (.inr hj) }
theorem Ql.below (h : Ql w base p pb Ob X) (k : Below w.heap.size w w') : Ql w' base p pb Ob X := h.kept (Kept.of_below k (fun _ => False)) fun _ _ h => h
theorem Ql.drewN (h : Ql w base p pb Ob X) (n : Nat) : Ql (w.drewN n) base p pb Ob X := h.kept ((Kept.refl (fun _ => False) w).drewN n) fun _ _ h => h
/-- A cell of its own block is set. -/
theorem Ql.set (h : Ql w base p pb Ob X) (j : Nat) (u : Value) (he : (qpL X (.pointer (some ⟨pb, 0, none⟩))).set j u = qpL X' (.pointer (some ⟨pb, 0, none⟩))) (hb : X'.b = X.b) : Ql (w.setCell ⟨p, j, none⟩ u) base p pb Ob X' :=
  ⟨he ▸ h.at_.set j u, by rw [hb]; exact h.bf.kept ((Kept.refl (· = p) w).setAt j u) fun k hk e => h.nb (by rw [← e]; exact hk), h.nb, h.bp⟩
/-- Its buffer is turned. -/
theorem Ql.step {S' : BS} (h : Ql w base p pb Ob X) (hb : Bf w' base pb Ob' S') (k : Kept Ob w w') (ho : ∀ j, Ob' j → Ob j ∨ w.heap.size ≤ j) : Ql w' base p pb Ob' { X with b := S' } :=
  ⟨h.at_.kept k h.nb, hb, fun e => (ho p e).elim h.nb fun e' => by have := h.at_.lt; omega, h.bp⟩
theorem Ql.post (h : Ql w base p pb Ob X) (h' : Ql w' base p pb Ob' X') (hst : X'.st < 5) (k : Kept (pOb p Ob) w w') (ho : ∀ j, Ob' j → Ob j ∨ w.heap.size ≤ j) (r : Value) : QPost r base p (pOb p Ob) X' w (.returned r) w' :=
  ⟨rfl, _, .inl ⟨hst, _, _, rfl, h'⟩, k, fun j hj => hj.elim (fun e => .inl (.inl e)) fun e => (ho j e).imp .inr id⟩
theorem Ql.same (h : Ql w base p pb Ob X) (hst : X.st < 5) (k : Below w.heap.size w w') (r : Value) : QPost r base p (pOb p Ob) X w (.returned r) w' :=
  h.post (h.below k) hst (Kept.of_below k _) (fun j hj => .inl hj) r
theorem Qd.same (h : Qd w base p X) (hst : 5 ≤ X.st) (k : Below w.heap.size w w') (r : Value) : QPost r base p (pOb p fun _ => False) X w (.returned r) w' :=
  ⟨rfl, _, .inr ⟨hst, rfl, h.at_.below k h.at_.lt, h.bp⟩, Kept.of_below k _, fun j hj => .inl hj⟩
theorem Qd.set (h : Qd w base p X) (j : Nat) (u : Value) (he : (qpL X (.pointer none)).set j u = qpL X' (.pointer none)) : Qd (w.setCell ⟨p, j, none⟩ u) base p X' := ⟨he ▸ h.at_.set j u, h.bp⟩
theorem Qd.drewN (h : Qd w base p X) (n : Nat) : Qd (w.drewN n) base p X := ⟨h.at_.drewN n, h.bp⟩
theorem Qd.post (h : Qd w base p X) (h' : Qd w' base p X') (hst : 5 ≤ X'.st) (k : Kept (· = p) w w') (r : Value) : QPost r base p (pOb p fun _ => False) X' w (.returned r) w' :=
  ⟨rfl, _, .inr ⟨hst, rfl, h'⟩, k.mono fun j hj => .inl (.inl hj), fun j hj => .inl hj⟩
theorem Qp.lt (h : Qp w base p O X) : ∀ j, O j → base ≤ j ∧ j < w.heap.size := by
  rcases h with ⟨_, pb, Ob, rfl, h⟩ | ⟨_, rfl, h⟩
  · exact h.lt
  · rintro j (rfl | hj)
    · exact ⟨h.bp, h.at_.lt⟩
    · exact hj.elim
theorem Qp.own (h : Qp w base p O X) : O p := by
  rcases h with ⟨_, pb, Ob, rfl, h⟩ | ⟨_, rfl, h⟩ <;> exact .inl rfl
theorem Qp.kept {T : Nat → Prop} (h : Qp w base p O X) (k : Kept T w w') (hs : ∀ j, O j → ¬ T j) : Qp w' base p O X := by
  rcases h with ⟨hst, pb, Ob, rfl, h⟩ | ⟨hst, rfl, h⟩
  · exact .inl ⟨hst, pb, Ob, rfl, h.kept k hs⟩
  · exact .inr ⟨hst, rfl, h.at_.kept k (hs p (.inl rfl)), h.bp⟩
theorem Qp.below (h : Qp w base p O X) (k : Below w.heap.size w w') : Qp w' base p O X := h.kept (Kept.of_below k (fun _ => False)) fun _ _ h => h
theorem Qp.drewN (h : Qp w base p O X) (n : Nat) : Qp (w.drewN n) base p O X := h.kept ((Kept.refl (fun _ => False) w).drewN n) fun _ _ h => h
theorem Qp.at_ (h : Qp w base p O X) : ∃ pin, At w p 73 (qpL X pin) := by
  rcases h with ⟨_, pb, Ob, rfl, h⟩ | ⟨_, rfl, h⟩
  · exact ⟨_, h.at_⟩
  · exact ⟨_, h.at_⟩
theorem Qp.live (h : Qp w base p O X) (hst : X.st < 5) : ∃ pb Ob, O = pOb p Ob ∧ Ql w base p pb Ob X := by
  rcases h with ⟨_, h⟩ | ⟨h, _⟩
  · exact h
  · omega
theorem Qp.c0 (h : Qp w base p O X) : w.cell? ⟨p, 0, none⟩ = some (.int .u64 X.id) := by obtain ⟨pin, h⟩ := h.at_; rw [h.cell]; rfl
theorem Qp.c1 (h : Qp w base p O X) : w.cell? ⟨p, 1, none⟩ = some (.int .u64 X.win) := by obtain ⟨pin, h⟩ := h.at_; rw [h.cell]; rfl
theorem Qp.c2 (h : Qp w base p O X) : w.cell? ⟨p, 2, none⟩ = some (.int .i64 X.st) := by obtain ⟨pin, h⟩ := h.at_; rw [h.cell]; rfl
theorem Qp.c3 (h : Qp w base p O X) : w.cell? ⟨p, 3, none⟩ = some (.int .u64 X.lim) := by obtain ⟨pin, h⟩ := h.at_; rw [h.cell]; rfl
theorem Qp.c5 (h : Qp w base p O X) : w.cell? ⟨p, 5, none⟩ = some (.int .u64 X.code) := by obtain ⟨pin, h⟩ := h.at_; rw [h.cell]; rfl
theorem Qp.c6 (h : Qp w base p O X) : w.cell? ⟨p, 6, none⟩ = some (.int .u64 X.fin) := by obtain ⟨pin, h⟩ := h.at_; rw [h.cell]; rfl
theorem Qp.c7 (h : Qp w base p O X) : w.cell? ⟨p, 7, none⟩ = some (.bool X.asked) := by obtain ⟨pin, h⟩ := h.at_; rw [h.cell]; rfl
theorem Qp.c9 (h : Qp w base p O X) : w.cell? ⟨p, 9, none⟩ = some (.bool X.due) := by obtain ⟨pin, h⟩ := h.at_; rw [h.cell]; rfl
theorem Qp.fz (h : Qp w base p O X) (j : Nat) : w.frozen? ⟨p, j, none⟩ = false := by obtain ⟨pin, h⟩ := h.at_; exact h.frozen j
theorem Ql.qp (h : Ql w base p pb Ob X) (hst : X.st < 5) : Qp w base p (pOb p Ob) X := .inl ⟨hst, pb, Ob, rfl, h⟩
theorem Qd.qp (h : Qd w base p X) (hst : 5 ≤ X.st) : Qp w base p (pOb p fun _ => False) X := .inr ⟨hst, rfl, h⟩
theorem Ql.c4 (h : Ql w base p pb Ob X) : w.cell? ⟨p, 4, none⟩ = some (.pointer (some ⟨pb, 0, none⟩)) := by rw [h.at_.cell]; rfl
theorem Qd.c4 (h : Qd w base p X) : w.cell? ⟨p, 4, none⟩ = some (.pointer none) := by rw [h.at_.cell]; rfl
/-- Behind something that made blocks of its own alone. -/
theorem QPost.after {r : Value} {e : Ending} {w1 : World} (h : Qp w base p O X) (k : Below w.heap.size w w1) (hP : QPost r base p O X' w1 e w') : QPost r base p O X' w e w' := by
  obtain ⟨he, O', h1, h2, h3⟩ := hP
  have := k.size
  exact ⟨he, O', h1, (Kept.of_below k O).trans h2, fun j hj => (h3 j hj).imp id fun h => by omega⟩
end
/-- What New leaves. -/
def QNew (X : QS) (w : World) (e : Ending) (w' : World) : Prop := ∃ p, e = .returned (.pointer (some ⟨p, 0, none⟩)) ∧ (∃ O, Qp w' w.heap.size p O X) ∧ Below w.heap.size w w'
set_option maxRecDepth 100000 in
set_option maxHeartbeats 2000000 in
theorem q_new (id win : Nat) (hid : id < 18446744073709551616) (hw : win < 18446744073709551616) (w : World) : Calls Try.prog 33 #[.int .u64 id, .int .u64 win] w (QNew (qs0 id win) w) := by
  have HN := Lib.hid (inew_any w)
  obtain ⟨m, hm⟩ : ∃ m, m = min win 2048 := ⟨_, rfl⟩
  have HF : Hid (∀ w1 p1, (∃ O, Bf w1 w.heap.size p1 O bs0) → Below w.heap.size w w1 → QNew (qs0 id win) w (.returned (.pointer (some ⟨w1.heap.size, 0, none⟩))) (w1.alloc (.cells #[.int .u64 id, .int .u64 m, .int .i64 1, .int .u64 m, .pointer (some ⟨p1, 0, none⟩), .int .u64 0, .int .u64 0, .bool false, .int .u64 0, .bool false, .bool false] 73))) := Lib.hid (by
    rintro w1 p1 ⟨O, hb⟩ hB
    refine ⟨_, rfl, ⟨_, .inl ⟨by show 1 < 5; omega, p1, O, rfl, ?_⟩⟩, hB.alloc hB.size _⟩
    refine ⟨?_, hb.kept ((Kept.refl (fun _ => False) w1).alloc _) (fun _ _ h => h), fun e => by have := (hb.lt _ e).2; omega, hB.size⟩
    have := At.new w1 73 (qpL (qs0 id win) (.pointer (some ⟨p1, 0, none⟩)))
    unfold qpL qs0 at this
    simp only [← hm] at this
    unfold qpL qs0
    simp only [← hm]
    exact this)
  have hmz : (if (2048 : Int) < (win : Int) then (2048 : Int) else (win : Int)) = (m : Int) := by rw [hm]; split <;> omega
  clear hm
  go_enter Try.func33, Try.ntmps33
  go_wp2_with (go_at_call 39; (with_reducible refine HN.out.mono ?_); rintro e w1 ⟨p1, rfl, hO, hB⟩; have HO := Lib.hid (HF.out w1 p1 hO hB); clear hO hB)
  go_ret
  exact HO.out
section
variable {w w' : World} {base p pb : Nat} {O Ob Ob' : Nat → Prop} {X X' : QS}
theorem q_state (h : Qp w base p O X) : Calls Try.prog 40 #[.pointer (some ⟨p, 0, none⟩)] w fun e w' => e = .returned (.int .i64 X.st) ∧ w' = w := by
  have h2 := h.c2
  clear h
  go_enter Try.func40, Try.ntmps40
  go_wp2
  go_ret
  exact ⟨rfl, rfl⟩
end
end
section
set_option linter.unusedVariables false
open Go.RowKit
/-- A frame's numbers. -/
structure FN where
  k : Int
  s : Int
  o : Int
  fin : Bool
  l : Int
  c : Int
  f : Int
  q : Int
  y : Int
  c0 : Int
  c1 : Int
  c2 : Int
  c3 : Int
  c4 : Int
  c5 : Int
  c6 : Int
  c7 : Int
def frL (m : FN) (d r : Sl) : List Value := [.int .i64 m.k, .int .u64 m.s, .int .u64 m.o, .slice d.A d.n d.c, .bool m.fin, .int .u64 m.l, .int .u64 m.c, .int .u64 m.f, .int .u64 m.q, .int .u64 m.y, .slice r.A r.n r.c,
  .int .u8 m.c0, .int .u8 m.c1, .int .u8 m.c2, .int .u8 m.c3, .int .u8 m.c4, .int .u8 m.c5, .int .u8 m.c6, .int .u8 m.c7]
def frV (m : FN) (d r : Sl) : Value := .agg (frL m d r).toArray
def FN.zero (k : Int) : FN := ⟨k, 0, 0, false, 0, 0, 0, 0, 0, 0, 0, 0, 0, 0, 0, 0, 0⟩
section
variable {ops : Array Oper} {rest : List Oper} {a : Act} {w : World} {Q : Exit → Act → World → Prop} {dst : Option Tmp} {x y : Operand} {t : TypeId} {pos : String} {after : Array Edge}
theorem ld_fr (p : Nat) (l : List Value) (hx : a.eval x = .pointer (some ⟨p, 0, none⟩)) (hA : At w p 34 l) (hl : l.length = 19)
    (h : wpList Try.prog ops Q rest (a.put dst (.agg l.toArray)) w) : wpList Try.prog ops Q (⟨dst, .load 34 x, t, pos, after, none⟩ :: rest) a w :=
  wpList_load_at p _ l _ hx hA Try.underlying34 rfl (by rw [hl]; kernel_rfl) h
theorem at_ld {g : Option (Nat × Bool)} (h : wpList Try.prog ops Q (⟨dst, .load 34 x, t, pos, after, g⟩ :: rest) a w) : wpList Try.prog ops Q (⟨dst, .load 34 x, t, pos, after, g⟩ :: rest) a w := h
end
end
section
set_option linter.unusedVariables false
set_option linter.unusedSimpArgs false
open Go.RowKit
section
variable {w w' : World} {base p pb : Nat} {O Ob Ob' : Nat → Prop} {X X' : QS}
set_option maxHeartbeats 2000000 in
theorem q_high (h : Qp w base p O X) (ho : X.ok) : Calls Try.prog 20 #[.pointer (some ⟨p, 0, none⟩)] w fun e w' => e = .returned (.int .u64 (highQ X)) ∧ w' = w := by
  have h2 := h.c2
  have h6 := h.c6
  have hk := ho.st
  unfold highQ
  by_cases h5 : 5 ≤ X.st
  · rw [if_pos h5]
    have hk' : X.st = 5 ∨ X.st = 6 := by omega
    clear h ho hk h5
    rcases hk' with hk | hk
    all_goals
      rw [hk] at h2
      clear hk
      go_enter Try.func20, Try.ntmps20
      go_wp2
      go_ret
      exact ⟨rfl, rfl⟩
  · rw [if_neg h5]
    obtain ⟨pb, Ob, rfl, hl⟩ := h.live (by omega)
    have h4 := hl.c4
    have HH := Lib.hid (ihigh_any hl.bf)
    have hk' : X.st = 1 ∨ X.st = 2 ∨ X.st = 3 ∨ X.st = 4 := by omega
    clear h ho hk h5 hl
    rcases hk' with hk | hk | hk | hk
    all_goals
      rw [hk] at h2
      clear hk
      go_enter Try.func20, Try.ntmps20
      go_wp2_with (go_at_call 27; (with_reducible refine HH.out.mono ?_); rintro e w1 ⟨rfl, hw⟩; rw [hw]; clear hw)
      go_ret
      exact ⟨rfl, rfl⟩
set_option maxHeartbeats 2000000 in
theorem q_taken (h : Qp w base p O X) (ho : X.ok) : Calls Try.prog 44 #[.pointer (some ⟨p, 0, none⟩)] w fun e w' => e = .returned (.int .u64 (takenQ X)) ∧ w' = w := by
  have h2 := h.c2
  have h6 := h.c6
  have hk := ho.st
  unfold takenQ
  by_cases h5 : 5 ≤ X.st
  · rw [if_pos h5]
    have hk' : X.st = 5 ∨ X.st = 6 := by omega
    clear h ho hk h5
    rcases hk' with hk | hk
    all_goals
      rw [hk] at h2
      clear hk
      go_enter Try.func44, Try.ntmps44
      go_wp2
      go_ret
      exact ⟨rfl, rfl⟩
  · rw [if_neg h5]
    obtain ⟨pb, Ob, rfl, hl⟩ := h.live (by omega)
    have h4 := hl.c4
    have HH := Lib.hid (iread_any hl.bf)
    have hk' : X.st = 1 ∨ X.st = 2 ∨ X.st = 3 ∨ X.st = 4 := by omega
    clear h ho hk h5 hl
    rcases hk' with hk | hk | hk | hk
    all_goals
      rw [hk] at h2
      clear hk
      go_enter Try.func44, Try.ntmps44
      go_wp2_with (go_at_call 49; (with_reducible refine HH.out.mono ?_); rintro e w1 ⟨rfl, hw⟩; rw [hw]; clear hw)
      go_ret
      exact ⟨rfl, rfl⟩
/-- Where it ends, and is that known. -/
def sizedN (X : QS) : Nat := if 5 ≤ X.st then X.fin else X.b.fi
def sizedB (X : QS) : Bool := if 5 ≤ X.st then true else X.b.en
set_option maxHeartbeats 2000000 in
theorem q_sized (h : Qp w base p O X) (ho : X.ok) : Calls Try.prog 52 #[.pointer (some ⟨p, 0, none⟩)] w fun e w' => e = .returned (.tuple #[.int .u64 (sizedN X), .bool (sizedB X)]) ∧ ∃ d, w' = w.drewN d := by
  have h2 := h.c2
  have h6 := h.c6
  have hk := ho.st
  unfold sizedN sizedB
  by_cases h5 : 5 ≤ X.st
  · rw [if_pos h5, if_pos h5]
    have hk' : X.st = 5 ∨ X.st = 6 := by omega
    clear h ho hk h5
    rcases hk' with hk | hk
    all_goals
      rw [hk] at h2
      clear hk
      go_enter Try.func52, Try.ntmps52
      go_wp2
      go_ret2
      exact ⟨rfl, 0, rfl⟩
  · rw [if_neg h5, if_neg h5]
    obtain ⟨pb, Ob, rfl, hl⟩ := h.live (by omega)
    have h4 := hl.c4
    have HH := Lib.hid (ifin_any hl.bf)
    have hk' : X.st = 1 ∨ X.st = 2 ∨ X.st = 3 ∨ X.st = 4 := by omega
    clear h ho hk h5 hl
    rcases hk' with hk | hk | hk | hk
    all_goals
      rw [hk] at h2
      clear hk
      go_enter Try.func52, Try.ntmps52
      go_wp2_with (go_at_call 57; (with_reducible refine HH.out.mono ?_); rintro e w1 ⟨rfl, hw⟩; have HW := Lib.hid hw; clear hw)
      go_ret2
      exact ⟨rfl, HW.out⟩
/-- What settle needs of the worlds it meets. -/
structure Stl (w : World) (base p pb : Nat) (Ob : Nat → Prop) (X : QS) (W : World) : Prop where
  c2 : W.cell? ⟨p, 2, none⟩ = some (.int .i64 X.st)
  c4 : W.cell? ⟨p, 4, none⟩ = some (.pointer (some ⟨pb, 0, none⟩))
  c9 : W.cell? ⟨p, 9, none⟩ = some (.bool X.due)
  f2 : W.frozen? ⟨p, 2, none⟩ = false
  f9 : W.frozen? ⟨p, 9, none⟩ = false
theorem Ql.stl (h : Ql w base p pb Ob X) (W : World) (k : Below w.heap.size w W) : Stl w base p pb Ob X W := by
  have h1 := h.below k
  exact ⟨by rw [h1.at_.cell]; rfl, h1.c4, by rw [h1.at_.cell]; rfl, h1.at_.frozen 2, h1.at_.frozen 9⟩
theorem q_lacksN (W : World) (s : Nat) (h2 : W.cell? ⟨p, 2, none⟩ = some (.int .i64 s)) (hk : s = 1 ∨ s = 2 ∨ s = 3 ∨ s = 4 ∨ s = 5 ∨ s = 6) : Calls Try.prog 55 #[.pointer (some ⟨p, 0, none⟩)] W fun e w' => e = .returned (.bool (decide (s ≤ 2))) ∧ w' = W := by
  rcases hk with hk | hk | hk | hk | hk | hk
  all_goals
    rw [hk] at h2 ⊢
    clear hk
    go_enter Try.func55, Try.ntmps55
    go_wp2
    go_ret
    exact ⟨rfl, rfl⟩
def SlPost (w : World) (base p pb : Nat) (Ob : Nat → Prop) (X' : QS) (W : World) : Prop := Ql W base p pb Ob X' ∧ Kept (· = p) w W
set_option maxHeartbeats 8000000 in
set_option maxRecDepth 100000 in
/-- settle, of a receiver that has its buffer. -/
theorem q_settle (h : Ql w base p pb Ob X) (hb : X.b.ok) (hst : X.st = 1 ∨ X.st = 2 ∨ X.st = 3 ∨ X.st = 4) : Calls Try.prog 51 #[.pointer (some ⟨p, 0, none⟩)] w fun e w' => e = .returned (.tuple #[]) ∧ SlPost w base p pb Ob (settleQ X) w' := by
  have HS : Hid (∀ W, Below w.heap.size w W → Stl w base p pb Ob X W) := Lib.hid h.stl
  have HLK : Hid (∀ W, Below w.heap.size w W → Calls Try.prog 55 #[.pointer (some ⟨p, 0, none⟩)] W fun e w' => e = .returned (.bool (decide (X.st ≤ 2))) ∧ w' = W) := Lib.hid (fun W k => q_lacksN W X.st (h.stl W k).c2 (by omega))
  have HSAME : Hid (settleQ X = X → ∀ W, Below w.heap.size w W → SlPost w base p pb Ob (settleQ X) W) := Lib.hid (fun e W k => by rw [e]; exact ⟨h.below k, Kept.of_below k _⟩)
  obtain ⟨cc2, cc4, cc9, ff2, ff9⟩ := h.stl w (Below.refl _ _)
  by_cases h3 : X.st ≤ 2
  · have HW := Lib.hid (iwhole_any base pb Ob X.b w h.bf hb (rdyS X.b) (rdyS_is hb))
    have HF : Hid (∀ W, Below w.heap.size w W → Calls Try.prog 57 #[.pointer (some ⟨pb, 0, none⟩)] W fun e w' => e = .returned (.tuple #[.int .u64 X.b.fi, .bool X.b.en]) ∧ ∃ d, w' = W.drewN d) := Lib.hid (fun W k => ifin_any (h.below k).bf)
    have hwb : (X.b.en && decide (X.b.rd + rdyS X.b = X.b.fi)) = wholeB X.b := rfl
    rw [hwb] at HW
    cases hw : wholeB X.b with
    | true =>
      have HL3 : Hid (∀ W, Below w.heap.size w W → Calls Try.prog 55 #[.pointer (some ⟨p, 0, none⟩)] (W.setCell ⟨p, 2, none⟩ (.int .i64 3)) fun e w' => e = .returned (.bool false) ∧ w' = W.setCell ⟨p, 2, none⟩ (.int .i64 3)) := Lib.hid (fun W k => q_lacksN _ 3 (by rw [((h.below k).at_.set 2 (.int .i64 3)).cell]; rfl) (by omega))
      have HE : Hid (∀ W, Below w.heap.size w W → SlPost w base p pb Ob (settleQ X) ((W.setCell ⟨p, 2, none⟩ (.int .i64 3)).setCell ⟨p, 9, none⟩ (.bool false))) := Lib.hid (fun W k => by
        have e : settleQ X = { X with st := 3, due := false } := by unfold settleQ; rw [if_pos h3, if_pos hw]
        rw [e]
        exact ⟨((h.below k).set (X' := { X with st := 3 }) 2 (.int .i64 3) rfl rfl).set (X' := { X with st := 3, due := false }) 9 (.bool false) rfl rfl, ((Kept.of_below k (· = p)).setCell (p := ⟨p, 2, none⟩) (.inl rfl) _).setCell (p := ⟨p, 9, none⟩) (.inl rfl) _⟩)
      rw [hw] at HW
      have hdl : decide (X.st ≤ 2) = true := by simpa using h3
      rw [hdl] at HLK
      clear h hb hst h3 HSAME HF hwb hw hdl
      generalize settleQ X = X2 at *
      cases hd : X.due
      all_goals
        rw [hd] at cc9
        go_enter Try.func51, Try.ntmps51
        go_wp2_with (first
          | (go_at_call 55; (with_reducible refine (HLK.out _ (Below.refl _ _)).mono ?_); rintro e w1 ⟨rfl, hw⟩; rw [hw]; clear hw)
          | (go_at_call 56; (with_reducible refine HW.out.mono ?_); rintro e w1 ⟨rfl, hB1⟩; have HB1 := Lib.hid hB1; obtain ⟨dd2, dd4, dd9, gg2, gg9⟩ := HS.out w1 hB1; rw [hd] at dd9; clear hB1)
          | (go_at_call 55; (with_reducible refine (HL3.out _ HB1.out).mono ?_); rintro e w2 ⟨rfl, hw⟩; rw [hw]; clear hw))
        go_end0
        exact ⟨rfl, HE.out _ HB1.out⟩
    | false =>
      have HE : Hid (∀ W, Below w.heap.size w W → X.b.en = true → SlPost w base p pb Ob (settleQ X) ((W.setCell ⟨p, 2, none⟩ (.int .i64 2)).setCell ⟨p, 9, none⟩ (.bool X.due))) := Lib.hid (fun W k he => by
        have e : settleQ X = { X with st := 2 } := by unfold settleQ; rw [if_pos h3, hw, he]; rfl
        rw [e]
        exact ⟨((h.below k).set (X' := { X with st := 2 }) 2 (.int .i64 2) rfl rfl).set (X' := { X with st := 2 }) 9 (.bool X.due) rfl rfl, ((Kept.of_below k (· = p)).setCell (p := ⟨p, 2, none⟩) (.inl rfl) _).setCell (p := ⟨p, 9, none⟩) (.inl rfl) _⟩)
      have HE0 : Hid (∀ W, Below w.heap.size w W → X.b.en = false → SlPost w base p pb Ob (settleQ X) (W.setCell ⟨p, 9, none⟩ (.bool X.due))) := Lib.hid (fun W k he => by
        have e : settleQ X = X := by unfold settleQ; rw [if_pos h3, hw, he]; rfl
        rw [e]
        exact ⟨(h.below k).set (X' := X) 9 (.bool X.due) rfl rfl, (Kept.of_below k (· = p)).setCell (p := ⟨p, 9, none⟩) (.inl rfl) _⟩)
      have HL2 : Hid (∀ W, Below w.heap.size w W → Calls Try.prog 55 #[.pointer (some ⟨p, 0, none⟩)] (W.setCell ⟨p, 2, none⟩ (.int .i64 2)) fun e w' => e = .returned (.bool true) ∧ w' = W.setCell ⟨p, 2, none⟩ (.int .i64 2)) := Lib.hid (fun W k => q_lacksN _ 2 (by rw [((h.below k).at_.set 2 (.int .i64 2)).cell]; rfl) (by omega))
      rw [hw] at HW
      have hdl : decide (X.st ≤ 2) = true := by simpa using h3
      rw [hdl] at HLK
      clear h hb hst h3 HSAME hwb hw hdl
      generalize settleQ X = X2 at *
      cases hd : X.due <;> cases hen : X.b.en
      all_goals
        rw [hd] at cc9 HE HE0
        rw [hen] at HF HE HE0
        go_enter Try.func51, Try.ntmps51
        go_wp2_with (first
          | (go_at_call 56; (with_reducible refine HW.out.mono ?_); rintro e w1 ⟨rfl, hB1⟩; have HB1 := Lib.hid hB1; have ee4 := (HS.out w1 hB1).c4; clear hB1)
          | (go_at_call 55; (with_reducible refine (HLK.out w (Below.refl _ _)).mono ?_); rintro e w1 ⟨rfl, hw⟩; rw [hw]; clear hw)
          | (go_at_call 57; (with_reducible refine (HF.out _ HB1.out).mono ?_); rintro e w2 ⟨rfl, d2, hw2⟩; have HB2 : Hid (Below w.heap.size w w2) := Lib.hid (by rw [hw2]; exact belowN HB1.out d2); clear hw2; obtain ⟨dd2, dd4, dd9, gg2, gg9⟩ := HS.out w2 HB2.out; rw [hd] at dd9)
          | (go_at_call 55; (with_reducible refine (HL2.out _ HB2.out).mono ?_); rintro e w3 ⟨rfl, hw⟩; rw [hw]; clear hw)
          | (go_at_call 55; (with_reducible refine (HLK.out _ HB2.out).mono ?_); rintro e w3 ⟨rfl, hw⟩; rw [hw]; clear hw))
        go_end0
        first
          | exact ⟨rfl, HE.out _ HB2.out (by first | rfl | trivial)⟩
          | exact ⟨rfl, HE0.out _ HB2.out (by first | rfl | trivial)⟩
  · have hdl : decide (X.st ≤ 2) = false := by simpa using h3
    have HZ := Lib.hid (HSAME.out (by unfold settleQ; rw [if_neg h3]) w (Below.refl _ _))
    rw [hdl] at HLK
    clear h hb hst h3 HSAME hdl
    generalize settleQ X = X2 at *
    go_enter Try.func51, Try.ntmps51
    go_wp2_with (go_at_call 55; (with_reducible refine (HLK.out _ (Below.refl _ _)).mono ?_); rintro e w1 ⟨rfl, hw⟩; rw [hw]; clear hw)
    (first | go_end0 | refine bodyPost_ret (results_none rfl _ _ _) rfl ?_)
    exact ⟨rfl, HZ.out⟩
end
end
section
set_option linter.unusedVariables false
set_option linter.unusedSimpArgs false
open Go.RowKit
section
variable {w w' : World} {base p pb : Nat} {O Ob Ob' : Nat → Prop} {X X' : QS}
end
end
end Go.Proofs.Ytndaikeeikimeaa
