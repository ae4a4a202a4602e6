/-
  What each function of package bits that turns numbers answers, for every number of its kind: Low, Extend, Rot, Zig, Zag, Clamp; Within of the statements' book.
-/
import Derived.Test.YtahalbmcijbbmaaProg
import Derived.Test.YtahalbmcijbbmaaMq8
import Derived.WalkKit
import Derived.ProofKit
import Derived.OpenShut
import Derived.Lib.Hide
import Derived.Outline
import Derived.WalkLawsBesides
import Derived.WalkSpells
import Derived.RegionTactic
import Derived.ChangeAlike
import Derived.Deep.QuietTactic
import Derived.BigQuiet
import Derived.Test.YtahalbmcijbbmaaMq0
import Derived.Deep.RegionHeld3
namespace Go.Proofs.Ytahalbmcijbbmaa
section
set_option linter.unusedVariables false
open Go.RowKit
theorem ret_int {k : IntKind} {a b : Int} (h : a = b) : Ending.returned (.int k a) = .returned (.int k b) := by rw [h]
end
section
set_option linter.unusedVariables false
open Go.RowKit
/-- A frame's numbers. -/
structure FN where
  k : Int
  s : Int
  o : Int
  fin : Bool
  l : Int
  c : Int
  f : Int
  q : Int
  y : Int
  c0 : Int
  c1 : Int
  c2 : Int
  c3 : Int
  c4 : Int
  c5 : Int
  c6 : Int
  c7 : Int
def frL (m : FN) (d r : Sl) : List Value := [.int .i64 m.k, .int .u64 m.s, .int .u64 m.o, .slice d.A d.n d.c, .bool m.fin, .int .u64 m.l, .int .u64 m.c, .int .u64 m.f, .int .u64 m.q, .int .u64 m.y, .slice r.A r.n r.c,
  .int .u8 m.c0, .int .u8 m.c1, .int .u8 m.c2, .int .u8 m.c3, .int .u8 m.c4, .int .u8 m.c5, .int .u8 m.c6, .int .u8 m.c7]
def frV (m : FN) (d r : Sl) : Value := .agg (frL m d r).toArray
def FN.zero (k : Int) : FN := ⟨k, 0, 0, false, 0, 0, 0, 0, 0, 0, 0, 0, 0, 0, 0, 0, 0⟩
section
variable {ops : Array Oper} {rest : List Oper} {a : Act} {w : World} {Q : Exit → Act → World → Prop} {dst : Option Tmp} {x y : Operand} {t : TypeId} {pos : String} {after : Array Edge}
theorem at_ld {g : Option (Nat × Bool)} (h : wpList Try.prog ops Q (⟨dst, .load 46 x, t, pos, after, g⟩ :: rest) a w) : wpList Try.prog ops Q (⟨dst, .load 46 x, t, pos, after, g⟩ :: rest) a w := h
end
end
section
set_option linter.unusedVariables false
set_option linter.unusedSimpArgs false
open Go.RowKit
section
variable {w w' : World} {base p pb : Nat} {O Ob Ob' : Nat → Prop} {X X' : QS}
set_option maxHeartbeats 2000000 in
theorem q_high (h : Qp w base p O X) (ho : X.ok) : Calls Try.prog 8 #[.pointer (some ⟨p, 0, none⟩)] w fun e w' => e = .returned (.int .u64 (highQ X)) ∧ w' = w := by
  have h2 := h.c2
  have h6 := h.c6
  have hk := ho.st
  unfold highQ
  by_cases h5 : 5 ≤ X.st
  · rw [if_pos h5]
    have hk' : X.st = 5 ∨ X.st = 6 := by omega
    clear h ho hk h5
    rcases hk' with hk | hk
    all_goals
      rw [hk] at h2
      clear hk
      go_enter Try.func8, Try.ntmps8
      go_wp2
      go_ret
      exact ⟨rfl, rfl⟩
  · rw [if_neg h5]
    obtain ⟨pb, Ob, rfl, hl⟩ := h.live (by omega)
    have h4 := hl.c4
    have HH := Lib.hid (ihigh_any hl.bf)
    have hk' : X.st = 1 ∨ X.st = 2 ∨ X.st = 3 ∨ X.st = 4 := by omega
    clear h ho hk h5 hl
    rcases hk' with hk | hk | hk | hk
    all_goals
      rw [hk] at h2
      clear hk
      go_enter Try.func8, Try.ntmps8
      go_wp2_with (go_at_call 19; (with_reducible refine HH.out.mono ?_); rintro e w1 ⟨rfl, hw⟩; rw [hw]; clear hw)
      go_ret
      exact ⟨rfl, rfl⟩
/-- Where it ends, and is that known. -/
def sizedN (X : QS) : Nat := if 5 ≤ X.st then X.fin else X.b.fi
def sizedB (X : QS) : Bool := if 5 ≤ X.st then true else X.b.en
set_option maxHeartbeats 2000000 in
theorem q_sized (h : Qp w base p O X) (ho : X.ok) : Calls Try.prog 29 #[.pointer (some ⟨p, 0, none⟩)] w fun e w' => e = .returned (.tuple #[.int .u64 (sizedN X), .bool (sizedB X)]) ∧ ∃ d, w' = w.drewN d := by
  have h2 := h.c2
  have h6 := h.c6
  have hk := ho.st
  unfold sizedN sizedB
  by_cases h5 : 5 ≤ X.st
  · rw [if_pos h5, if_pos h5]
    have hk' : X.st = 5 ∨ X.st = 6 := by omega
    clear h ho hk h5
    rcases hk' with hk | hk
    all_goals
      rw [hk] at h2
      clear hk
      go_enter Try.func29, Try.ntmps29
      go_wp2
      go_ret2
      exact ⟨rfl, 0, rfl⟩
  · rw [if_neg h5, if_neg h5]
    obtain ⟨pb, Ob, rfl, hl⟩ := h.live (by omega)
    have h4 := hl.c4
    have HH := Lib.hid (ifin_any hl.bf)
    have hk' : X.st = 1 ∨ X.st = 2 ∨ X.st = 3 ∨ X.st = 4 := by omega
    clear h ho hk h5 hl
    rcases hk' with hk | hk | hk | hk
    all_goals
      rw [hk] at h2
      clear hk
      go_enter Try.func29, Try.ntmps29
      go_wp2_with (go_at_call 42; (with_reducible refine HH.out.mono ?_); rintro e w1 ⟨rfl, hw⟩; have HW := Lib.hid hw; clear hw)
      go_ret2
      exact ⟨rfl, HW.out⟩
/-- What settle needs of the worlds it meets. -/
structure Stl (w : World) (base p pb : Nat) (Ob : Nat → Prop) (X : QS) (W : World) : Prop where
  c2 : W.cell? ⟨p, 2, none⟩ = some (.int .i64 X.st)
  c4 : W.cell? ⟨p, 4, none⟩ = some (.pointer (some ⟨pb, 0, none⟩))
  c9 : W.cell? ⟨p, 9, none⟩ = some (.bool X.due)
  f2 : W.frozen? ⟨p, 2, none⟩ = false
  f9 : W.frozen? ⟨p, 9, none⟩ = false
theorem Ql.stl (h : Ql w base p pb Ob X) (W : World) (k : Below w.heap.size w W) : Stl w base p pb Ob X W := by
  have h1 := h.below k
  exact ⟨by rw [h1.at_.cell]; rfl, h1.c4, by rw [h1.at_.cell]; rfl, h1.at_.frozen 2, h1.at_.frozen 9⟩
theorem q_lacksN (W : World) (s : Nat) (h2 : W.cell? ⟨p, 2, none⟩ = some (.int .i64 s)) (hk : s = 1 ∨ s = 2 ∨ s = 3 ∨ s = 4 ∨ s = 5 ∨ s = 6) : Calls Try.prog 40 #[.pointer (some ⟨p, 0, none⟩)] W fun e w' => e = .returned (.bool (decide (s ≤ 2))) ∧ w' = W := by
  rcases hk with hk | hk | hk | hk | hk | hk
  all_goals
    rw [hk] at h2 ⊢
    clear hk
    go_enter Try.func40, Try.ntmps40
    go_wp2
    go_ret
    exact ⟨rfl, rfl⟩
def SlPost (w : World) (base p pb : Nat) (Ob : Nat → Prop) (X' : QS) (W : World) : Prop := Ql W base p pb Ob X' ∧ Kept (· = p) w W
set_option maxHeartbeats 8000000 in
set_option maxRecDepth 100000 in
/-- settle, of a receiver that has its buffer. -/
theorem q_settle (h : Ql w base p pb Ob X) (hb : X.b.ok) (hst : X.st = 1 ∨ X.st = 2 ∨ X.st = 3 ∨ X.st = 4) : Calls Try.prog 28 #[.pointer (some ⟨p, 0, none⟩)] w fun e w' => e = .returned (.tuple #[]) ∧ SlPost w base p pb Ob (settleQ X) w' := by
  have HS : Hid (∀ W, Below w.heap.size w W → Stl w base p pb Ob X W) := Lib.hid h.stl
  have HLK : Hid (∀ W, Below w.heap.size w W → Calls Try.prog 40 #[.pointer (some ⟨p, 0, none⟩)] W fun e w' => e = .returned (.bool (decide (X.st ≤ 2))) ∧ w' = W) := Lib.hid (fun W k => q_lacksN W X.st (h.stl W k).c2 (by omega))
  have HSAME : Hid (settleQ X = X → ∀ W, Below w.heap.size w W → SlPost w base p pb Ob (settleQ X) W) := Lib.hid (fun e W k => by rw [e]; exact ⟨h.below k, Kept.of_below k _⟩)
  obtain ⟨cc2, cc4, cc9, ff2, ff9⟩ := h.stl w (Below.refl _ _)
  by_cases h3 : X.st ≤ 2
  · have HW := Lib.hid (iwhole_any base pb Ob X.b w h.bf hb (rdyS X.b) (rdyS_is hb))
    have HF : Hid (∀ W, Below w.heap.size w W → Calls Try.prog 42 #[.pointer (some ⟨pb, 0, none⟩)] W fun e w' => e = .returned (.tuple #[.int .u64 X.b.fi, .bool X.b.en]) ∧ ∃ d, w' = W.drewN d) := Lib.hid (fun W k => ifin_any (h.below k).bf)
    have hwb : (X.b.en && decide (X.b.rd + rdyS X.b = X.b.fi)) = wholeB X.b := rfl
    rw [hwb] at HW
    cases hw : wholeB X.b with
    | true =>
      have HL3 : Hid (∀ W, Below w.heap.size w W → Calls Try.prog 40 #[.pointer (some ⟨p, 0, none⟩)] (W.setCell ⟨p, 2, none⟩ (.int .i64 3)) fun e w' => e = .returned (.bool false) ∧ w' = W.setCell ⟨p, 2, none⟩ (.int .i64 3)) := Lib.hid (fun W k => q_lacksN _ 3 (by rw [((h.below k).at_.set 2 (.int .i64 3)).cell]; rfl) (by omega))
      have HE : Hid (∀ W, Below w.heap.size w W → SlPost w base p pb Ob (settleQ X) ((W.setCell ⟨p, 2, none⟩ (.int .i64 3)).setCell ⟨p, 9, none⟩ (.bool false))) := Lib.hid (fun W k => by
        have e : settleQ X = { X with st := 3, due := false } := by unfold settleQ; rw [if_pos h3, if_pos hw]
        rw [e]
        exact ⟨((h.below k).set (X' := { X with st := 3 }) 2 (.int .i64 3) rfl rfl).set (X' := { X with st := 3, due := false }) 9 (.bool false) rfl rfl, ((Kept.of_below k (· = p)).setCell (p := ⟨p, 2, none⟩) (.inl rfl) _).setCell (p := ⟨p, 9, none⟩) (.inl rfl) _⟩)
      rw [hw] at HW
      have hdl : decide (X.st ≤ 2) = true := by simpa using h3
      rw [hdl] at HLK
      clear h hb hst h3 HSAME HF hwb hw hdl
      generalize settleQ X = X2 at *
      cases hd : X.due
      all_goals
        rw [hd] at cc9
        go_enter Try.func28, Try.ntmps28
        go_wp2_with (first
          | (go_at_call 40; (with_reducible refine (HLK.out _ (Below.refl _ _)).mono ?_); rintro e w1 ⟨rfl, hw⟩; rw [hw]; clear hw)
          | (go_at_call 41; (with_reducible refine HW.out.mono ?_); rintro e w1 ⟨rfl, hB1⟩; have HB1 := Lib.hid hB1; obtain ⟨dd2, dd4, dd9, gg2, gg9⟩ := HS.out w1 hB1; rw [hd] at dd9; clear hB1)
          | (go_at_call 40; (with_reducible refine (HL3.out _ HB1.out).mono ?_); rintro e w2 ⟨rfl, hw⟩; rw [hw]; clear hw))
        go_end0
        exact ⟨rfl, HE.out _ HB1.out⟩
    | false =>
      have HE : Hid (∀ W, Below w.heap.size w W → X.b.en = true → SlPost w base p pb Ob (settleQ X) ((W.setCell ⟨p, 2, none⟩ (.int .i64 2)).setCell ⟨p, 9, none⟩ (.bool X.due))) := Lib.hid (fun W k he => by
        have e : settleQ X = { X with st := 2 } := by unfold settleQ; rw [if_pos h3, hw, he]; rfl
        rw [e]
        exact ⟨((h.below k).set (X' := { X with st := 2 }) 2 (.int .i64 2) rfl rfl).set (X' := { X with st := 2 }) 9 (.bool X.due) rfl rfl, ((Kept.of_below k (· = p)).setCell (p := ⟨p, 2, none⟩) (.inl rfl) _).setCell (p := ⟨p, 9, none⟩) (.inl rfl) _⟩)
      have HE0 : Hid (∀ W, Below w.heap.size w W → X.b.en = false → SlPost w base p pb Ob (settleQ X) (W.setCell ⟨p, 9, none⟩ (.bool X.due))) := Lib.hid (fun W k he => by
        have e : settleQ X = X := by unfold settleQ; rw [if_pos h3, hw, he]; rfl
        rw [e]
        exact ⟨(h.below k).set (X' := X) 9 (.bool X.due) rfl rfl, (Kept.of_below k (· = p)).setCell (p := ⟨p, 9, none⟩) (.inl rfl) _⟩)
      have HL2 : Hid (∀ W, Below w.heap.size w W → Calls Try.prog 40 #[.pointer (some ⟨p, 0, none⟩)] (W.setCell ⟨p, 2, none⟩ (.int .i64 2)) fun e w' => e = .returned (.bool true) ∧ w' = W.setCell ⟨p, 2, none⟩ (.int .i64 2)) := Lib.hid (fun W k => q_lacksN _ 2 (by rw [((h.below k).at_.set 2 (.int .i64 2)).cell]; rfl) (by omega))
      rw [hw] at HW
      have hdl : decide (X.st ≤ 2) = true := by simpa using h3
      rw [hdl] at HLK
      clear h hb hst h3 HSAME hwb hw hdl
      generalize settleQ X = X2 at *
      cases hd : X.due <;> cases hen : X.b.en
      all_goals
        rw [hd] at cc9 HE HE0
        rw [hen] at HF HE HE0
        go_enter Try.func28, Try.ntmps28
        go_wp2_with (first
          | (go_at_call 41; (with_reducible refine HW.out.mono ?_); rintro e w1 ⟨rfl, hB1⟩; have HB1 := Lib.hid hB1; have ee4 := (HS.out w1 hB1).c4; clear hB1)
          | (go_at_call 40; (with_reducible refine (HLK.out w (Below.refl _ _)).mono ?_); rintro e w1 ⟨rfl, hw⟩; rw [hw]; clear hw)
          | (go_at_call 42; (with_reducible refine (HF.out _ HB1.out).mono ?_); rintro e w2 ⟨rfl, d2, hw2⟩; have HB2 : Hid (Below w.heap.size w w2) := Lib.hid (by rw [hw2]; exact belowN HB1.out d2); clear hw2; obtain ⟨dd2, dd4, dd9, gg2, gg9⟩ := HS.out w2 HB2.out; rw [hd] at dd9)
          | (go_at_call 40; (with_reducible refine (HL2.out _ HB2.out).mono ?_); rintro e w3 ⟨rfl, hw⟩; rw [hw]; clear hw)
          | (go_at_call 40; (with_reducible refine (HLK.out _ HB2.out).mono ?_); rintro e w3 ⟨rfl, hw⟩; rw [hw]; clear hw))
        go_end0
        first
          | exact ⟨rfl, HE.out _ HB2.out (by first | rfl | trivial)⟩
          | exact ⟨rfl, HE0.out _ HB2.out (by first | rfl | trivial)⟩
  · have hdl : decide (X.st ≤ 2) = false := by simpa using h3
    have HZ := Lib.hid (HSAME.out (by unfold settleQ; rw [if_neg h3]) w (Below.refl _ _))
    rw [hdl] at HLK
    clear h hb hst h3 HSAME hdl
    generalize settleQ X = X2 at *
    go_enter Try.func28, Try.ntmps28
    go_wp2_with (go_at_call 40; (with_reducible refine (HLK.out _ (Below.refl _ _)).mono ?_); rintro e w1 ⟨rfl, hw⟩; rw [hw]; clear hw)
    (first | go_end0 | refine bodyPost_ret (results_none rfl _ _ _) rfl ?_)
    exact ⟨rfl, HZ.out⟩
end
end
end Go.Proofs.Ytahalbmcijbbmaa
