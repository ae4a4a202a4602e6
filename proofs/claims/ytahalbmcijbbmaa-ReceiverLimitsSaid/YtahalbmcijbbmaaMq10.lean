/-
  receiver.Receiver: Highest, Taken, sized, settle, Stop, Lost.
-/
import Derived.Test.YtahalbmcijbbmaaMq8
import Derived.Test.YtahalbmcijbbmaaMq9
import Derived.Deep.RegionHeld3
import Derived.Test.YtahalbmcijbbmaaProg
import Derived.Test.YtahalbmcijbbmaaStru
import Derived.Deep.RegionHeld
namespace Go.Proofs.Ytahalbmcijbbmaa
section
set_option linter.unusedVariables false
set_option linter.unusedSimpArgs false
open Go.RowKit
section
variable {w w' : World} {base p pb : Nat} {O Ob Ob' : Nat → Prop} {X X' : QS}
set_option maxHeartbeats 2000000 in
theorem q_high (h : Qp w base p O X) (ho : X.ok) : Calls Try.prog 8 #[.pointer (some ⟨p, 0, none⟩)] w fun e w' => e = .returned (.int .u64 (highQ X)) ∧ w' = w := by
  have h2 := h.c2
  have h6 := h.c6
  have hk := ho.st
  unfold highQ
  by_cases h5 : 5 ≤ X.st
  · rw [if_pos h5]
    have hk' : X.st = 5 ∨ X.st = 6 := by omega
    clear h ho hk h5
    rcases hk' with hk | hk
    all_goals
      rw [hk] at h2
      clear hk
      go_enter Try.func8, Try.ntmps8
      go_wp2
      go_ret
      exact ⟨rfl, rfl⟩
  · rw [if_neg h5]
    obtain ⟨pb, Ob, rfl, hl⟩ := h.live (by omega)
    have h4 := hl.c4
    have HH := Lib.hid (ihigh_any hl.bf)
    have hk' : X.st = 1 ∨ X.st = 2 ∨ X.st = 3 ∨ X.st = 4 := by omega
    clear h ho hk h5 hl
    rcases hk' with hk | hk | hk | hk
    all_goals
      rw [hk] at h2
      clear hk
      go_enter Try.func8, Try.ntmps8
      go_wp2_with (go_at_call 19; (with_reducible refine HH.out.mono ?_); rintro e w1 ⟨rfl, hw⟩; rw [hw]; clear hw)
      go_ret
      exact ⟨rfl, rfl⟩
set_option maxHeartbeats 2000000 in
theorem q_taken (h : Qp w base p O X) (ho : X.ok) : Calls Try.prog 10 #[.pointer (some ⟨p, 0, none⟩)] w fun e w' => e = .returned (.int .u64 (takenQ X)) ∧ w' = w := by
  have h2 := h.c2
  have h6 := h.c6
  have hk := ho.st
  unfold takenQ
  by_cases h5 : 5 ≤ X.st
  · rw [if_pos h5]
    have hk' : X.st = 5 ∨ X.st = 6 := by omega
    clear h ho hk h5
    rcases hk' with hk | hk
    all_goals
      rw [hk] at h2
      clear hk
      go_enter Try.func10, Try.ntmps10
      go_wp2
      go_ret
      exact ⟨rfl, rfl⟩
  · rw [if_neg h5]
    obtain ⟨pb, Ob, rfl, hl⟩ := h.live (by omega)
    have h4 := hl.c4
    have HH := Lib.hid (iread_any hl.bf)
    have hk' : X.st = 1 ∨ X.st = 2 ∨ X.st = 3 ∨ X.st = 4 := by omega
    clear h ho hk h5 hl
    rcases hk' with hk | hk | hk | hk
    all_goals
      rw [hk] at h2
      clear hk
      go_enter Try.func10, Try.ntmps10
      go_wp2_with (go_at_call 20; (with_reducible refine HH.out.mono ?_); rintro e w1 ⟨rfl, hw⟩; rw [hw]; clear hw)
      go_ret
      exact ⟨rfl, rfl⟩
/-- Where it ends, and is that known. -/
def sizedN (X : QS) : Nat := if 5 ≤ X.st then X.fin else X.b.fi
def sizedB (X : QS) : Bool := if 5 ≤ X.st then true else X.b.en
set_option maxHeartbeats 2000000 in
theorem q_sized (h : Qp w base p O X) (ho : X.ok) : Calls Try.prog 29 #[.pointer (some ⟨p, 0, none⟩)] w fun e w' => e = .returned (.tuple #[.int .u64 (sizedN X), .bool (sizedB X)]) ∧ ∃ d, w' = w.drewN d := by
  have h2 := h.c2
  have h6 := h.c6
  have hk := ho.st
  unfold sizedN sizedB
  by_cases h5 : 5 ≤ X.st
  · rw [if_pos h5, if_pos h5]
    have hk' : X.st = 5 ∨ X.st = 6 := by omega
    clear h ho hk h5
    rcases hk' with hk | hk
    all_goals
      rw [hk] at h2
      clear hk
      go_enter Try.func29, Try.ntmps29
      go_wp2
      go_ret2
      exact ⟨rfl, 0, rfl⟩
  · rw [if_neg h5, if_neg h5]
    obtain ⟨pb, Ob, rfl, hl⟩ := h.live (by omega)
    have h4 := hl.c4
    have HH := Lib.hid (ifin_any hl.bf)
    have hk' : X.st = 1 ∨ X.st = 2 ∨ X.st = 3 ∨ X.st = 4 := by omega
    clear h ho hk h5 hl
    rcases hk' with hk | hk | hk | hk
    all_goals
      rw [hk] at h2
      clear hk
      go_enter Try.func29, Try.ntmps29
      go_wp2_with (go_at_call 42; (with_reducible refine HH.out.mono ?_); rintro e w1 ⟨rfl, hw⟩; have HW := Lib.hid hw; clear hw)
      go_ret2
      exact ⟨rfl, HW.out⟩
/-- What settle needs of the worlds it meets. -/
structure Stl (w : World) (base p pb : Nat) (Ob : Nat → Prop) (X : QS) (W : World) : Prop where
  c2 : W.cell? ⟨p, 2, none⟩ = some (.int .i64 X.st)
  c4 : W.cell? ⟨p, 4, none⟩ = some (.pointer (some ⟨pb, 0, none⟩))
  c9 : W.cell? ⟨p, 9, none⟩ = some (.bool X.due)
  f2 : W.frozen? ⟨p, 2, none⟩ = false
  f9 : W.frozen? ⟨p, 9, none⟩ = false
theorem Ql.stl (h : Ql w base p pb Ob X) (W : World) (k : Below w.heap.size w W) : Stl w base p pb Ob X W := by
  have h1 := h.below k
  exact ⟨by rw [h1.at_.cell]; rfl, h1.c4, by rw [h1.at_.cell]; rfl, h1.at_.frozen 2, h1.at_.frozen 9⟩
theorem q_lacksN (W : World) (s : Nat) (h2 : W.cell? ⟨p, 2, none⟩ = some (.int .i64 s)) (hk : s = 1 ∨ s = 2 ∨ s = 3 ∨ s = 4 ∨ s = 5 ∨ s = 6) : Calls Try.prog 40 #[.pointer (some ⟨p, 0, none⟩)] W fun e w' => e = .returned (.bool (decide (s ≤ 2))) ∧ w' = W := by
  rcases hk with hk | hk | hk | hk | hk | hk
  all_goals
    rw [hk] at h2 ⊢
    clear hk
    go_enter Try.func40, Try.ntmps40
    go_wp2
    go_ret
    exact ⟨rfl, rfl⟩
def SlPost (w : World) (base p pb : Nat) (Ob : Nat → Prop) (X' : QS) (W : World) : Prop := Ql W base p pb Ob X' ∧ Kept (· = p) w W
set_option maxHeartbeats 8000000 in
set_option maxRecDepth 100000 in
/-- settle, of a receiver that has its buffer. -/
theorem q_settle (h : Ql w base p pb Ob X) (hb : X.b.ok) (hst : X.st = 1 ∨ X.st = 2 ∨ X.st = 3 ∨ X.st = 4) : Calls Try.prog 28 #[.pointer (some ⟨p, 0, none⟩)] w fun e w' => e = .returned (.tuple #[]) ∧ SlPost w base p pb Ob (settleQ X) w' := by
  have HS : Hid (∀ W, Below w.heap.size w W → Stl w base p pb Ob X W) := Lib.hid h.stl
  have HLK : Hid (∀ W, Below w.heap.size w W → Calls Try.prog 40 #[.pointer (some ⟨p, 0, none⟩)] W fun e w' => e = .returned (.bool (decide (X.st ≤ 2))) ∧ w' = W) := Lib.hid (fun W k => q_lacksN W X.st (h.stl W k).c2 (by omega))
  have HSAME : Hid (settleQ X = X → ∀ W, Below w.heap.size w W → SlPost w base p pb Ob (settleQ X) W) := Lib.hid (fun e W k => by rw [e]; exact ⟨h.below k, Kept.of_below k _⟩)
  obtain ⟨cc2, cc4, cc9, ff2, ff9⟩ := h.stl w (Below.refl _ _)
  by_cases h3 : X.st ≤ 2
  · have HW := Lib.hid (iwhole_any base pb Ob X.b w h.bf hb (rdyS X.b) (rdyS_is hb))
    have HF : Hid (∀ W, Below w.heap.size w W → Calls Try.prog 42 #[.pointer (some ⟨pb, 0, none⟩)] W fun e w' => e = .returned (.tuple #[.int .u64 X.b.fi, .bool X.b.en]) ∧ ∃ d, w' = W.drewN d) := Lib.hid (fun W k => ifin_any (h.below k).bf)
    have hwb : (X.b.en && decide (X.b.rd + rdyS X.b = X.b.fi)) = wholeB X.b := rfl
    rw [hwb] at HW
    cases hw : wholeB X.b with
    | true =>
      have HL3 : Hid (∀ W, Below w.heap.size w W → Calls Try.prog 40 #[.pointer (some ⟨p, 0, none⟩)] (W.setCell ⟨p, 2, none⟩ (.int .i64 3)) fun e w' => e = .returned (.bool false) ∧ w' = W.setCell ⟨p, 2, none⟩ (.int .i64 3)) := Lib.hid (fun W k => q_lacksN _ 3 (by rw [((h.below k).at_.set 2 (.int .i64 3)).cell]; rfl) (by omega))
      have HE : Hid (∀ W, Below w.heap.size w W → SlPost w base p pb Ob (settleQ X) ((W.setCell ⟨p, 2, none⟩ (.int .i64 3)).setCell ⟨p, 9, none⟩ (.bool false))) := Lib.hid (fun W k => by
        have e : settleQ X = { X with st := 3, due := false } := by unfold settleQ; rw [if_pos h3, if_pos hw]
        rw [e]
        exact ⟨((h.below k).set (X' := { X with st := 3 }) 2 (.int .i64 3) rfl rfl).set (X' := { X with st := 3, due := false }) 9 (.bool false) rfl rfl, ((Kept.of_below k (· = p)).setCell (p := ⟨p, 2, none⟩) (.inl rfl) _).setCell (p := ⟨p, 9, none⟩) (.inl rfl) _⟩)
      rw [hw] at HW
      have hdl : decide (X.st ≤ 2) = true := by simpa using h3
      rw [hdl] at HLK
      clear h hb hst h3 HSAME HF hwb hw hdl
      generalize settleQ X = X2 at *
      cases hd : X.due
      all_goals
        rw [hd] at cc9
        go_enter Try.func28, Try.ntmps28
        go_wp2_with (first
          | (go_at_call 40; (with_reducible refine (HLK.out _ (Below.refl _ _)).mono ?_); rintro e w1 ⟨rfl, hw⟩; rw [hw]; clear hw)
          | (go_at_call 41; (with_reducible refine HW.out.mono ?_); rintro e w1 ⟨rfl, hB1⟩; have HB1 := Lib.hid hB1; obtain ⟨dd2, dd4, dd9, gg2, gg9⟩ := HS.out w1 hB1; rw [hd] at dd9; clear hB1)
          | (go_at_call 40; (with_reducible refine (HL3.out _ HB1.out).mono ?_); rintro e w2 ⟨rfl, hw⟩; rw [hw]; clear hw))
        go_end0
        exact ⟨rfl, HE.out _ HB1.out⟩
    | false =>
      have HE : Hid (∀ W, Below w.heap.size w W → X.b.en = true → SlPost w base p pb Ob (settleQ X) ((W.setCell ⟨p, 2, none⟩ (.int .i64 2)).setCell ⟨p, 9, none⟩ (.bool X.due))) := Lib.hid (fun W k he => by
        have e : settleQ X = { X with st := 2 } := by unfold settleQ; rw [if_pos h3, hw, he]; rfl
        rw [e]
        exact ⟨((h.below k).set (X' := { X with st := 2 }) 2 (.int .i64 2) rfl rfl).set (X' := { X with st := 2 }) 9 (.bool X.due) rfl rfl, ((Kept.of_below k (· = p)).setCell (p := ⟨p, 2, none⟩) (.inl rfl) _).setCell (p := ⟨p, 9, none⟩) (.inl rfl) _⟩)
      have HE0 : Hid (∀ W, Below w.heap.size w W → X.b.en = false → SlPost w base p pb Ob (settleQ X) (W.setCell ⟨p, 9, none⟩ (.bool X.due))) := Lib.hid (fun W k he => by
        have e : settleQ X = X := by unfold settleQ; rw [if_pos h3, hw, he]; rfl
        rw [e]
        exact ⟨(h.below k).set (X' := X) 9 (.bool X.due) rfl rfl, (Kept.of_below k (· = p)).setCell (p := ⟨p, 9, none⟩) (.inl rfl) _⟩)
      have HL2 : Hid (∀ W, Below w.heap.size w W → Calls Try.prog 40 #[.pointer (some ⟨p, 0, none⟩)] (W.setCell ⟨p, 2, none⟩ (.int .i64 2)) fun e w' => e = .returned (.bool true) ∧ w' = W.setCell ⟨p, 2, none⟩ (.int .i64 2)) := Lib.hid (fun W k => q_lacksN _ 2 (by rw [((h.below k).at_.set 2 (.int .i64 2)).cell]; rfl) (by omega))
      rw [hw] at HW
      have hdl : decide (X.st ≤ 2) = true := by simpa using h3
      rw [hdl] at HLK
      clear h hb hst h3 HSAME hwb hw hdl
      generalize settleQ X = X2 at *
      cases hd : X.due <;> cases hen : X.b.en
      all_goals
        rw [hd] at cc9 HE HE0
        rw [hen] at HF HE HE0
        go_enter Try.func28, Try.ntmps28
        go_wp2_with (first
          | (go_at_call 41; (with_reducible refine HW.out.mono ?_); rintro e w1 ⟨rfl, hB1⟩; have HB1 := Lib.hid hB1; have ee4 := (HS.out w1 hB1).c4; clear hB1)
          | (go_at_call 40; (with_reducible refine (HLK.out w (Below.refl _ _)).mono ?_); rintro e w1 ⟨rfl, hw⟩; rw [hw]; clear hw)
          | (go_at_call 42; (with_reducible refine (HF.out _ HB1.out).mono ?_); rintro e w2 ⟨rfl, d2, hw2⟩; have HB2 : Hid (Below w.heap.size w w2) := Lib.hid (by rw [hw2]; exact belowN HB1.out d2); clear hw2; obtain ⟨dd2, dd4, dd9, gg2, gg9⟩ := HS.out w2 HB2.out; rw [hd] at dd9)
          | (go_at_call 40; (with_reducible refine (HL2.out _ HB2.out).mono ?_); rintro e w3 ⟨rfl, hw⟩; rw [hw]; clear hw)
          | (go_at_call 40; (with_reducible refine (HLK.out _ HB2.out).mono ?_); rintro e w3 ⟨rfl, hw⟩; rw [hw]; clear hw))
        go_end0
        first
          | exact ⟨rfl, HE.out _ HB2.out (by first | rfl | trivial)⟩
          | exact ⟨rfl, HE0.out _ HB2.out (by first | rfl | trivial)⟩
  · have hdl : decide (X.st ≤ 2) = false := by simpa using h3
    have HZ := Lib.hid (HSAME.out (by unfold settleQ; rw [if_neg h3]) w (Below.refl _ _))
    rw [hdl] at HLK
    clear h hb hst h3 HSAME hdl
    generalize settleQ X = X2 at *
    go_enter Try.func28, Try.ntmps28
    go_wp2_with (go_at_call 40; (with_reducible refine (HLK.out _ (Below.refl _ _)).mono ?_); rintro e w1 ⟨rfl, hw⟩; rw [hw]; clear hw)
    (first | go_end0 | refine bodyPost_ret (results_none rfl _ _ _) rfl ?_)
    exact ⟨rfl, HZ.out⟩
end
end
section
set_option linter.unusedVariables false
set_option linter.unusedSimpArgs false
open Go.RowKit
theorem results_tmp4q {fn : Func} {t u v x : Tmp} (h : fn.results = #[.tmp t, .tmp u, .tmp v, .tmp x]) (tmps : Array Value) (P : Program) (w : World) :
    (results fn tmps).run P w = .ok (.tuple #[tmps.getD t undef, tmps.getD u undef, tmps.getD v undef, tmps.getD x undef]) w := by
  simp [results, h]
/-- What Read leaves. -/
def RQPost (base p : Nat) (O : Nat → Prop) (X : QS) (most : Int) (w : World) (e : Ending) (w' : World) : Prop :=
  ∃ v, e = .returned (.tuple #[v, .bool (readQ X most).fl, .int .u64 (readQ X most).cd, .int .i64 (readQ X most).er]) ∧ Own w' w.heap.size 5 v (readQ X most).bs ∧ ∃ O', Qp w' base p O' (readX X most) ∧ Kept O w w' ∧ ∀ j, O' j → O j ∨ w.heap.size ≤ j
section
variable {w w' : World} {base p pb : Nat} {O Ob Ob' : Nat → Prop} {X X' : QS}
set_option maxHeartbeats 8000000 in
set_option maxRecDepth 100000 in
theorem q_read (h : Qp w base p O X) (ho : X.ok) (hb : base ≤ w.heap.size) (most : Int) (hm : -9223372036854775808 ≤ most ∧ most < 9223372036854775808) :
    Calls Try.prog 15 #[.pointer (some ⟨p, 0, none⟩), .int .i64 most] w (RQPost base p O X most w) := by
  have c2 := h.c2
  have c5 := h.c5
  have f2 := h.fz 2
  by_cases h5 : X.st = 5
  · have e1 : readQ X most = ⟨false, X.code, 29, []⟩ := by unfold readQ; rw [if_pos h5]
    have e2 : readX X most = { X with st := 6 } := by unfold readX; rw [if_pos h5]
    have HE : Hid (∀ d, RQPost base p O X most w (.returned (.tuple #[.slice none 0 0, .bool false, .int .u64 X.code, .int .i64 29])) ((w.setCell ⟨p, 2, none⟩ (.int .i64 6)).drewN d)) := Lib.hid (fun d => by
      obtain ⟨rfl, hd⟩ := h.dead (by omega)
      unfold RQPost
      rw [e1, e2]
      refine ⟨_, rfl, Own.none_ _ _ _, _, .inr ⟨by show 5 ≤ 6; omega, rfl, (hd.set (X' := { X with st := 6 }) 2 (.int .i64 6) rfl).drewN d⟩, ?_, fun j hj => .inl hj⟩
      exact (((Kept.refl (pOb p fun _ => False) w).setCell (p := ⟨p, 2, none⟩) (.inl (.inl rfl)) _).drewN d))
    have d5 : (w.setCell ⟨p, 2, none⟩ (.int .i64 6)).cell? ⟨p, 5, none⟩ = some (.int .u64 X.code) := by
      obtain ⟨pin, ha⟩ := h.at_
      rw [(ha.set 2 (.int .i64 6)).cell]; rfl
    rw [h5] at c2
    clear h ho hb e1 e2 h5
    go_enter Try.func15, Try.ntmps15
    go_wp2
    go_quiet (fail)
    go_wp2
    refine bodyPost_ret (results_tmp4q rfl _ _ _) rfl ?_
    exact HE.out _
  · by_cases h46 : X.st = 4 ∨ X.st = 6
    · have e1 : readQ X most = ⟨false, 0, 24, []⟩ := by unfold readQ; rw [if_neg h5, if_pos h46]
      have e2 : readX X most = X := by unfold readX; rw [if_neg h5, if_pos h46]
      have HE : Hid (∀ d, RQPost base p O X most w (.returned (.tuple #[.slice none 0 0, .bool false, .int .u64 0, .int .i64 24])) (w.drewN d)) := Lib.hid (fun d => by
        unfold RQPost
        rw [e1, e2]
        exact ⟨_, rfl, Own.none_ _ _ _, _, h.drewN d, (Kept.refl _ _).drewN d, fun j hj => .inl hj⟩)
      clear h ho hb e1 e2 h5
      rcases h46 with h4 | h4
      all_goals
        rw [h4] at c2
        clear h4
        go_enter Try.func15, Try.ntmps15
        go_wp2
        refine bodyPost_ret (results_tmp4q rfl _ _ _) rfl ?_
        exact HE.out 0
    · obtain ⟨pb, Ob, rfl, hl⟩ := h.live (by have := ho.st; omega)
      have c4 := hl.c4
      have hr := rdyS_is ho.b
      have HT := Lib.hid (itake_any base pb Ob X.b most w hl.bf ho.b hb hm (rdyS X.b) hr)
      obtain ⟨n, hn⟩ : ∃ n, n = min most.toNat (rdyS X.b) := ⟨_, rfl⟩
      have hk : X.st = 1 ∨ X.st = 2 ∨ X.st = 3 := by have := ho.st; omega
      rw [← hn] at HT
      have hol : ∀ n, (outB X.b.g X.b.rd n).length = n := outB_len _ _
      have e2 : readX X most = { X with b := takeS X.b n, st := if (X.b.en && decide (X.b.rd + n = X.b.fi)) = true then 4 else X.st } := by unfold readX; rw [if_neg h5, if_neg h46, ← hn]
      have HE1 : Hid (∀ (v : Value) (W : World) (Ob' : Nat → Prop) (d : Nat), Own W w.heap.size 5 v (outB X.b.g X.b.rd n) → Bf W base pb Ob' (takeS X.b n) → Kept Ob w W → (∀ j, Ob' j → Ob j ∨ w.heap.size ≤ j) →
          ((n = 0 ∧ (X.b.en && decide (X.b.rd + n = X.b.fi)) = false → RQPost base p (pOb p Ob) X most w (.returned (.tuple #[.slice none 0 0, .bool false, .int .u64 0, .int .i64 26])) (W.drewN d)) ∧
           (0 < n → (X.b.en && decide (X.b.rd + n = X.b.fi)) = false → RQPost base p (pOb p Ob) X most w (.returned (.tuple #[v, .bool false, .int .u64 0, .int .i64 0])) (W.drewN d)) ∧
           ((X.b.en && decide (X.b.rd + n = X.b.fi)) = true → RQPost base p (pOb p Ob) X most w (.returned (.tuple #[v, .bool true, .int .u64 0, .int .i64 0])) ((W.setCell ⟨p, 2, none⟩ (.int .i64 4)).drewN d)) ∧
           W.cell? ⟨p, 2, none⟩ = some (.int .i64 X.st) ∧ W.frozen? ⟨p, 2, none⟩ = false)) := Lib.hid (by
        intro v W Ob' d h1 h2 h3 h4
        have hl' := hl.step h2 h3 h4
        have hst5 : X.st < 5 := by omega
        refine ⟨?_, ?_, ?_, by rw [hl'.at_.cell]; rfl, hl'.at_.frozen 2⟩
        · rintro ⟨n0, hen⟩
          unfold RQPost
          rw [e2, hen]
          have e1 : readQ X most = ⟨false, 0, 26, []⟩ := by unfold readQ; rw [if_neg h5, if_neg h46, ← hn, if_pos ⟨n0, by rw [n0, Nat.add_zero] at hen; exact hen⟩]
          rw [e1]
          exact ⟨_, rfl, Own.none_ _ _ _, _, .inl ⟨hst5, _, _, rfl, hl'.drewN d⟩, (h3.mono fun j hj => .inl (.inr hj)).drewN d, fun j hj => hj.elim (fun e => .inl (.inl e)) fun e => (h4 j e).imp .inr id⟩
        · intro n0 hen
          unfold RQPost
          have e1 : readQ X most = ⟨false, 0, 0, outB X.b.g X.b.rd n⟩ := by unfold readQ; rw [if_neg h5, if_neg h46, ← hn, if_neg (by omega), hen]
          rw [e1, e2, hen]
          exact ⟨_, rfl, h1, _, .inl ⟨hst5, _, _, rfl, hl'.drewN d⟩, (h3.mono fun j hj => .inl (.inr hj)).drewN d, fun j hj => hj.elim (fun e => .inl (.inl e)) fun e => (h4 j e).imp .inr id⟩
        · intro hen
          unfold RQPost
          have e1 : readQ X most = ⟨true, 0, 0, outB X.b.g X.b.rd n⟩ := by
            unfold readQ
            rw [if_neg h5, if_neg h46, ← hn, if_neg, hen]
            rintro ⟨n0, hc⟩
            rw [n0, Nat.add_zero] at hen
            rw [hen] at hc
            cases hc
          rw [e1, e2, hen]
          have hl2 := hl'.set (X' := { X with b := takeS X.b n, st := 4 }) 2 (.int .i64 4) rfl rfl
          have hk2 : Kept (pOb p Ob) w (W.setCell ⟨p, 2, none⟩ (.int .i64 4)) := (h3.mono fun j hj => .inl (.inr hj)).setCell (p := ⟨p, 2, none⟩) (.inl (.inl rfl)) _
          refine ⟨_, rfl, ?_, _, .inl ⟨by show 4 < 5; omega, _, _, rfl, hl2.drewN d⟩, hk2.drewN d, fun j hj => hj.elim (fun e => .inl (.inl e)) fun e => (h4 j e).imp .inr id⟩
          have hp := hl.at_.lt
          exact h1.keep fun j hj => by
            have := (h1.block_lt j hj).1
            exact Below.heap_setCell W ⟨p, 2, none⟩ (.int .i64 4) j (fun e => by have e' : j = p := e; omega))
      have HOL := Lib.hid (hol n)
      clear h ho hb e2 h5 h46 hl hr hn hol
      rcases hk with hk | hk | hk
      all_goals
        rw [hk] at c2
        rw [hk] at HE1
        clear hk
        cases hen : (X.b.en && decide (X.b.rd + n = X.b.fi)) with
        | false =>
          unfold TPost at HT
          rw [hen] at HT HE1
          rcases Nat.eq_zero_or_pos n with hn0 | hn0
          · subst hn0
            go_enter Try.func15, Try.ntmps15
            go_wp2_with (go_at_call 25; (with_reducible refine HT.out.mono ?_); rintro e w1 ⟨v, rfl, ho1, Ob', hb1, hk1, ho2⟩; have HX := Lib.hid (HE1.out v w1 Ob' 0 ho1 hb1 hk1 ho2); obtain ⟨A1, c1, rfl, _, _, _⟩ := ho1.open_; rw [HOL.out]; clear ho1 hb1 hk1 ho2)
            refine bodyPost_ret (results_tmp4q rfl _ _ _) rfl ?_
            exact HX.out.1 ⟨by first | rfl | trivial, by first | rfl | trivial⟩
          · have hnz : ((n : Int) == 0) = false := by simp; omega
            go_enter Try.func15, Try.ntmps15
            go_wp2_with (go_at_call 25; (with_reducible refine HT.out.mono ?_); rintro e w1 ⟨v, rfl, ho1, Ob', hb1, hk1, ho2⟩; have HX := Lib.hid (HE1.out v w1 Ob' 0 ho1 hb1 hk1 ho2); obtain ⟨A1, c1, e1, _, _, _⟩ := ho1.open_; rw [HOL.out] at e1; subst e1; clear ho1 hb1 hk1 ho2)
            refine bodyPost_ret (results_tmp4q rfl _ _ _) rfl ?_
            exact HX.out.2.1 hn0 (by first | rfl | trivial)
        | true =>
          unfold TPost at HT
          rw [hen] at HT HE1
          rcases Nat.eq_zero_or_pos n with hn0 | hn0
          · subst hn0
            go_enter Try.func15, Try.ntmps15
            go_wp2_with (go_at_call 25; (with_reducible refine HT.out.mono ?_); rintro e w1 ⟨v, rfl, ho1, Ob', hb1, hk1, ho2⟩; have HX := Lib.hid (HE1.out v w1 Ob' 0 ho1 hb1 hk1 ho2); obtain ⟨A1, c1, e1, _, _, _⟩ := ho1.open_; rw [HOL.out] at e1; subst e1; have gg2 := HX.out.2.2.2.1; have gf2 := HX.out.2.2.2.2; clear ho1 hb1 hk1 ho2)
            refine bodyPost_ret (results_tmp4q rfl _ _ _) rfl ?_
            exact HX.out.2.2.1 (by first | rfl | trivial)
          · have hnz : ((n : Int) == 0) = false := by simp; omega
            go_enter Try.func15, Try.ntmps15
            go_wp2_with (go_at_call 25; (with_reducible refine HT.out.mono ?_); rintro e w1 ⟨v, rfl, ho1, Ob', hb1, hk1, ho2⟩; have HX := Lib.hid (HE1.out v w1 Ob' 0 ho1 hb1 hk1 ho2); obtain ⟨A1, c1, e1, _, _, _⟩ := ho1.open_; rw [HOL.out] at e1; subst e1; have gg2 := HX.out.2.2.2.1; have gf2 := HX.out.2.2.2.2; clear ho1 hb1 hk1 ho2)
            refine bodyPost_ret (results_tmp4q rfl _ _ _) rfl ?_
            exact HX.out.2.2.1 (by first | rfl | trivial)
end
end
section
set_option linter.unusedVariables false
set_option linter.unusedSimpArgs false
open Go.RowKit
theorem tk_dst {P : Program} {md : Region.Mode} {ops : Array Oper} {Q : Exit → Act → World → Prop} {S : World → Prop} {i : Nat} {oi : Oper} {dst : Option Tmp} {v : Value} {fuel : Nat} {listed : Array Bool} {a : Act} {w : World} (hi : ops[i]? = some oi) (hd : oi.dst = dst)
    (hs : Region.noSelect ops = true) (hf : Region.free md ops listed i = true) (hr : (Region.ready md ops listed).contains i = true)
    (hQ : ∀ c a w, Q (.panic c) (a.put dst v) w → Q (.panic c) a w) (hy : YieldsIf P ops S oi v a) (hS : S w)
    (h : wpAnyH P md ops Q S fuel (listed.setIfInBounds i true) (a.put dst v) w) : wpAnyH P md ops Q S (fuel + 1) listed a w := by
  subst hd
  exact wpAnyH_take hi hs hf hr hQ hy hS h
theorem yl_any {P : Program} {ops : Array Oper} {S : World → Prop} {op : Oper} {a : Act} (ty : TypeId) (x : Operand) (ho : op.op = .load ty x) (b o : Nat) (hx : a.eval x = .pointer (some ⟨b, o, none⟩)) (L : List Value) (d : TypeDesc) (hS : ∀ w, S w → w.rangeAt b o L)
    (hu : P.underlying ty = some d) (hd : d.isRow = true) (hi : (P.info? ty).map (·.size) = some L.length) (hw : Region.wanted op (yielded ops a.tmps) = true) : YieldsIf P ops S op (.agg L.toArray) a :=
  yieldsIf_load_mid hw _ x ho b o hx L _ hS hu hd hi
theorem step_st_any {P : Program} {ops : Array Oper} {a : Act} {w : World} {K : Act → World → Prop} {Q : Exit → Act → World → Prop} {E : Prop} {dst : Option Tmp} {x y : Operand} {ty t : TypeId} {pos : String} {after : Array Edge} {g : Option (Nat × Bool)}
    (hg : Region.wanted ⟨dst, .store ty x y, t, pos, after, g⟩ (yielded ops a.tmps) = true) (p : Nat) (T : TypeId) (l l' : List Value) (hx : a.eval x = .pointer (some ⟨p, 0, none⟩)) (hy : a.eval y = .agg l'.toArray) (hA : At w p T l) (hl : l.length = l'.length)
    (hi : (P.info? ty).map (·.size) = some l'.length) (h1 : l'.all (·.oneCell') = true) (h : ∀ w', At w' p T l' → Kept (· = p) w w' → K (a.put dst undef) w') :
    if Region.wanted ⟨dst, .store ty x y, t, pos, after, g⟩ (yielded ops a.tmps) = true then Oper.wp P ⟨dst, .store ty x y, t, pos, after, g⟩ a w K Q else E := by
  rw [if_pos hg]
  refine wp_store_mid _ x y rfl p 0 l'.toArray hx hy (by simpa using hA.there _ (by omega)) (by simpa using hi) (by simpa using h1) ?_
  have := At.setFrom l' l 0 w hA
  rw [setFrom_all l l' hl] at this
  exact h _ (by simpa using this) (by simpa using Kept.setCells (S := (· = p)) rfl l' 0 w (Kept.refl _ _))
end
section
set_option linter.unusedVariables false
open Go.RowKit
theorem tkq {P : Program} {md : Region.Mode} {ops : Array Oper} {Q : Exit → Act → World → Prop} {S : World → Prop} (i : Nat) (dst : Option Tmp) {oi : Oper} {v : Value} {fuel : Nat} {listed : Array Bool} {a : Act} {w : World} (hi : ops[i]? = some oi)
    (hy : YieldsIf P ops S oi v a) (hS : S w) (h : wpAnyH P md ops Q S fuel (listed.setIfInBounds i true) (a.put dst v) w)
    (hd : oi.dst = dst := by rfl) (hs : Region.noSelect ops = true := by kernel_rfl) (hf : Region.free md ops listed i = true := by kernel_rfl) (hr : (Region.ready md ops listed).contains i = true := by kernel_rfl)
    (hQ : ∀ c a w, Q (.panic c) (a.put dst v) w → Q (.panic c) a w := by exact fun _ _ _ h => h) : wpAnyH P md ops Q S (fuel + 1) listed a w :=
  tk_dst hi hd hs hf hr hQ hy hS h
end
end Go.Proofs.Ytahalbmcijbbmaa
