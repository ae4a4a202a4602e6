/-
  inbuf.Buffer behind a pointer: what it holds (Bc, Bf); New, Read, Highest, Final, against.
-/
import Derived.Test.YtndaikeeikimeaaMq14
import Derived.Test.YtndaikeeikimeaaMq6
import Derived.Test.YtndaikeeikimeaaMq3
import Derived.BigRegion
import Derived.BigQuiet
import Derived.Deep.RegionHeld3
import Derived.Test.YtndaikeeikimeaaQk
import Derived.StillTailTactics
namespace Go.Proofs.Ytndaikeeikimeaa
section
set_option linter.unusedVariables false
set_option linter.unusedSimpArgs false
open Go.RowKit
structure Bc (w : World) (base p ps : Nat) (vs vw : Value) (l : RL) (W : List Int) (S : BS) : Prop where
  at_ : At w p 83 [.int .u64 S.rd, .int .u64 S.hi, .int .u64 S.fi, .bool S.en, .pointer (some ⟨ps, 0, none⟩), vw]
  set_ : SetV w base ps 2048 vs l
  own : Own w base 5 vw W
  n1 : p ≠ ps
  n2 : vs.ownBlock ≠ some p
  n3 : vw.ownBlock ≠ some p
  n4 : vw.ownBlock ≠ some ps
  n5 : ∀ k, vs.ownBlock = some k → vw.ownBlock ≠ some k
  bp : base ≤ p
  pm : Pm S.rd l W S.g
/-- The blocks of a buffer. -/
def bO (p ps : Nat) (vs vw : Value) : Nat → Prop := fun b => b = p ∨ b = ps ∨ vs.ownBlock = some b ∨ vw.ownBlock = some b
section
variable {w w' : World} {base p ps : Nat} {vs vw : Value} {l : RL} {W : List Int} {S : BS}
theorem Bc.lt (h : Bc w base p ps vs vw l W S) : ∀ b, bO p ps vs vw b → base ≤ b ∧ b < w.heap.size := by
  rintro b (rfl | rfl | hb | hb)
  · exact ⟨h.bp, h.at_.lt⟩
  · exact ⟨h.set_.bp, h.set_.at_.lt⟩
  · exact h.set_.own.lt b hb
  · exact h.own.block_lt b hb
theorem Bc.kept {T : Nat → Prop} (h : Bc w base p ps vs vw l W S) (k : Kept T w w') (hs : ∀ b, bO p ps vs vw b → ¬ T b) : Bc w' base p ps vs vw l W S :=
  { h with
    at_ := h.at_.kept k (hs p (.inl rfl))
    set_ := h.set_.kept k (hs ps (.inr (.inl rfl))) fun j hj => hs j (.inr (.inr (.inl hj)))
    own := h.own.kept k fun j hj => hs j (.inr (.inr (.inr hj))) }
theorem Bc.drewN (h : Bc w base p ps vs vw l W S) (n : Nat) : Bc (w.drewN n) base p ps vs vw l W S := h.kept ((Kept.refl (fun _ => False) w).drewN n) fun _ _ h => h
theorem Bc.c0 (h : Bc w base p ps vs vw l W S) : w.cell? ⟨p, 0, none⟩ = some (.int .u64 S.rd) := by rw [h.at_.cell]; rfl
theorem Bc.c1 (h : Bc w base p ps vs vw l W S) : w.cell? ⟨p, 1, none⟩ = some (.int .u64 S.hi) := by rw [h.at_.cell]; rfl
theorem Bc.c2 (h : Bc w base p ps vs vw l W S) : w.cell? ⟨p, 2, none⟩ = some (.int .u64 S.fi) := by rw [h.at_.cell]; rfl
theorem Bc.c3 (h : Bc w base p ps vs vw l W S) : w.cell? ⟨p, 3, none⟩ = some (.bool S.en) := by rw [h.at_.cell]; rfl
theorem Bc.c4 (h : Bc w base p ps vs vw l W S) : w.cell? ⟨p, 4, none⟩ = some (.pointer (some ⟨ps, 0, none⟩)) := by rw [h.at_.cell]; rfl
theorem Bc.c5 (h : Bc w base p ps vs vw l W S) : w.cell? ⟨p, 5, none⟩ = some vw := by rw [h.at_.cell]; rfl
end
/-- A buffer, and the blocks that it has. -/
def Bf (w : World) (base p : Nat) (O : Nat → Prop) (S : BS) : Prop := ∃ ps vs vw l W, O = bO p ps vs vw ∧ Bc w base p ps vs vw l W S
section
variable {w w' : World} {base p : Nat} {O : Nat → Prop} {S : BS}
theorem Bf.lt (h : Bf w base p O S) : ∀ b, O b → base ≤ b ∧ b < w.heap.size := by
  obtain ⟨ps, vs, vw, l, W, rfl, h⟩ := h
  exact h.lt
theorem Bf.kept {T : Nat → Prop} (h : Bf w base p O S) (k : Kept T w w') (hs : ∀ b, O b → ¬ T b) : Bf w' base p O S := by
  obtain ⟨ps, vs, vw, l, W, rfl, h⟩ := h
  exact ⟨ps, vs, vw, l, W, rfl, h.kept k hs⟩
theorem Bf.below (h : Bf w base p O S) (k : Below w.heap.size w w') : Bf w' base p O S := h.kept (Kept.of_below k (fun _ => False)) fun _ _ h => h
theorem Bf.drewN (h : Bf w base p O S) (n : Nat) : Bf (w.drewN n) base p O S := h.kept ((Kept.refl (fun _ => False) w).drewN n) fun _ _ h => h
end
/-- What a call that changes a buffer leaves. -/
def BPost (r : Value) (base p : Nat) (O : Nat → Prop) (S' : BS) (w : World) (e : Ending) (w' : World) : Prop :=
  e = .returned r ∧ ∃ O', Bf w' base p O' S' ∧ Kept O w w' ∧ ∀ j, O' j → O j ∨ w.heap.size ≤ j
/-- What New leaves. -/
def INew (w : World) (e : Ending) (w' : World) : Prop := ∃ p, e = .returned (.pointer (some ⟨p, 0, none⟩)) ∧ (∃ O, Bf w' w.heap.size p O bs0) ∧ Below w.heap.size w w'
set_option maxRecDepth 100000 in
theorem inew_any (w : World) : Calls Try.prog 39 #[] w (INew w) := by
  have HN := Lib.hid (new_any 2048 w (by omega))
  have HF : Hid (∀ w1, SetV w1 w.heap.size w.heap.size 2048 (.slice none 0 0) [] → Below w.heap.size w w1 → ∃ O, Bf (w1.alloc (.cells #[.int .u64 0, .int .u64 0, .int .u64 0, .bool false, .pointer (some ⟨w.heap.size, 0, none⟩), .slice none 0 0] 83)) w.heap.size w1.heap.size O bs0) := Lib.hid (by
    intro w1 hs hb
    have hlt := hs.at_.lt
    refine ⟨_, w.heap.size, .slice none 0 0, .slice none 0 0, [], [], rfl, ⟨At.new w1 _ _, hs.kept ((Kept.refl (fun _ => False) w1).alloc _) (fun h => h) (fun _ _ h => h), Own.none_ _ _ _, by omega, (by intro h; cases h), (by intro h; cases h), (by intro h; cases h), (by intro k h; cases h), hb.size, pm0⟩⟩)
  go_enter Try.func39, Try.ntmps39
  go_wp2_with (go_at_call 45; refine HN.out.mono ?_; rintro e w1 ⟨rfl, hs1, hb1⟩; have HO := Lib.hid (HF.out w1 hs1 hb1); have hb2 := hb1.alloc hb1.size (.cells #[.int .u64 0, .int .u64 0, .int .u64 0, .bool false, .pointer (some ⟨w.heap.size, 0, none⟩), .slice none 0 0] 83))
  go_ret
  exact ⟨_, rfl, HO.out, hb2⟩
theorem iread_any {w : World} {base p : Nat} {O : Nat → Prop} {S : BS} (h : Bf w base p O S) : Calls Try.prog 49 #[.pointer (some ⟨p, 0, none⟩)] w fun e w' => e = .returned (.int .u64 S.rd) ∧ w' = w := by
  obtain ⟨ps, vs, vw, l, W, _, h⟩ := h
  have h0 := h.c0
  clear h
  go_enter Try.func49, Try.ntmps49
  go_wp2
  go_ret
  exact ⟨rfl, rfl⟩
theorem ihigh_any {w : World} {base p : Nat} {O : Nat → Prop} {S : BS} (h : Bf w base p O S) : Calls Try.prog 27 #[.pointer (some ⟨p, 0, none⟩)] w fun e w' => e = .returned (.int .u64 S.hi) ∧ w' = w := by
  obtain ⟨ps, vs, vw, l, W, _, h⟩ := h
  have h0 := h.c1
  clear h
  go_enter Try.func27, Try.ntmps27
  go_wp2
  go_ret
  exact ⟨rfl, rfl⟩
theorem ifin_any {w : World} {base p : Nat} {O : Nat → Prop} {S : BS} (h : Bf w base p O S) : Calls Try.prog 57 #[.pointer (some ⟨p, 0, none⟩)] w fun e w' => e = .returned (.tuple #[.int .u64 S.fi, .bool S.en]) ∧ ∃ d, w' = w.drewN d := by
  obtain ⟨ps, vs, vw, l, W, _, h⟩ := h
  have h0 := h.c2
  have h1 := h.c3
  clear h
  go_enter Try.func57, Try.ntmps57
  go_wp2
  go_quiet (fail)
  go_wp2
  go_ret2
  exact ⟨rfl, _, rfl⟩
/-- What speaks against a piece up to n. -/
def agB (S : BS) (n : Nat) (fin : Bool) : Bool := (S.en && (decide (S.fi < n) || (fin && !decide (n = S.fi)))) || (fin && decide (n < S.hi))
set_option maxHeartbeats 2000000 in
theorem iag_any {w : World} {base p : Nat} {O : Nat → Prop} {S : BS} (h : Bf w base p O S) (n : Nat) (fin : Bool) : Calls Try.prog 53 #[.pointer (some ⟨p, 0, none⟩), .int .u64 n, .bool fin] w fun e w' => e = .returned (.bool (agB S n fin)) ∧ w' = w := by
  obtain ⟨ps, vs, vw, l, W, _, h⟩ := h
  have h1 := h.c1
  have h2 := h.c2
  have h3 := h.c3
  clear h
  unfold agB
  obtain ⟨rd, hi, fi, en, g⟩ := S
  simp only at h1 h2 h3 ⊢
  cases en <;> cases fin
  · go_enter Try.func53, Try.ntmps53
    go_wp2
    go_ret
    exact ⟨by simp, rfl⟩
  · go_enter Try.func53, Try.ntmps53
    go_wp2
    go_ret
    exact ⟨by simp, rfl⟩
  · by_cases hc : fi < n
    · have hcz : (fi : Int) < (n : Int) := by omega
      go_enter Try.func53, Try.ntmps53
      go_wp2
      go_ret
      exact ⟨by simp [hc], rfl⟩
    · have hcz : ¬ (fi : Int) < (n : Int) := by omega
      go_enter Try.func53, Try.ntmps53
      go_wp2
      go_ret
      exact ⟨by simp [hc], rfl⟩
  · rcases Nat.lt_trichotomy fi n with hc | rfl | hc
    · have hcz : (fi : Int) < (n : Int) := by omega
      go_enter Try.func53, Try.ntmps53
      go_wp2
      go_ret
      exact ⟨by simp [hc], rfl⟩
    · have hcz : ¬ (fi : Int) < (fi : Int) := by omega
      go_enter Try.func53, Try.ntmps53
      go_wp2
      go_ret
      exact ⟨by simp, rfl⟩
    · have hcz : ¬ (fi : Int) < (n : Int) := by omega
      have hne : ¬ (n : Int) = (fi : Int) := by omega
      have hnn : ¬ n = fi := by omega
      go_enter Try.func53, Try.ntmps53
      go_wp2
      go_ret
      exact ⟨by simp [hnn], rfl⟩
end
section
set_option linter.unusedVariables false
set_option linter.unusedSimpArgs false
open Go.RowKit
set_option maxHeartbeats 4000000 in
set_option maxRecDepth 100000 in
theorem iready_any (base p : Nat) (O : Nat → Prop) (S : BS) (w : World) (h : Bf w base p O S) (hok : S.ok) (k : Nat) (hk : IsR S.g S.rd k) :
    Calls Try.prog 60 #[.pointer (some ⟨p, 0, none⟩)] w fun e w' => e = .returned (.int .i64 k) ∧ Below w.heap.size w w' := by
  obtain ⟨ps, vs, vw, l, W, _, hc⟩ := h
  have h0 := hc.c0
  have h1 := hc.c1
  have h4 := hc.c4
  have hG := Lib.hid (fun X (hX : Below w.heap.size w X) => gap_any' base ps 2048 vs l X (hc.set_.below hX) (by have := hc.pm.len; omega) hc.pm.gd S.rd S.hi)
  have HP : Hid (p < w.heap.size) := Lib.hid hc.at_.lt
  have hrd : S.rd ≤ 1099511628288 := by have := hok.rh; have := hok.hm; omega
  have hhi : S.hi ≤ 1099511628288 := hok.hm
  have hrh := hok.rh
  rcases gap_cases hc.pm.gd S.rd S.hi with ⟨hV, hall⟩ | ⟨a, e, hV, hfa, hae, heE, hall, hnone⟩
  · rw [hV] at hG
    have hkk : S.hi - S.rd = k := IsR.uniq ⟨fun i hi => by rw [← hc.pm.has _ (by omega)]; exact hall _ (by omega) (by omega), by rw [show S.rd + (S.hi - S.rd) = S.hi by omega]; exact hok.no _ (Nat.le_refl _)⟩ hk
    have hz : (S.hi : Int) - (S.rd : Int) = (k : Int) := by omega
    have hkb : k ≤ 1099511628288 := by omega
    clear hall hV hc hok hk
    have hX1 : Below w.heap.size w (w.alloc (.cells #[.int .u64 0, .int .u64 0] 105)).drew := ((Below.refl _ w).alloc (Nat.le_refl _) _).drew
    have hX0 : Below w.heap.size w w.drew := (Below.refl _ w).drew
    have hN1 : At (w.alloc (.cells #[.int .u64 0, .int .u64 0] 105)).drew w.heap.size 105 [.int .u64 0, .int .u64 0] := At.new w _ _
    have HG1 := Lib.hid (hG.out _ hX1)
    have HG0 := Lib.hid (hG.out _ hX0)
    have HX := Lib.hid (And.intro hX0 hX1)
    have HN := Lib.hid hN1
    clear hX0 hX1 hN1 hG
    have KEEP : Hid (∀ W, Below w.heap.size w W → Below w.heap.size w W ∧ W.cell? ⟨p, 4, none⟩ = some (.pointer (some ⟨ps, 0, none⟩)) ∧ W.cell? ⟨p, 0, none⟩ = some (.int .u64 S.rd)) := Lib.hid (fun W hW => ⟨hW, (hW.cell (p := ⟨p, 4, none⟩) HP.out).trans h4, (hW.cell (p := ⟨p, 0, none⟩) HP.out).trans h0⟩)
    go_enter Try.func60, Try.ntmps60
    go_wp2
    go_region_held3 (fun W => Below w.heap.size w W ∧ W.cell? ⟨p, 4, none⟩ = some (.pointer (some ⟨ps, 0, none⟩)) ∧ W.cell? ⟨p, 0, none⟩ = some (.int .u64 S.rd)) (first | exact ⟨(Below.refl _ w).drew, h4, h0⟩ | exact ⟨((Below.refl _ w).drew.alloc (Nat.le_refl _) _), (World.cell?_alloc_lt _ _ _ HP.out).trans h4, (World.cell?_alloc_lt _ _ _ HP.out).trans h0⟩ | exact KEEP.out _ HB.out | exact KEEP.out _ (HB.out.alloc HB.out.size _) | exact KEEP.out _ ((HB.out.setCell (Nat.le_refl _) _).setCell (Nat.le_refl _) _)) ((go_at_call 58; first | ((with_reducible refine HG0.out.mono ?_); rintro e w2 ⟨rfl, hB2⟩; have HB := Lib.hid (HX.out.1.trans hB2); clear hB2) | ((with_reducible refine HG1.out.mono ?_); rintro e w2 ⟨rfl, hB2⟩; have hA2 := HN.out.below hB2 (by simp); have d0 := hA2.cell 0; have d1 := hA2.cell 1; have f0 := hA2.frozen 0; have f1 := hA2.frozen 1; simp at d0 d1; have HB := Lib.hid (HX.out.2.trans (hB2.mono HX.out.2.size)); clear hB2 hA2)))
    all_goals go_wp2
    all_goals go_ret
    all_goals (refine ⟨by first | rfl | simp [hz], ?_⟩; first | exact HB.out | exact HB.out.alloc HB.out.size _ | exact (HB.out.setCell (Nat.le_refl _) _).setCell (Nat.le_refl _) _ | exact HB.out.setCell (Nat.le_refl _) _)
  · rw [hV] at hG
    have hkk : a - S.rd = k := IsR.uniq ⟨fun i hi => by rw [← hc.pm.has _ (by omega)]; exact hall _ (by omega) (by omega), by
      have := hnone a (Nat.le_refl _) hae
      rw [hc.pm.has _ (by omega)] at this
      rw [show S.rd + (a - S.rd) = a by omega]
      cases hq : S.g a with
      | none => rfl
      | some x => rw [hq] at this; cases this⟩ hk
    have hz : (a : Int) - (S.rd : Int) = (k : Int) := by omega
    have hkb : k ≤ 1099511628288 := by omega
    clear hall hV hc hok hk hnone
    have hX1 : Below w.heap.size w (w.alloc (.cells #[.int .u64 0, .int .u64 0] 105)).drew := ((Below.refl _ w).alloc (Nat.le_refl _) _).drew
    have hX0 : Below w.heap.size w w.drew := (Below.refl _ w).drew
    have hN1 : At (w.alloc (.cells #[.int .u64 0, .int .u64 0] 105)).drew w.heap.size 105 [.int .u64 0, .int .u64 0] := At.new w _ _
    have HG1 := Lib.hid (hG.out _ hX1)
    have HG0 := Lib.hid (hG.out _ hX0)
    have HX := Lib.hid (And.intro hX0 hX1)
    have HN := Lib.hid hN1
    clear hX0 hX1 hN1 hG
    have KEEP : Hid (∀ W, Below w.heap.size w W → Below w.heap.size w W ∧ W.cell? ⟨p, 4, none⟩ = some (.pointer (some ⟨ps, 0, none⟩)) ∧ W.cell? ⟨p, 0, none⟩ = some (.int .u64 S.rd)) := Lib.hid (fun W hW => ⟨hW, (hW.cell (p := ⟨p, 4, none⟩) HP.out).trans h4, (hW.cell (p := ⟨p, 0, none⟩) HP.out).trans h0⟩)
    go_enter Try.func60, Try.ntmps60
    go_wp2
    go_region_held3 (fun W => Below w.heap.size w W ∧ W.cell? ⟨p, 4, none⟩ = some (.pointer (some ⟨ps, 0, none⟩)) ∧ W.cell? ⟨p, 0, none⟩ = some (.int .u64 S.rd)) (first | exact ⟨(Below.refl _ w).drew, h4, h0⟩ | exact ⟨((Below.refl _ w).drew.alloc (Nat.le_refl _) _), (World.cell?_alloc_lt _ _ _ HP.out).trans h4, (World.cell?_alloc_lt _ _ _ HP.out).trans h0⟩ | exact KEEP.out _ HB.out | exact KEEP.out _ (HB.out.alloc HB.out.size _) | exact KEEP.out _ ((HB.out.setCell (Nat.le_refl _) _).setCell (Nat.le_refl _) _)) ((go_at_call 58; first | ((with_reducible refine HG0.out.mono ?_); rintro e w2 ⟨rfl, hB2⟩; have HB := Lib.hid (HX.out.1.trans hB2); clear hB2) | ((with_reducible refine HG1.out.mono ?_); rintro e w2 ⟨rfl, hB2⟩; have hA2 := HN.out.below hB2 (by simp); have d0 := hA2.cell 0; have d1 := hA2.cell 1; have f0 := hA2.frozen 0; have f1 := hA2.frozen 1; simp at d0 d1; have HB := Lib.hid (HX.out.2.trans (hB2.mono HX.out.2.size)); clear hB2 hA2)))
    all_goals go_wp2
    all_goals go_ret
    all_goals (refine ⟨by first | rfl | simp [hz], ?_⟩; first | exact HB.out | exact HB.out.alloc HB.out.size _ | exact (HB.out.setCell (Nat.le_refl _) _).setCell (Nat.le_refl _) _ | exact HB.out.setCell (Nat.le_refl _) _)
set_option maxHeartbeats 4000000 in
set_option maxRecDepth 100000 in
theorem iwhole_any (base p : Nat) (O : Nat → Prop) (S : BS) (w : World) (h : Bf w base p O S) (hok : S.ok) (k : Nat) (hk : IsR S.g S.rd k) :
    Calls Try.prog 56 #[.pointer (some ⟨p, 0, none⟩)] w fun e w' => e = .returned (.bool (S.en && decide (S.rd + k = S.fi))) ∧ Below w.heap.size w w' := by
  have HR := Lib.hid (fun X (hX : Below w.heap.size w X) => iready_any base p O S X (h.below hX) hok k hk)
  obtain ⟨ps, vs, vw, l, W, _, hc⟩ := h
  have h0 := hc.c0
  have h2 := hc.c2
  have h3 := hc.c3
  have HP : Hid (p < w.heap.size) := Lib.hid hc.at_.lt
  have hkb := hk.le hok
  have hhi := hok.hm
  clear hok hk hc
  obtain ⟨rd, hi, fi, en, g⟩ := S
  simp only at *
  cases en
  · go_enter Try.func56, Try.ntmps56
    go_wp2
    go_quiet (fail)
    go_wp2
    go_ret
    exact ⟨rfl, ⟨rfl, rfl, rfl, Nat.le_refl _, fun _ _ => rfl⟩⟩
  · have KEEP : Hid (∀ W, Below w.heap.size w W → Below w.heap.size w W ∧ W.cell? ⟨p, 0, none⟩ = some (.int .u64 rd) ∧ W.cell? ⟨p, 2, none⟩ = some (.int .u64 fi) ∧ W.cell? ⟨p, 3, none⟩ = some (.bool true)) := Lib.hid (fun W hW => ⟨hW, (hW.cell (p := ⟨p, 0, none⟩) HP.out).trans h0, (hW.cell (p := ⟨p, 2, none⟩) HP.out).trans h2, (hW.cell (p := ⟨p, 3, none⟩) HP.out).trans h3⟩)
    have HX0 : Hid (Below w.heap.size w w.drew) := Lib.hid (Below.refl _ w).drew
    have HR0 := Lib.hid (HR.out _ HX0.out)
    have hww : Hid (IntKind.u64.wrap ((rd : Int) + IntKind.u64.wrap (k : Int)) = ((rd + k : Nat) : Int)) := Lib.hid (by rw [IntKind.wrap_u64, IntKind.wrap_u64]; omega)
    have hrk : (rd : Int) + (k : Int) = ((rd + k : Nat) : Int) := by omega
    have hkb2 : rd + k ≤ 1099511628288 := by omega
    have hQ : Hid (∀ b : Bool, b = decide (rd + k = fi) → (Ending.returned (.bool b) = .returned (.bool (true && decide (rd + k = fi))))) := Lib.hid (fun b h => by rw [h, Bool.true_and])
    go_enter Try.func56, Try.ntmps56
    go_wp2
    go_region_held3 (fun W => Below w.heap.size w W ∧ W.cell? ⟨p, 0, none⟩ = some (.int .u64 rd) ∧ W.cell? ⟨p, 2, none⟩ = some (.int .u64 fi) ∧ W.cell? ⟨p, 3, none⟩ = some (.bool true)) (first | exact KEEP.out _ HX0.out | exact KEEP.out _ HB.out) ((go_at_call 60; (with_reducible refine HR0.out.mono ?_); rintro e w2 ⟨rfl, hB2⟩; have HB := Lib.hid (HX0.out.trans hB2); clear hB2))
    all_goals go_wp2
    all_goals go_ret
    all_goals (refine ⟨hQ.out _ ?_, HB.out⟩)
    all_goals (first | rw [hww.out] | skip)
    all_goals (rw [Bool.eq_iff_iff]; simp; try omega)
end
section
set_option linter.unusedVariables false
set_option linter.unusedSimpArgs false
open Go.RowKit
end
end Go.Proofs.Ytndaikeeikimeaa
