/-
  receiver.Receiver: Next.
-/
import Derived.Test.YtphpdaldplkgmaaGreatKj
import Derived.Test.YtphpdaldplkgmaaGreatMq5
import Derived.Test.YtphpdaldplkgmaaGreatKc
import Derived.Test.YtphpdaldplkgmaaGreatKb
namespace Go.Proofs.YtphpdaldplkgmaaGreat
section
set_option linter.unusedVariables false
set_option linter.unusedSimpArgs false
open Go.RowKit
def nxZ (X : QS) : Int := sizeF (dueF X (dueK X)) [] []
/-- What Next gives: 0 nothing, 1 the Stop, 2 the limit. -/
def nxK (X : QS) (room : Int) : Nat := if dueK X ≠ 0 ∧ nxZ X ≤ room then dueK X else 0
theorem dueK_cases (X : QS) : dueK X = 0 ∨ dueK X = 1 ∨ dueK X = 2 := by
  unfold dueK
  split
  · exact .inr (.inl rfl)
  · split
    · exact .inr (.inr rfl)
    · exact .inl rfl
theorem dueK_1 {X : QS} (h : dueK X = 1) : X.due = true := by
  unfold dueK at h
  split at h
  · assumption
  · split at h <;> omega
theorem dueK_2 {X : QS} (h : dueK X = 2) : X.st = 1 := by
  unfold dueK at h
  split at h
  · omega
  · split at h
    · rename_i h2; exact h2.1
    · omega
theorem nxK_2 {X : QS} {room : Int} (h : nxK X room = 2) : X.st = 1 := by
  unfold nxK at h
  split at h
  · exact dueK_2 h
  · omega
theorem nextX_ok2 {X : QS} (h : X.ok) {k : Nat} (hk : k = 2 → X.st = 1) : (nextX X k).ok := by
  unfold nextX
  split
  · exact ⟨h.b, h.id, h.win, h.code, h.fl, h.hl, h.lw, h.st, h.s1, h.s2, fun hd => (by cases hd), h.sp, h.ef⟩
  · split
    · rename_i hn1 hn
      have hst : X.st = 1 := hk hn
      have h1 := h.hl (by omega)
      have h2 := h.lw
      exact ⟨h.b, h.id, h.win, h.code, fun h5 => (by have h5' : 5 ≤ X.st := h5; omega), fun _ => (by show X.b.hi ≤ X.b.rd + X.win; omega), (by show X.b.rd + X.win ≤ X.b.rd + X.win; omega), h.st, h.s1, h.s2, h.du, h.sp, h.ef⟩
    · exact h
theorem dueF_wf {X : QS} (h : X.ok) (k : Nat) : (dueF X k).wf := by
  have h1 := h.id
  have h2 := h.sp
  have h3 := h.b.rh
  have h4 := h.b.hm
  have h5 := h.win
  unfold dueF
  split
  · exact m5_wf h1 (by omega)
  · split
    · exact m17_wf h1 (by omega)
    · exact wf_zero 0 (by decide) (by decide)
section
variable {w w' w1 : World} {base p pb : Nat} {O Ob Ob' : Nat → Prop} {X X' : QS}
/-- What Next meets behind due: the frame's block, its own two. -/
structure NxW (w : World) (base p g g6 : Nat) (O : Nat → Prop) (X : QS) (LF : List Value) (W : World) : Prop where
  b : Below w.heap.size w W
  q : Qp W base p O X
  ag : At W g 54 (frL (FN.zero 0) .nil .nil)
  a6 : At W g6 54 LF
  g0 : w.heap.size ≤ g
  g1 : g ≠ g6
  g2 : w.heap.size ≤ g6
theorem NxW.below {g g6 : Nat} {LF : List Value} {W W' : World} (h : NxW w base p g g6 O X LF W) (k : Below W.heap.size W W') : NxW w base p g g6 O X LF W' :=
  ⟨h.b.trans (k.mono h.b.size), h.q.below k, h.ag.below k h.ag.lt, h.a6.below k h.a6.lt, h.g0, h.g1, h.g2⟩
theorem nxw (h : Qp w base p O X) {W1 w2 : World} (hB1 : Below w.heap.size w W1) (hA1 : At W1 w.heap.size 54 (frL (FN.zero 0) .nil .nil)) (k : Below W1.heap.size W1 w2) (LF : List Value) :
    ∃ (g6 : Nat) (W3 : World), w2.heap.size = g6 ∧ w2.alloc (.cells LF.toArray 54) = W3 ∧ NxW w base p w.heap.size g6 O X LF W3 := by
  have hlt := hA1.lt
  have hs := k.size
  have hk : Below w2.heap.size w2 (w2.alloc (.cells LF.toArray 54)) := (Below.refl _ _).alloc (Nat.le_refl _) _
  have hb2 := hB1.trans (k.mono hB1.size)
  refine ⟨_, _, rfl, rfl, hb2.trans (hk.mono hb2.size), (h.below hb2).below hk, (hA1.below k hlt).below hk (by omega), At.new w2 _ _, Nat.le_refl _, by omega, by omega⟩
/-- The frame's own block is stored last. -/
theorem NxW.fin {g g6 : Nat} {LF : List Value} {W W9 : World} (h : NxW w base p g g6 O X LF W) (hq : Qp w base p O X) (k : Kept (· = g) W W9) (r : Value) : QPost r base p O X w (.returned r) W9 :=
  hq.same (k.below h.b h.b.size fun j hj => by have := h.g0; omega) r
theorem NxW.fin1 {g g6 : Nat} {LF : List Value} {W W9 : World} (h : NxW w base p g g6 O X LF W) (hq : Qp w base p O X) (hst : X.st < 5) (k : Kept (· = g) (W.setCell ⟨p, 9, none⟩ (.bool false)) W9) (r : Value) : QPost r base p O { X with due := false } w (.returned r) W9 := by
  obtain ⟨pb, Ob, rfl, hl⟩ := h.q.live hst
  have hp := (hq.lt p hq.own).2
  have hlt := hl.lt
  have hl1 := hl.set (X' := { X with due := false }) 9 (.bool false) rfl rfl
  have hg0 := h.g0
  have hl9 : Ql W9 base p pb Ob { X with due := false } := hl1.kept k fun j hj e => by have := (hq.lt j hj).2; omega
  have k0 : Kept (pOb p Ob) w (W.setCell ⟨p, 9, none⟩ (.bool false)) := (Kept.of_below h.b _).setCell (p := ⟨p, 9, none⟩) (.inl (.inl rfl)) _
  exact ⟨rfl, _, .inl ⟨hst, pb, Ob, rfl, hl9⟩, k0.trans' k fun j hj => .inr (by omega), fun j hj => .inl hj⟩
theorem NxW.fin2 {g g6 : Nat} {LF : List Value} {W W9 : World} (h : NxW w base p g g6 O X LF W) (hq : Qp w base p O X) (hst : X.st < 5) (T : Nat) (hT : T = X.b.rd + X.win) (k : Kept (· = g) ((W.setCell ⟨p, 3, none⟩ (.int .u64 T)).setCell ⟨p, 10, none⟩ (.bool false)) W9) (r : Value) : QPost r base p O { X with lim := X.b.rd + X.win, again := false } w (.returned r) W9 := by
  subst hT
  obtain ⟨pb, Ob, rfl, hl⟩ := h.q.live hst
  have hp := (hq.lt p hq.own).2
  have hl1 := (hl.set (X' := { X with lim := X.b.rd + X.win }) 3 (.int .u64 (X.b.rd + X.win : Nat)) rfl rfl).set (X' := { X with lim := X.b.rd + X.win, again := false }) 10 (.bool false) rfl rfl
  have hg0 := h.g0
  have hl9 : Ql W9 base p pb Ob { X with lim := X.b.rd + X.win, again := false } := hl1.kept k fun j hj e => by have := (hq.lt j hj).2; omega
  have k0 : Kept (pOb p Ob) w ((W.setCell ⟨p, 3, none⟩ (.int .u64 (X.b.rd + X.win : Nat))).setCell ⟨p, 10, none⟩ (.bool false)) := ((Kept.of_below h.b _).setCell (p := ⟨p, 3, none⟩) (.inl (.inl rfl)) _).setCell (p := ⟨p, 10, none⟩) (.inl (.inl rfl)) _
  exact ⟨rfl, _, .inl ⟨hst, pb, Ob, rfl, hl9⟩, k0.trans' k fun j hj => .inr (by omega), fun j hj => .inl hj⟩

set_option maxHeartbeats 16000000 in
set_option maxRecDepth 100000 in
theorem q_next0 (h : Qp w base p O X) (ho : X.ok) (room : Int) (hk : dueK X = 0)  : Calls Tryz.prog 18 #[.pointer (some ⟨p, 0, none⟩), .int .i64 room] w (QPost (.tuple #[frV (dueF X 0) .nil .nil, .bool false]) base p O (nextX X 0) w) := by
  obtain ⟨W1, hW1, hA1, hB1⟩ := q_zbox w
  have HD := Lib.hid (q_due (h.below hB1) ho)
  have HSZ := Lib.hid (fun W' => fsize_any (fun _ => True) (dueF X 0) .nil .nil [] [] W' ⟨dueF_wf ho 0, InD.nil_ _ _, InR.nil_ _ _⟩ (dueF_kk X 0))
  have hnz : nxZ X = sizeF (dueF X 0) [] [] := by unfold nxZ; rw [hk]
  rw [hk] at HD
  rw [← hnz] at HSZ
  generalize nxZ X = sz at *
  have HQ := Lib.hid h
  obtain ⟨LF, hLF⟩ : ∃ LF, frL (dueF X 0) .nil .nil = LF := ⟨_, rfl⟩
  have HX := Lib.hid (fun w2 (k : Below W1.heap.size W1 w2) => nxw h hB1 hA1 k LF)
  have hFl : LF.length = 19 := by rw [← hLF]; rfl
  have hFo : LF.all (·.oneCell') = true := by rw [← hLF]; rfl
  have HLF := Lib.hid hLF
  have HFl := Lib.hid hFl
  have HFo := Lib.hid hFo
  have hfv : frV (dueF X 0) .nil .nil = .agg LF.toArray := by rw [← hLF]; rfl
  rw [hfv] at HD HSZ
  obtain ⟨g, hg⟩ : ∃ g, w.heap.size = g := ⟨_, rfl⟩
  rw [hg] at HX
  have hst : X = nextX X 0 := rfl
  have HE : Hid (∀ g6 W W9, NxW w base p g g6 O X LF W → Kept (· = g) W W9 → QPost (.tuple #[.agg LF.toArray, .bool false]) base p O (nextX X 0) w (.returned (.tuple #[.agg LF.toArray, .bool false])) W9) := Lib.hid (fun g6 W W9 hn k => hn.fin HQ.out k _)
  rw [hfv]
  have hZ : frL (FN.zero 0) .nil .nil = LF := hLF
  have HZ := Lib.hid hZ
  clear h ho hA1 hB1 hnz hLF hFl hFo hfv hk hst hZ
  go_enter Tryz.func18, Tryz.ntmps18
  go_upto_region 1 with fail
  (try rw [hg])
  (try rw [hW1])
  go_wp2_with (first | (go_at_call 33; (with_reducible refine HD.out.mono ?_); rintro e w2 ⟨rfl, hb2⟩; obtain ⟨g6, W3, hg6, hW3, hN3⟩ := HX.out w2 hb2; have HN3 := Lib.hid hN3; clear hb2 hN3) | ((with_reducible refine at_st (x := .tmp 6) ?_); refine st_top w2 (frL (FN.zero 0) .nil .nil) LF (by rfl) g6 (by rfl) hg6.symm (by rfl) rfl HFl.out HFo.out ?_; rw [hW3]) | ((with_reducible refine at_st (x := .tmp 4) ?_); refine st_at _ _ LF (by rfl) (by rw [← HZ.out]; rfl) HN3.out.ag (by rfl) HFl.out HFo.out ?_; intro w9 hA9 hk9; have HK9 := Lib.hid hk9; clear hk9) | fail)
  refine bodyPost_ret (results_cell_tmp 4 5 54 (by rfl) _ 54 _ _ _ (by rfl) (by rfl) hA9 Tryz.underlying54 rfl (by rw [HFl.out]; exact fr_info)) rfl ?_
  exact HE.out _ _ _ HN3.out HK9.out
set_option maxHeartbeats 16000000 in
set_option maxRecDepth 100000 in
theorem q_next1_no (h : Qp w base p O X) (ho : X.ok) (room : Int) (hk : dueK X = 1) (hr : room < nxZ X) : Calls Tryz.prog 18 #[.pointer (some ⟨p, 0, none⟩), .int .i64 room] w (QPost (.tuple #[frV (dueF X 0) .nil .nil, .bool false]) base p O (nextX X 0) w) := by
  obtain ⟨W1, hW1, hA1, hB1⟩ := q_zbox w
  have HD := Lib.hid (q_due (h.below hB1) ho)
  have HSZ := Lib.hid (fun W' => fsize_any (fun _ => True) (dueF X 1) .nil .nil [] [] W' ⟨dueF_wf ho 1, InD.nil_ _ _, InR.nil_ _ _⟩ (dueF_kk X 1))
  have hnz : nxZ X = sizeF (dueF X 1) [] [] := by unfold nxZ; rw [hk]
  rw [hk] at HD
  rw [← hnz] at HSZ
  generalize nxZ X = sz at *
  have HQ := Lib.hid h
  obtain ⟨LF, hLF⟩ : ∃ LF, frL (dueF X 1) .nil .nil = LF := ⟨_, rfl⟩
  have HX := Lib.hid (fun w2 (k : Below W1.heap.size W1 w2) => nxw h hB1 hA1 k LF)
  have hFl : LF.length = 19 := by rw [← hLF]; rfl
  have hFo : LF.all (·.oneCell') = true := by rw [← hLF]; rfl
  have HLF := Lib.hid hLF
  have HFl := Lib.hid hFl
  have HFo := Lib.hid hFo
  have hfv : frV (dueF X 1) .nil .nil = .agg LF.toArray := by rw [← hLF]; rfl
  rw [hfv] at HD HSZ
  obtain ⟨g, hg⟩ : ∃ g, w.heap.size = g := ⟨_, rfl⟩
  rw [hg] at HX
  have hdz : dueF X 0 = FN.zero 0 := rfl
  have HE : Hid (∀ g6 W W9, NxW w base p g g6 O X LF W → Kept (· = g) W W9 → QPost (.tuple #[frV (FN.zero 0) .nil .nil, .bool false]) base p O (nextX X 0) w (.returned (.tuple #[frV (FN.zero 0) .nil .nil, .bool false])) W9) := Lib.hid (fun g6 W W9 hn k => hn.fin HQ.out k _)
  rw [hdz]
  clear h ho hA1 hB1 hnz hLF hFl hFo hfv hk hdz
  go_enter Tryz.func18, Tryz.ntmps18
  go_upto_region 1 with fail
  (try rw [hg])
  (try rw [hW1])
  go_wp2_with (first | (go_at_call 33; (with_reducible refine HD.out.mono ?_); rintro e w2 ⟨rfl, hb2⟩; obtain ⟨g6, W3, hg6, hW3, hN3⟩ := HX.out w2 hb2; have HN3 := Lib.hid hN3; clear hb2 hN3) | ((with_reducible refine at_st (x := .tmp 6) ?_); refine st_top w2 (frL (FN.zero 0) .nil .nil) LF (by rfl) g6 (by rfl) hg6.symm (by rfl) rfl HFl.out HFo.out ?_; rw [hW3]) | ((with_reducible refine at_ld ?_); refine ld_fr_g _ LF (by rfl) (by rfl) HN3.out.a6 HFl.out ?_) | (go_at_call 34; (with_reducible refine (HSZ.out _).mono ?_); rintro e w10 ⟨rfl, hb10⟩; have HN4 := Lib.hid (HN3.out.below hb10); clear hb10) | ((with_reducible refine at_st (x := .tmp 4) ?_); refine st_at _ _ (frL (FN.zero 0) .nil .nil) (by rfl) (by rfl) HN4.out.ag (by rfl) (by rfl) (by rfl) ?_; intro w9 hA9 hk9; have HK9 := Lib.hid hk9; clear hk9) | fail)
  refine bodyPost_ret (results_cell_tmp 4 5 54 (by rfl) _ 54 _ _ _ (by rfl) (by rfl) hA9 Tryz.underlying54 rfl fr_info) rfl ?_
  exact HE.out _ _ _ HN4.out HK9.out
set_option maxHeartbeats 16000000 in
set_option maxRecDepth 100000 in
theorem q_next1 (h : Qp w base p O X) (ho : X.ok) (room : Int) (hk : dueK X = 1) (hr : nxZ X ≤ room) : Calls Tryz.prog 18 #[.pointer (some ⟨p, 0, none⟩), .int .i64 room] w (QPost (.tuple #[frV (dueF X 1) .nil .nil, .bool true]) base p O (nextX X 1) w) := by
  obtain ⟨W1, hW1, hA1, hB1⟩ := q_zbox w
  have HD := Lib.hid (q_due (h.below hB1) ho)
  have HSZ := Lib.hid (fun W' => fsize_any (fun _ => True) (dueF X 1) .nil .nil [] [] W' ⟨dueF_wf ho 1, InD.nil_ _ _, InR.nil_ _ _⟩ (dueF_kk X 1))
  have hnz : nxZ X = sizeF (dueF X 1) [] [] := by unfold nxZ; rw [hk]
  rw [hk] at HD
  rw [← hnz] at HSZ
  generalize nxZ X = sz at *
  have HQ := Lib.hid h
  obtain ⟨LF, hLF⟩ : ∃ LF, frL (dueF X 1) .nil .nil = LF := ⟨_, rfl⟩
  have HX := Lib.hid (fun w2 (k : Below W1.heap.size W1 w2) => nxw h hB1 hA1 k LF)
  have hFl : LF.length = 19 := by rw [← hLF]; rfl
  have hFo : LF.all (·.oneCell') = true := by rw [← hLF]; rfl
  have HLF := Lib.hid hLF
  have HFl := Lib.hid hFl
  have HFo := Lib.hid hFo
  have hfv : frV (dueF X 1) .nil .nil = .agg LF.toArray := by rw [← hLF]; rfl
  rw [hfv] at HD HSZ
  obtain ⟨g, hg⟩ : ∃ g, w.heap.size = g := ⟨_, rfl⟩
  rw [hg] at HX
  have hst : X.st < 5 := by have := (ho.du (dueK_1 hk)).1; omega
  have HE : Hid (∀ g6 W W9, NxW w base p g g6 O X LF W → Kept (· = g) (W.setCell ⟨p, 9, none⟩ (.bool false)) W9 → QPost (.tuple #[.agg LF.toArray, .bool true]) base p O (nextX X 1) w (.returned (.tuple #[.agg LF.toArray, .bool true])) W9) := Lib.hid (fun g6 W W9 hn k => hn.fin1 HQ.out hst k _)
  have HC : Hid (∀ g6 W, NxW w base p g g6 O X LF W → W.cell? ⟨g6, 0, none⟩ = some (.int .i64 5) ∧ W.cell? ⟨p, 9, none⟩ = some (.bool X.due) ∧ W.frozen? ⟨p, 9, none⟩ = false ∧ At (W.setCell ⟨p, 9, none⟩ (.bool false)) g6 54 LF ∧ At (W.setCell ⟨p, 9, none⟩ (.bool false)) g 54 (frL (FN.zero 0) .nil .nil)) := Lib.hid (fun g6 W hn => by
    have hp := (h.lt p h.own).2
    refine ⟨by rw [hn.a6.cell, ← HLF.out]; rfl, hn.q.c9, hn.q.fz 9, hn.a6.set_other (q := ⟨p, 9, none⟩) (fun e => ?_) _, hn.ag.set_other (q := ⟨p, 9, none⟩) (fun e => ?_) _⟩
    · have e' : p = g6 := e
      have := hn.g2; omega
    · have e' : p = g := e
      have := hn.g0; omega)
  rw [hfv]
  have hrr : ¬ room < sz := by omega
  clear h ho hA1 hB1 hnz hLF hFl hFo hfv hk hst 
  go_enter Tryz.func18, Tryz.ntmps18
  go_upto_region 1 with fail
  (try rw [hg])
  (try rw [hW1])
  go_wp2_with (first | (go_at_call 33; (with_reducible refine HD.out.mono ?_); rintro e w2 ⟨rfl, hb2⟩; obtain ⟨g6, W3, hg6, hW3, hN3⟩ := HX.out w2 hb2; have HN3 := Lib.hid hN3; clear hb2 hN3) | ((with_reducible refine at_st (x := .tmp 6) ?_); refine st_top w2 (frL (FN.zero 0) .nil .nil) LF (by rfl) g6 (by rfl) hg6.symm (by rfl) rfl HFl.out HFo.out ?_; rw [hW3]) | ((with_reducible refine at_ld ?_); refine ld_fr_g _ LF (by rfl) (by rfl) HN3.out.a6 HFl.out ?_) | (go_at_call 34; (with_reducible refine (HSZ.out _).mono ?_); rintro e w10 ⟨rfl, hb10⟩; have HN4 := Lib.hid (HN3.out.below hb10); obtain ⟨x0, x9, xf9, xA6, xAg⟩ := HC.out _ _ HN4.out; have HA6 := Lib.hid xA6; have HAg := Lib.hid xAg; clear xA6 xAg; clear hb10) | ((with_reducible refine at_ld ?_); refine ld_fr_g _ LF (by rfl) (by rfl) HA6.out HFl.out ?_) | ((with_reducible refine at_st (x := .tmp 4) ?_); refine st_at _ _ LF (by rfl) (by rfl) HAg.out (by rfl) HFl.out HFo.out ?_; intro w9 hA9 hk9; have HK9 := Lib.hid hk9; clear hk9) | fail)
  refine bodyPost_ret (results_cell_tmp 4 5 54 (by rfl) _ 54 _ _ _ (by rfl) (by rfl) hA9 Tryz.underlying54 rfl (by rw [HFl.out]; exact fr_info)) rfl ?_
  exact HE.out _ _ _ HN4.out HK9.out
set_option maxHeartbeats 16000000 in
set_option maxRecDepth 100000 in
theorem q_next2_no (h : Qp w base p O X) (ho : X.ok) (room : Int) (hk : dueK X = 2) (hr : room < nxZ X) : Calls Tryz.prog 18 #[.pointer (some ⟨p, 0, none⟩), .int .i64 room] w (QPost (.tuple #[frV (dueF X 0) .nil .nil, .bool false]) base p O (nextX X 0) w) := by
  obtain ⟨W1, hW1, hA1, hB1⟩ := q_zbox w
  have HD := Lib.hid (q_due (h.below hB1) ho)
  have HSZ := Lib.hid (fun W' => fsize_any (fun _ => True) (dueF X 2) .nil .nil [] [] W' ⟨dueF_wf ho 2, InD.nil_ _ _, InR.nil_ _ _⟩ (dueF_kk X 2))
  have hnz : nxZ X = sizeF (dueF X 2) [] [] := by unfold nxZ; rw [hk]
  rw [hk] at HD
  rw [← hnz] at HSZ
  generalize nxZ X = sz at *
  have HQ := Lib.hid h
  obtain ⟨LF, hLF⟩ : ∃ LF, frL (dueF X 2) .nil .nil = LF := ⟨_, rfl⟩
  have HX := Lib.hid (fun w2 (k : Below W1.heap.size W1 w2) => nxw h hB1 hA1 k LF)
  have hFl : LF.length = 19 := by rw [← hLF]; rfl
  have hFo : LF.all (·.oneCell') = true := by rw [← hLF]; rfl
  have HLF := Lib.hid hLF
  have HFl := Lib.hid hFl
  have HFo := Lib.hid hFo
  have hfv : frV (dueF X 2) .nil .nil = .agg LF.toArray := by rw [← hLF]; rfl
  rw [hfv] at HD HSZ
  obtain ⟨g, hg⟩ : ∃ g, w.heap.size = g := ⟨_, rfl⟩
  rw [hg] at HX
  have hdz : dueF X 0 = FN.zero 0 := rfl
  have HE : Hid (∀ g6 W W9, NxW w base p g g6 O X LF W → Kept (· = g) W W9 → QPost (.tuple #[frV (FN.zero 0) .nil .nil, .bool false]) base p O (nextX X 0) w (.returned (.tuple #[frV (FN.zero 0) .nil .nil, .bool false])) W9) := Lib.hid (fun g6 W W9 hn k => hn.fin HQ.out k _)
  rw [hdz]
  clear h ho hA1 hB1 hnz hLF hFl hFo hfv hk hdz
  go_enter Tryz.func18, Tryz.ntmps18
  go_upto_region 1 with fail
  (try rw [hg])
  (try rw [hW1])
  go_wp2_with (first | (go_at_call 33; (with_reducible refine HD.out.mono ?_); rintro e w2 ⟨rfl, hb2⟩; obtain ⟨g6, W3, hg6, hW3, hN3⟩ := HX.out w2 hb2; have HN3 := Lib.hid hN3; clear hb2 hN3) | ((with_reducible refine at_st (x := .tmp 6) ?_); refine st_top w2 (frL (FN.zero 0) .nil .nil) LF (by rfl) g6 (by rfl) hg6.symm (by rfl) rfl HFl.out HFo.out ?_; rw [hW3]) | ((with_reducible refine at_ld ?_); refine ld_fr_g _ LF (by rfl) (by rfl) HN3.out.a6 HFl.out ?_) | (go_at_call 34; (with_reducible refine (HSZ.out _).mono ?_); rintro e w10 ⟨rfl, hb10⟩; have HN4 := Lib.hid (HN3.out.below hb10); clear hb10) | ((with_reducible refine at_st (x := .tmp 4) ?_); refine st_at _ _ (frL (FN.zero 0) .nil .nil) (by rfl) (by rfl) HN4.out.ag (by rfl) (by rfl) (by rfl) ?_; intro w9 hA9 hk9; have HK9 := Lib.hid hk9; clear hk9) | fail)
  refine bodyPost_ret (results_cell_tmp 4 5 54 (by rfl) _ 54 _ _ _ (by rfl) (by rfl) hA9 Tryz.underlying54 rfl fr_info) rfl ?_
  exact HE.out _ _ _ HN4.out HK9.out
set_option maxHeartbeats 16000000 in
set_option maxRecDepth 100000 in
theorem q_next2 (h : Qp w base p O X) (ho : X.ok) (room : Int) (hk : dueK X = 2) (hr : nxZ X ≤ room) : Calls Tryz.prog 18 #[.pointer (some ⟨p, 0, none⟩), .int .i64 room] w (QPost (.tuple #[frV (dueF X 2) .nil .nil, .bool true]) base p O (nextX X 2) w) := by
  obtain ⟨W1, hW1, hA1, hB1⟩ := q_zbox w
  have HD := Lib.hid (q_due (h.below hB1) ho)
  have HSZ := Lib.hid (fun W' => fsize_any (fun _ => True) (dueF X 2) .nil .nil [] [] W' ⟨dueF_wf ho 2, InD.nil_ _ _, InR.nil_ _ _⟩ (dueF_kk X 2))
  have hnz : nxZ X = sizeF (dueF X 2) [] [] := by unfold nxZ; rw [hk]
  rw [hk] at HD
  rw [← hnz] at HSZ
  generalize nxZ X = sz at *
  have HQ := Lib.hid h
  obtain ⟨LF, hLF⟩ : ∃ LF, frL (dueF X 2) .nil .nil = LF := ⟨_, rfl⟩
  have HX := Lib.hid (fun w2 (k : Below W1.heap.size W1 w2) => nxw h hB1 hA1 k LF)
  have hFl : LF.length = 19 := by rw [← hLF]; rfl
  have hFo : LF.all (·.oneCell') = true := by rw [← hLF]; rfl
  have HLF := Lib.hid hLF
  have HFl := Lib.hid hFl
  have HFo := Lib.hid hFo
  have hfv : frV (dueF X 2) .nil .nil = .agg LF.toArray := by rw [← hLF]; rfl
  rw [hfv] at HD HSZ
  obtain ⟨g, hg⟩ : ∃ g, w.heap.size = g := ⟨_, rfl⟩
  rw [hg] at HX
  have hst : X.st < 5 := by have := dueK_2 hk; omega
  obtain ⟨T, hT⟩ : ∃ T, T = X.b.rd + X.win := ⟨_, rfl⟩
  have HE : Hid (∀ g6 W W9, NxW w base p g g6 O X LF W → Kept (· = g) ((W.setCell ⟨p, 3, none⟩ (.int .u64 T)).setCell ⟨p, 10, none⟩ (.bool false)) W9 → QPost (.tuple #[.agg LF.toArray, .bool true]) base p O (nextX X 2) w (.returned (.tuple #[.agg LF.toArray, .bool true])) W9) := Lib.hid (fun g6 W W9 hn k => hn.fin2 HQ.out hst T hT k _)
  have HC : Hid (∀ g6 W, NxW w base p g g6 O X LF W → W.cell? ⟨g6, 0, none⟩ = some (.int .i64 17) ∧ W.cell? ⟨g6, 5, none⟩ = some (.int .u64 T) ∧ W.cell? ⟨p, 3, none⟩ = some (.int .u64 X.lim) ∧ W.cell? ⟨p, 10, none⟩ = some (.bool X.again) ∧ W.frozen? ⟨p, 3, none⟩ = false ∧ W.frozen? ⟨p, 10, none⟩ = false ∧ At ((W.setCell ⟨p, 3, none⟩ (.int .u64 T)).setCell ⟨p, 10, none⟩ (.bool false)) g6 54 LF ∧ At ((W.setCell ⟨p, 3, none⟩ (.int .u64 T)).setCell ⟨p, 10, none⟩ (.bool false)) g 54 (frL (FN.zero 0) .nil .nil)) := Lib.hid (fun g6 W hn => by
    have hp := (h.lt p h.own).2
    have n1 : p ≠ g6 := fun e => by have := hn.g2; omega
    have n2 : p ≠ g := fun e => by have := hn.g0; omega
    exact ⟨by rw [hn.a6.cell, ← HLF.out]; rfl, by rw [hn.a6.cell, ← HLF.out, hT]; rfl, hn.q.c3, hn.q.c10, hn.q.fz 3, hn.q.fz 10, (hn.a6.set_other (q := ⟨p, 3, none⟩) n1 _).set_other (q := ⟨p, 10, none⟩) n1 _, (hn.ag.set_other (q := ⟨p, 3, none⟩) n2 _).set_other (q := ⟨p, 10, none⟩) n2 _⟩)
  rw [hfv]
  have hrr : ¬ room < sz := by omega
  clear h ho hA1 hB1 hnz hLF hFl hFo hfv hk hst hT 
  go_enter Tryz.func18, Tryz.ntmps18
  go_upto_region 1 with fail
  (try rw [hg])
  (try rw [hW1])
  go_wp2_with (first | (go_at_call 33; (with_reducible refine HD.out.mono ?_); rintro e w2 ⟨rfl, hb2⟩; obtain ⟨g6, W3, hg6, hW3, hN3⟩ := HX.out w2 hb2; have HN3 := Lib.hid hN3; clear hb2 hN3) | ((with_reducible refine at_st (x := .tmp 6) ?_); refine st_top w2 (frL (FN.zero 0) .nil .nil) LF (by rfl) g6 (by rfl) hg6.symm (by rfl) rfl HFl.out HFo.out ?_; rw [hW3]) | ((with_reducible refine at_ld ?_); refine ld_fr_g _ LF (by rfl) (by rfl) HN3.out.a6 HFl.out ?_) | (go_at_call 34; (with_reducible refine (HSZ.out _).mono ?_); rintro e w10 ⟨rfl, hb10⟩; have HN4 := Lib.hid (HN3.out.below hb10); obtain ⟨x0, x5, x3, x10, xf3, xf10, xA6, xAg⟩ := HC.out _ _ HN4.out; have HA6 := Lib.hid xA6; have HAg := Lib.hid xAg; clear xA6 xAg; clear hb10) | ((with_reducible refine at_ld ?_); refine ld_fr_g _ LF (by rfl) (by rfl) HA6.out HFl.out ?_) | ((with_reducible refine at_st (x := .tmp 4) ?_); refine st_at _ _ LF (by rfl) (by rfl) HAg.out (by rfl) HFl.out HFo.out ?_; intro w9 hA9 hk9; have HK9 := Lib.hid hk9; clear hk9) | fail)
  refine bodyPost_ret (results_cell_tmp 4 5 54 (by rfl) _ 54 _ _ _ (by rfl) (by rfl) hA9 Tryz.underlying54 rfl (by rw [HFl.out]; exact fr_info)) rfl ?_
  exact HE.out _ _ _ HN4.out HK9.out
theorem q_next (h : Qp w base p O X) (ho : X.ok) (room : Int) : Calls Tryz.prog 18 #[.pointer (some ⟨p, 0, none⟩), .int .i64 room] w (QPost (.tuple #[frV (dueF X (nxK X room)) .nil .nil, .bool (nxK X room != 0)]) base p O (nextX X (nxK X room)) w) := by
  rcases dueK_cases X with hk | hk | hk
  · have e : nxK X room = 0 := by unfold nxK; rw [hk]; rfl
    rw [e]
    exact q_next0 h ho room hk
  · by_cases hr : nxZ X ≤ room
    · have e : nxK X room = 1 := by unfold nxK; rw [hk, if_pos ⟨by omega, hr⟩]
      rw [e]
      exact q_next1 h ho room hk hr
    · have e : nxK X room = 0 := by unfold nxK; rw [if_neg (fun h => hr h.2)]
      rw [e]
      exact q_next1_no h ho room hk (by omega)
  · by_cases hr : nxZ X ≤ room
    · have e : nxK X room = 2 := by unfold nxK; rw [hk, if_pos ⟨by omega, hr⟩]
      rw [e]
      exact q_next2 h ho room hk hr
    · have e : nxK X room = 0 := by unfold nxK; rw [if_neg (fun h => hr h.2)]
      rw [e]
      exact q_next2_no h ho room hk (by omega)
end
end
section
set_option linter.unusedVariables false
set_option linter.unusedSimpArgs false
open Go.RowKit
def stF (X : QS) : FN := if X.asked = true then m5 X.id X.stop else FN.zero 0
/-- The cells beside the buffer. -/
def rxQ (X : QS) : RX := ⟨.int .u64 X.id, .int .u64 X.win, .int .u64 X.lim, .int .u64 X.code, .int .u64 X.fin, .int .i64 X.st, frL (stF X) .nil .nil ++ [.bool X.asked, .bool X.due, .bool X.again]⟩
def qrL (X : QS) (vb vc : Value) : List Value := rxL (rxQ X) [.int .u64 X.b.rd, .int .u64 X.b.hi, .int .u64 X.b.fi, .bool X.b.en, vb, vc]
/-- The document's receiver behind the pointer q, the blocks that it has. -/
def Qr (w : World) (base q : Nat) (O : Nat → Prop) (X : QS) : Prop := Rj (rxQ X) w base q O X.b
/-- What a call that changes it leaves. -/
def RqPost (r : Value) (base q : Nat) (O : Nat → Prop) (X' : QS) (w : World) (e : Ending) (w' : World) : Prop :=
  e = .returned r ∧ ∃ O', Qr w' base q O' X' ∧ Kept O w w' ∧ ∀ j, O' j → O j ∨ w.heap.size ≤ j
section
variable {w w' w1 : World} {base q : Nat} {O : Nat → Prop} {X X' : QS}
theorem Qr.lt (h : Qr w base q O X) : ∀ j, O j → base ≤ j ∧ j < w.heap.size := Rj.lt h
theorem Qr.own (h : Qr w base q O X) : O q := Rj.own_ h
theorem Qr.kept {T : Nat → Prop} (h : Qr w base q O X) (k : Kept T w w') (hs : ∀ j, O j → ¬ T j) : Qr w' base q O X := Rj.kept h k hs
theorem Qr.below (h : Qr w base q O X) (k : Below w.heap.size w w') : Qr w' base q O X := Rj.below h k
theorem Qr.drewN (h : Qr w base q O X) (n : Nat) : Qr (w.drewN n) base q O X := Rj.drewN h n
theorem Qr.at_ (h : Qr w base q O X) : ∃ vb vc, At w q 56 (qrL X vb vc) := Rj.at_ h
theorem Qr.set (h : Qr w base q O X) (j : Nat) (u : Value) (he : ∀ vb vc, (qrL X vb vc).set j u = qrL X' vb vc) (hb : X'.b = X.b) : Qr (w.setCell ⟨q, j, none⟩ u) base q O X' := by
  obtain ⟨vb, vc, B, C, e, h⟩ := h
  have k : Kept (fun b => b = q) w (w.setCell ⟨q, j, none⟩ u) := (Kept.refl (fun b => b = q) w).setCell (p := ⟨q, j, none⟩) (.inl rfl) u
  unfold Qr
  rw [hb]
  have ha := h.at_.set j u
  have he' := he vb vc
  unfold qrL at he'
  rw [he', hb] at ha
  exact ⟨vb, vc, B, C, e, ha, h.ob.kept k fun j hj e => h.n1 (by rw [hj, e]), ow_kept h.oc k fun j hj e => h.n2 (by rw [hj, e]), h.n1, h.n2, h.n3, h.bq, h.rm⟩
/-- Its own block is turned, but for the buffer. -/
theorem Qr.turn (h : Qr w base q O X) (hA : ∀ vb vc, At w q 56 (qrL X vb vc) → At w' q 56 (qrL X' vb vc)) (k : Kept (· = q) w w') (hb : X'.b = X.b) : Qr w' base q O X' := by
  obtain ⟨vb, vc, B, C, e, h⟩ := h
  unfold Qr
  rw [hb]
  have ha := hA vb vc h.at_
  unfold qrL at ha
  rw [hb] at ha
  exact ⟨vb, vc, B, C, e, ha, h.ob.kept k fun j hj e => h.n1 (by rw [hj, e]), ow_kept h.oc k fun j hj e => h.n2 (by rw [hj, e]), h.n1, h.n2, h.n3, h.bq, h.rm⟩
theorem Qr.same (h : Qr w base q O X) (k : Below w.heap.size w w') (r : Value) : RqPost r base q O X w (.returned r) w' := ⟨rfl, O, h.below k, Kept.of_below k O, fun j hj => .inl hj⟩
theorem Qr.top (h : Qr w base q O X) (h' : Qr w' base q O X') (k : Kept (· = q) w w') (r : Value) : RqPost r base q O X' w (.returned r) w' := ⟨rfl, O, h', k.mono fun j hj => .inl (by rw [hj]; exact h.own), fun j hj => .inl hj⟩
theorem RqPost.after {r : Value} {e : Ending} (k : Below w.heap.size w w1) (hP : RqPost r base q O X' w1 e w') : RqPost r base q O X' w e w' := by
  obtain ⟨he, O', h1, h2, h3⟩ := hP
  have := k.size
  exact ⟨he, O', h1, (Kept.of_below k O).trans h2, fun j hj => (h3 j hj).imp id fun h => by omega⟩
theorem Qr.c0 (h : Qr w base q O X) : w.cell? ⟨q, 0, none⟩ = some (.int .u64 X.id) := by obtain ⟨vb, vc, h⟩ := h.at_; rw [h.cell]; rfl
theorem Qr.c1 (h : Qr w base q O X) : w.cell? ⟨q, 1, none⟩ = some (.int .u64 X.win) := by obtain ⟨vb, vc, h⟩ := h.at_; rw [h.cell]; rfl
theorem Qr.c2 (h : Qr w base q O X) : w.cell? ⟨q, 2, none⟩ = some (.int .u64 X.lim) := by obtain ⟨vb, vc, h⟩ := h.at_; rw [h.cell]; rfl
theorem Qr.c3 (h : Qr w base q O X) : w.cell? ⟨q, 3, none⟩ = some (.int .u64 X.code) := by obtain ⟨vb, vc, h⟩ := h.at_; rw [h.cell]; rfl
theorem Qr.c4 (h : Qr w base q O X) : w.cell? ⟨q, 4, none⟩ = some (.int .u64 X.fin) := by obtain ⟨vb, vc, h⟩ := h.at_; rw [h.cell]; rfl
theorem Qr.c5 (h : Qr w base q O X) : w.cell? ⟨q, 5, none⟩ = some (.int .i64 X.st) := by obtain ⟨vb, vc, h⟩ := h.at_; rw [h.cell]; rfl
theorem Qr.c6 (h : Qr w base q O X) : w.cell? ⟨q, 6, none⟩ = some (.int .u64 X.b.rd) := by obtain ⟨vb, vc, h⟩ := h.at_; rw [h.cell]; rfl
theorem Qr.c7 (h : Qr w base q O X) : w.cell? ⟨q, 7, none⟩ = some (.int .u64 X.b.hi) := by obtain ⟨vb, vc, h⟩ := h.at_; rw [h.cell]; rfl
theorem Qr.c8 (h : Qr w base q O X) : w.cell? ⟨q, 8, none⟩ = some (.int .u64 X.b.fi) := by obtain ⟨vb, vc, h⟩ := h.at_; rw [h.cell]; rfl
theorem Qr.c9 (h : Qr w base q O X) : w.cell? ⟨q, 9, none⟩ = some (.bool X.b.en) := by obtain ⟨vb, vc, h⟩ := h.at_; rw [h.cell]; rfl
theorem Qr.c31 (h : Qr w base q O X) : w.cell? ⟨q, 31, none⟩ = some (.bool X.asked) := by obtain ⟨vb, vc, h⟩ := h.at_; rw [h.cell]; rfl
theorem Qr.c32 (h : Qr w base q O X) : w.cell? ⟨q, 32, none⟩ = some (.bool X.due) := by obtain ⟨vb, vc, h⟩ := h.at_; rw [h.cell]; rfl
theorem Qr.c33 (h : Qr w base q O X) : w.cell? ⟨q, 33, none⟩ = some (.bool X.again) := by obtain ⟨vb, vc, h⟩ := h.at_; rw [h.cell]; rfl
theorem Qr.fz (h : Qr w base q O X) (j : Nat) : w.frozen? ⟨q, j, none⟩ = false := by obtain ⟨vb, vc, h⟩ := h.at_; exact h.frozen j
theorem Qr.fr_ (h : Qr w base q O X) : w.rangeAt q 12 (frL (stF X) .nil .nil) := fun j v hv => by
  obtain ⟨vb, vc, h⟩ := h.at_
  have hj : j < 19 := (List.getElem?_eq_some_iff.1 hv).1
  have e : qrL X vb vc = [.int .u64 X.id, .int .u64 X.win, .int .u64 X.lim, .int .u64 X.code, .int .u64 X.fin, .int .i64 X.st, .int .u64 X.b.rd, .int .u64 X.b.hi, .int .u64 X.b.fi, .bool X.b.en, vb, vc] ++ (frL (stF X) .nil .nil ++ [.bool X.asked, .bool X.due, .bool X.again]) := rfl
  rw [h.cell, e, List.getElem?_append_right (by show 12 ≤ 12 + j; omega)]
  show (frL (stF X) .nil .nil ++ [.bool X.asked, .bool X.due, .bool X.again])[12 + j - 12]? = some v
  rw [Nat.add_sub_cancel_left, List.getElem?_append_left (by rw [frL_len]; exact hj)]
  exact hv
end
/-- What New leaves. -/
def RqNew (X : QS) (w : World) (e : Ending) (w' : World) : Prop := ∃ q, e = .returned (.pointer (some ⟨q, 0, none⟩)) ∧ (∃ O, Qr w' w.heap.size q O X) ∧ Below w.heap.size w w'
set_option maxRecDepth 100000 in
set_option maxHeartbeats 4000000 in
theorem rq_new (id win : Nat) (w : World) : Calls Tryz.prog 6 #[.int .u64 id, .int .u64 win] w (RqNew (qs0 id win) w) := by
  obtain ⟨m, hm⟩ : ∃ m, m = min win 2048 := ⟨_, rfl⟩
  have HF : Hid (∀ w', w' = w.alloc (.cells (qrL (qs0 id win) (.slice none 0 0) (.slice none 0 0)).toArray 56) → RqNew (qs0 id win) w (.returned (.pointer (some ⟨w.heap.size, 0, none⟩))) w') := Lib.hid (by
    rintro w' rfl
    refine ⟨_, rfl, ⟨rO w.heap.size (.slice none 0 0) (.slice none 0 0), .slice none 0 0, .slice none 0 0, [], [], rfl, ?_⟩, (Below.refl _ _).alloc (Nat.le_refl _) _⟩
    exact ⟨At.new w _ _, Own.none_ _ _ _, ow_nil _ _ _, (by intro h; cases h), (by intro h; cases h), (by intro k h; cases h), Nat.le_refl _, rm0⟩)
  have hmz : (if (2048 : Int) < (win : Int) then (2048 : Int) else (win : Int)) = (m : Int) := by rw [hm]; split <;> omega
  have HE : Hid (qrL (qs0 id win) (.slice none 0 0) (.slice none 0 0) = [.int .u64 id, .int .u64 m, .int .u64 m, .int .u64 0, .int .u64 0, .int .i64 1, .int .u64 0, .int .u64 0, .int .u64 0, .bool false, .slice none 0 0, .slice none 0 0, .int .i64 0, .int .u64 0, .int .u64 0, .slice none 0 0, .bool false, .int .u64 0, .int .u64 0, .int .u64 0, .int .u64 0, .int .u64 0, .slice none 0 0, .int .u8 0, .int .u8 0, .int .u8 0, .int .u8 0, .int .u8 0, .int .u8 0, .int .u8 0, .int .u8 0, .bool false, .bool false, .bool false]) := Lib.hid (by rw [hm]; rfl)
  clear hm
  go_enter Tryz.func6, Tryz.ntmps6
  go_wp2
  go_ret
  exact HF.out _ (by rw [HE.out])
section
variable {w w' w1 : World} {base p q : Nat} {O : Nat → Prop} {X X' : QS}
theorem rq_high (h : Qr w base q O X) : Calls Tryz.prog 40 #[.pointer (some ⟨q, 0, none⟩)] w fun e w' => e = .returned (.int .u64 (highQ X)) ∧ w' = w := by
  have h5 := h.c5
  have h4 := h.c4
  have h7 := h.c7
  unfold highQ
  clear h
  by_cases hc : 5 ≤ X.st
  · have hz : (5 : Int) ≤ (X.st : Int) := by omega
    rw [if_pos hc]
    clear hc
    go_enter Tryz.func40, Tryz.ntmps40
    go_wp2
    go_ret
    exact ⟨rfl, rfl⟩
  · have hz : ¬ (5 : Int) ≤ (X.st : Int) := by omega
    rw [if_neg hc]
    clear hc
    go_enter Tryz.func40, Tryz.ntmps40
    go_wp2
    go_ret
    exact ⟨rfl, rfl⟩
theorem rq_taken (h : Qr w base q O X) : Calls Tryz.prog 42 #[.pointer (some ⟨q, 0, none⟩)] w fun e w' => e = .returned (.int .u64 (takenQ X)) ∧ w' = w := by
  have h5 := h.c5
  have h4 := h.c4
  have h7 := h.c6
  unfold takenQ
  clear h
  by_cases hc : 5 ≤ X.st
  · have hz : (5 : Int) ≤ (X.st : Int) := by omega
    rw [if_pos hc]
    clear hc
    go_enter Tryz.func42, Tryz.ntmps42
    go_wp2
    go_ret
    exact ⟨rfl, rfl⟩
  · have hz : ¬ (5 : Int) ≤ (X.st : Int) := by omega
    rw [if_neg hc]
    clear hc
    go_enter Tryz.func42, Tryz.ntmps42
    go_wp2
    go_ret
    exact ⟨rfl, rfl⟩
end
end
end Go.Proofs.YtphpdaldplkgmaaGreat
