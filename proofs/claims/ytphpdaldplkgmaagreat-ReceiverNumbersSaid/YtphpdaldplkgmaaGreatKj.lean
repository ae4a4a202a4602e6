/-
  receiver.Receiver: due.
-/
import Derived.Test.YtphpdaldplkgmaaGreatKi
import Derived.Deep.Cut
namespace Go.Proofs.YtphpdaldplkgmaaGreat
set_option linter.unusedVariables false
set_option linter.unusedSimpArgs false
open Go.RowKit
def m5 (id stop : Nat) : FN := { FN.zero 5 with s := id, c := stop }
def m17 (id l : Nat) : FN := { FN.zero 17 with s := id, l := l }
theorem m5_wf {id stop : Nat} (h1 : id < 18446744073709551616) (h2 : stop < 18446744073709551616) : (m5 id stop).wf := by
  constructor <;> simp only [m5, FN.zero] <;> first | omega | (intro x hx; simp at hx; omega)
theorem m17_wf {id l : Nat} (h1 : id < 18446744073709551616) (h2 : l < 18446744073709551616) : (m17 id l).wf := by
  constructor <;> simp only [m17, FN.zero] <;> first | omega | (intro x hx; simp at hx; omega)
/-- What is to be sent, and is something. -/
def dueK (X : QS) : Nat := if X.due = true then 1 else if X.st = 1 ∧ (X.again = true ∨ X.lim + max (X.win / 2) 1 ≤ X.b.rd + X.win) then 2 else 0
def dueF (X : QS) (k : Nat) : FN := if k = 1 then m5 X.id X.stop else if k = 2 then m17 X.id (X.b.rd + X.win) else FN.zero 0
theorem dueF_kk (X : QS) (k : Nat) : (dueF X k).k = 0 ∨ (dueF X k).k = 5 ∨ (dueF X k).k = 17 := by
  unfold dueF
  split
  · exact .inr (.inl rfl)
  · split
    · exact .inr (.inr rfl)
    · exact .inl rfl
theorem q_zbox (W : World) : ∃ W1 : World, W.alloc (.cells #[.int .i64 0, .int .u64 0, .int .u64 0, .slice none 0 0, .bool false, .int .u64 0, .int .u64 0, .int .u64 0, .int .u64 0, .int .u64 0, .slice none 0 0, .int .u8 0, .int .u8 0, .int .u8 0, .int .u8 0, .int .u8 0, .int .u8 0, .int .u8 0, .int .u8 0] 54) = W1 ∧
    At W1 W.heap.size 54 (frL (FN.zero 0) .nil .nil) ∧ Below W.heap.size W W1 := ⟨_, rfl, At.new W _ (frL (FN.zero 0) .nil .nil), (Below.refl _ _).alloc (Nat.le_refl _) _⟩
section
variable {w w' w1 : World} {base p pb : Nat} {O Ob Ob' : Nat → Prop} {X X' : QS}
/-- What due meets. -/
structure DuF (w : World) (p g : Nat) (X : QS) (W : World) : Prop where
  b : Below w.heap.size w W
  c0 : W.cell? ⟨p, 0, none⟩ = some (.int .u64 X.id)
  c1 : W.cell? ⟨p, 1, none⟩ = some (.int .u64 X.win)
  c2 : W.cell? ⟨p, 2, none⟩ = some (.int .i64 X.st)
  c3 : W.cell? ⟨p, 3, none⟩ = some (.int .u64 X.lim)
  c8 : W.cell? ⟨p, 8, none⟩ = some (.int .u64 X.stop)
  c9 : W.cell? ⟨p, 9, none⟩ = some (.bool X.due)
  c10 : W.cell? ⟨p, 10, none⟩ = some (.bool X.again)
  at_ : At W g 54 (frL (FN.zero 0) .nil .nil)
theorem duF (h : Qp w base p O X) {W1 : World} (hB : Below w.heap.size w W1) (hA : At W1 w.heap.size 54 (frL (FN.zero 0) .nil .nil)) (j : Nat) : DuF w p w.heap.size X (W1.drewN j) := by
  have h1 := (h.below hB).drewN j
  exact ⟨belowN hB j, h1.c0, h1.c1, h1.c2, h1.c3, h1.c8, h1.c9, h1.c10, hA.drewN j⟩

set_option maxHeartbeats 16000000 in
set_option maxRecDepth 100000 in
theorem q_due1 (h : Qp w base p O X) (ho : X.ok) (hdue : X.due = true) : Calls Tryz.prog 33 #[.pointer (some ⟨p, 0, none⟩)] w fun e w' => e = .returned (.tuple #[frV (dueF X 1) .nil .nil, .bool true]) ∧ Below w.heap.size w w' := by
  obtain ⟨W1, hW1, hA1, hB1⟩ := q_zbox w
  have HDF := Lib.hid (fun j => duF h hB1 hA1 j)
  have h1 := h.below hB1
  have HB := Lib.hid hB1
  have c2 := h1.c2
  have c9 := h1.c9
  rw [hdue] at c9
  obtain ⟨g, hg⟩ : ∃ g, w.heap.size = g := ⟨_, rfl⟩
  have HGE : Hid (w.heap.size ≤ g) := Lib.hid (Nat.le_of_eq hg)
  have HPL : Hid (p < w.heap.size ∧ p ≠ g) := Lib.hid (by have := (h.lt p h.own).2; exact ⟨this, by omega⟩)
  rw [hg] at HDF
  obtain ⟨LF, hLF⟩ : ∃ LF, frL (m5 X.id X.stop) .nil .nil = LF := ⟨_, rfl⟩
  have hFl : LF.length = 19 := by rw [← hLF]; rfl
  have hFo : LF.all (·.oneCell') = true := by rw [← hLF]; rfl
  have HLF := Lib.hid hLF
  have HFl := Lib.hid hFl
  have HFo := Lib.hid hFo
  have hfv : frV (dueF X 1) .nil .nil = .agg LF.toArray := by rw [← hLF]; rfl
  rw [hfv]
  clear hLF hFl hFo hfv
  clear h ho h1 hA1 hB1 hdue
  go_enter Tryz.func33, Tryz.ntmps33
  go_upto_region 1 with fail
  (try rw [hg])
  (try rw [hW1])
  go_wp2_with fail
  obtain ⟨Y, hY⟩ : ∃ Y, W1.drew = Y := ⟨_, rfl⟩
  obtain ⟨yb, y0, y1, y2, y3, y8, y9, y10, yA⟩ := HDF.out 1
  change Below _ _ W1.drew at yb
  change W1.drew.cell? _ = _ at y0 y8
  change At W1.drew _ _ _ at yA
  rw [hY] at yb y0 y8 yA
  have HYA := Lib.hid yA
  have HYB := Lib.hid yb
  have HK8 : Hid (∀ w8, Kept (· = g) Y w8 → w8.cell? ⟨p, 0, none⟩ = some (.int .u64 X.id) ∧ w8.cell? ⟨p, 8, none⟩ = some (.int .u64 X.stop)) := Lib.hid (fun w8 k => by
    have hp : ∀ o, w8.cell? ⟨p, o, none⟩ = Y.cell? ⟨p, o, none⟩ := fun o => k.cell (Nat.lt_of_lt_of_le HPL.out.1 HYB.out.size) HPL.out.2
    rw [hp, hp]; exact ⟨y0, y8⟩)
  clear yb y1 y2 y3 y9 y10 yA HDF c2 c9
  refine wp_region_held_drew (S := (fun W => W.cell? ⟨p, 0, none⟩ = some (.int .u64 X.id) ∧ W.cell? ⟨p, 8, none⟩ = some (.int .u64 X.stop))) (by kernel_rfl) (by rw [hY]; exact ⟨y0, y8⟩) (fun hHeld => ?_)
  rw [hY] at hHeld ⊢
  clear hY
  refine tkq 0 (some 9) (v := ?_) rfl (Or.inl ⟨by rfl, ?_⟩) (by assumption) ?_
  rotate_left
  · intro w hSw; (try dsimp only at hSw); go_simp; first | done | (with_reducible rfl)
  simp only [Act.put, List.setIfInBounds_toArray, List.set_cons_zero, List.set_cons_succ]
  refine tkq 1 (some 10) (v := ?_) rfl (Or.inl ⟨by rfl, ?_⟩) (by assumption) ?_
  rotate_left
  · intro w hSw; (try dsimp only at hSw); go_simp; first | done | (with_reducible rfl)
  simp only [Act.put, List.setIfInBounds_toArray, List.set_cons_zero, List.set_cons_succ]
  refine tkq 2 (some 11) (v := ?_) rfl (Or.inl ⟨by rfl, ?_⟩) (by assumption) ?_
  rotate_left
  · intro w hSw; (try dsimp only at hSw); go_simp; first | done | (with_reducible rfl)
  simp only [Act.put, List.setIfInBounds_toArray, List.set_cons_zero, List.set_cons_succ]
  refine tkq 3 (some 12) (v := ?_) rfl (Or.inl ⟨by rfl, ?_⟩) (by assumption) ?_
  rotate_left
  · intro w hSw; (try dsimp only at hSw); go_simp; first | done | (with_reducible rfl)
  simp only [Act.put, List.setIfInBounds_toArray, List.set_cons_zero, List.set_cons_succ]
  refine tkq 4 (some 13) (v := ?_) rfl (Or.inl ⟨by rfl, ?_⟩) (by assumption) ?_
  rotate_left
  · intro w hSw; (try dsimp only at hSw); go_simp; first | done | (with_reducible rfl)
  simp only [Act.put, List.setIfInBounds_toArray, List.set_cons_zero, List.set_cons_succ]
  refine tkq 5 (some 14) (v := ?_) rfl (Or.inl ⟨by rfl, ?_⟩) (by assumption) ?_
  rotate_left
  · intro w hSw; (try dsimp only at hSw); go_simp; first | done | (with_reducible rfl)
  simp only [Act.put, List.setIfInBounds_toArray, List.set_cons_zero, List.set_cons_succ]
  refine tkq 6 (some 15) (v := ?_) rfl (Or.inl ⟨by rfl, ?_⟩) (by assumption) ?_
  rotate_left
  · intro w hSw; (try dsimp only at hSw); go_simp; first | done | (with_reducible rfl)
  simp only [Act.put, List.setIfInBounds_toArray, List.set_cons_zero, List.set_cons_succ]
  refine tkq 7 (some 16) (v := ?_) rfl (Or.inl ⟨by rfl, ?_⟩) (by assumption) ?_
  rotate_left
  · intro w hSw; (try dsimp only at hSw); go_simp; first | done | (with_reducible rfl)
  simp only [Act.put, List.setIfInBounds_toArray, List.set_cons_zero, List.set_cons_succ]
  refine tkq 8 (some 17) (v := ?_) rfl (Or.inl ⟨by rfl, ?_⟩) (by assumption) ?_
  rotate_left
  · intro w hSw; (try dsimp only at hSw); go_simp; first | done | (with_reducible rfl)
  simp only [Act.put, List.setIfInBounds_toArray, List.set_cons_zero, List.set_cons_succ]
  refine wpAnyH_ready (rs := [9]) (by kernel_rfl) (by simp) ?_
  refine AllReadyH.cons rfl (fun K hK => ?_) AllReadyH.nil
  refine step_st_any (by rfl) g 54 (frL (FN.zero 0) .nil .nil) LF (by rfl) (by rw [← HLF.out]; rfl) HYA.out (by rw [HFl.out]; rfl) (by rw [HFl.out]; kernel_rfl) HFo.out ?_
  intro w8 hAn hkn
  refine hK.out _ _ ((HK8.out w8 hkn)) (fun hHeld => ?_)
  clear hK K
  refine tkq 10 (some 3) (v := ?_) rfl (Or.inl ⟨by rfl, ?_⟩) (by assumption) ?_
  rotate_left
  · intro w hSw; (try dsimp only at hSw); go_simp; first | done | (with_reducible rfl)
  simp only [Act.put, List.setIfInBounds_toArray, List.set_cons_zero, List.set_cons_succ]
  refine wpAnyH_done (by kernel_rfl) ?_ _
  have HA8 := Lib.hid hAn
  have HB8 := Lib.hid (hkn.below HYB.out (Nat.le_trans HGE.out (Nat.le_of_lt HYA.out.lt)) (fun j hj => by have := HGE.out; omega))
  clear hAn hkn
  go_wp2_with fail
  refine bodyPost_ret (results_cell_tmp 2 3 54 (by rfl) _ 54 _ _ _ (by rfl) (by rfl) HA8.out Tryz.underlying54 rfl (by rw [HFl.out]; exact fr_info)) rfl ?_
  exact ⟨rfl, HB8.out⟩
set_option maxHeartbeats 16000000 in
set_option maxRecDepth 100000 in
theorem q_due0 (h : Qp w base p O X) (ho : X.ok) (hdue : X.due = false) (hst : X.st ≠ 1) : Calls Tryz.prog 33 #[.pointer (some ⟨p, 0, none⟩)] w fun e w' => e = .returned (.tuple #[frV (dueF X 0) .nil .nil, .bool false]) ∧ Below w.heap.size w w' := by
  obtain ⟨W1, hW1, hA1, hB1⟩ := q_zbox w
  have HDF := Lib.hid (fun j => duF h hB1 hA1 j)
  have h1 := h.below hB1
  have HB := Lib.hid hB1
  have c2 := h1.c2
  have c9 := h1.c9
  rw [hdue] at c9
  have hk : X.st = 2 ∨ X.st = 3 ∨ X.st = 4 ∨ X.st = 5 ∨ X.st = 6 := by have := ho.st; omega
  obtain ⟨g, hg⟩ : ∃ g, w.heap.size = g := ⟨_, rfl⟩
  have HGE : Hid (w.heap.size ≤ g) := Lib.hid (Nat.le_of_eq hg)
  have HPL : Hid (p < w.heap.size ∧ p ≠ g) := Lib.hid (by have := (h.lt p h.own).2; exact ⟨this, by omega⟩)
  rw [hg] at HDF
  have HA0 : Hid (At W1 g 54 (frL (FN.zero 0) .nil .nil)) := Lib.hid (by rw [← hg]; exact hA1)
  clear h ho h1 hA1 hB1 hdue hst
  rcases hk with hk | hk | hk | hk | hk
  all_goals
    rw [hk] at c2
    clear hk
    go_enter Tryz.func33, Tryz.ntmps33
    go_upto_region 1 with fail
    (try rw [hg])
    (try rw [hW1])
    go_wp2_with (first | ((with_reducible refine at_st (x := .tmp 2) ?_); refine st_at _ _ (frL (FN.zero 0) .nil .nil) (by rfl) (by rfl) HA0.out (by rfl) (by rfl) (by rfl) ?_; intro w9 hA9 hk9) | fail)
    refine bodyPost_ret (results_cell_tmp 2 3 54 (by rfl) _ 54 _ _ _ (by rfl) (by rfl) hA9 Tryz.underlying54 rfl fr_info) rfl ?_
    exact ⟨rfl, hk9.below HB.out HB.out.size (fun j hj => by have := HGE.out; omega)⟩
set_option maxHeartbeats 16000000 in
set_option maxRecDepth 100000 in
theorem q_due00 (h : Qp w base p O X) (ho : X.ok) (hdue : X.due = false) (hst : X.st = 1) (hag : X.again = false) (hD2 : X.b.rd + X.win < X.lim + max (X.win / 2) 1) : Calls Tryz.prog 33 #[.pointer (some ⟨p, 0, none⟩)] w fun e w' => e = .returned (.tuple #[frV (dueF X 0) .nil .nil, .bool false]) ∧ Below w.heap.size w w' := by
  obtain ⟨W1, hW1, hA1, hB1⟩ := q_zbox w
  have HDF := Lib.hid (fun j => duF h hB1 hA1 j)
  have h1 := h.below hB1
  have HB := Lib.hid hB1
  have c2 := h1.c2
  have c9 := h1.c9
  rw [hdue] at c9
  rw [hst] at c2
  have HT := Lib.hid (fun j => Calls.quiet_of_same (q_taken (h1.drewN j) ho))
  have hT0 : takenQ X = X.b.rd := by unfold takenQ; rw [if_neg (by omega)]
  rw [hT0] at HT
  have c1 := h1.c1
  obtain ⟨T, hT⟩ : ∃ T, T = X.b.rd + X.win := ⟨_, rfl⟩
  have hb1 : X.b.rd ≤ 1099511628288 := by have := ho.b.rh; have := ho.b.hm; omega
  have hb2 : X.win ≤ 2048 := ho.win
  have hTz : (X.b.rd : Int) + (X.win : Int) = (T : Int) := by omega
  have hTb : T ≤ 1099511640000 := by omega
  have hTw : IntKind.u64.wrap (T : Int) = (T : Int) := by rw [IntKind.wrap_u64]; omega
  have hlw : X.lim ≤ T := by rw [hT]; exact ho.lw
  obtain ⟨D, hD⟩ : ∃ D, D = T - X.lim := ⟨_, rfl⟩
  have hDz : (T : Int) - (X.lim : Int) = (D : Int) := by omega
  have hDw : IntKind.u64.wrap (D : Int) = (D : Int) := by rw [IntKind.wrap_u64]; omega
  obtain ⟨H, hH⟩ : ∃ H, H = X.win / 2 := ⟨_, rfl⟩
  have hHz : (X.win : Int).tdiv 2 = (H : Int) := by rw [hH, Int.tdiv_eq_ediv_of_nonneg (by omega)]; omega
  have hHw : IntKind.u64.wrap (H : Int) = (H : Int) := by rw [IntKind.wrap_u64]; omega
  obtain ⟨MX, hMX⟩ : ∃ MX, MX = max H 1 := ⟨_, rfl⟩
  have hMz : (if (H : Int) < 1 then (1 : Int) else (H : Int)) = (MX : Int) := by rw [hMX]; split <;> omega
  obtain ⟨g, hg⟩ : ∃ g, w.heap.size = g := ⟨_, rfl⟩
  have HGE : Hid (w.heap.size ≤ g) := Lib.hid (Nat.le_of_eq hg)
  have HPL : Hid (p < w.heap.size ∧ p ≠ g) := Lib.hid (by have := (h.lt p h.own).2; exact ⟨this, by omega⟩)
  rw [hg] at HDF
  have hDM : (D : Int) < (MX : Int) := by omega
  clear hD2
  clear h ho h1 hA1 hB1 hdue hst hT hD hH hMX hT0
  go_enter Tryz.func33, Tryz.ntmps33
  go_upto_region 1 with fail
  (try rw [hg])
  (try rw [hW1])
  go_wp2_with fail
  go_quiet ((go_at_call 41; (with_reducible exact HT.out _)))
  go_wp2_with fail
  have hK3 := HDF.out nq
  obtain ⟨W3, hW3⟩ : ∃ W, W1.drewN nq = W := ⟨_, rfl⟩
  rw [hW3] at hK3 ⊢
  clear hW3
  obtain ⟨yb, y0, y1, y2, y3, y8, y9, y10, yA⟩ := hK3
  have HYA := Lib.hid yA
  have HYB := Lib.hid yb
  clear yb yA y2 y8 y9 HDF HT c2 c9 c1
  rw [hag] at y10
  clear hag
  go_quiet (fail)
  go_wp2_with (first | ((with_reducible refine at_st (x := .tmp 2) ?_); refine st_at _ _ (frL (FN.zero 0) .nil .nil) (by rfl) (by rfl) (HYA.out.drewN nq) (by rfl) (by rfl) (by rfl) ?_; intro w9 hA9 hk9) | fail)
  refine bodyPost_ret (results_cell_tmp 2 3 54 (by rfl) _ 54 _ _ _ (by rfl) (by rfl) hA9 Tryz.underlying54 rfl fr_info) rfl ?_
  exact ⟨rfl, hk9.below (belowN HYB.out nq) HYB.out.size (fun j hj => by have := HGE.out; omega)⟩
set_option maxHeartbeats 16000000 in
set_option maxRecDepth 100000 in
theorem q_due2a (h : Qp w base p O X) (ho : X.ok) (hdue : X.due = false) (hst : X.st = 1) (hag : X.again = true) : Calls Tryz.prog 33 #[.pointer (some ⟨p, 0, none⟩)] w fun e w' => e = .returned (.tuple #[frV (dueF X 2) .nil .nil, .bool true]) ∧ Below w.heap.size w w' := by
  obtain ⟨W1, hW1, hA1, hB1⟩ := q_zbox w
  have HDF := Lib.hid (fun j => duF h hB1 hA1 j)
  have h1 := h.below hB1
  have HB := Lib.hid hB1
  have c2 := h1.c2
  have c9 := h1.c9
  rw [hdue] at c9
  rw [hst] at c2
  have HT := Lib.hid (fun j => Calls.quiet_of_same (q_taken (h1.drewN j) ho))
  have hT0 : takenQ X = X.b.rd := by unfold takenQ; rw [if_neg (by omega)]
  rw [hT0] at HT
  have c1 := h1.c1
  obtain ⟨T, hT⟩ : ∃ T, T = X.b.rd + X.win := ⟨_, rfl⟩
  have hb1 : X.b.rd ≤ 1099511628288 := by have := ho.b.rh; have := ho.b.hm; omega
  have hb2 : X.win ≤ 2048 := ho.win
  have hTz : (X.b.rd : Int) + (X.win : Int) = (T : Int) := by omega
  have hTb : T ≤ 1099511640000 := by omega
  have hTw : IntKind.u64.wrap (T : Int) = (T : Int) := by rw [IntKind.wrap_u64]; omega
  have hlw : X.lim ≤ T := by rw [hT]; exact ho.lw
  obtain ⟨D, hD⟩ : ∃ D, D = T - X.lim := ⟨_, rfl⟩
  have hDz : (T : Int) - (X.lim : Int) = (D : Int) := by omega
  have hDw : IntKind.u64.wrap (D : Int) = (D : Int) := by rw [IntKind.wrap_u64]; omega
  obtain ⟨H, hH⟩ : ∃ H, H = X.win / 2 := ⟨_, rfl⟩
  have hHz : (X.win : Int).tdiv 2 = (H : Int) := by rw [hH, Int.tdiv_eq_ediv_of_nonneg (by omega)]; omega
  have hHw : IntKind.u64.wrap (H : Int) = (H : Int) := by rw [IntKind.wrap_u64]; omega
  obtain ⟨MX, hMX⟩ : ∃ MX, MX = max H 1 := ⟨_, rfl⟩
  have hMz : (if (H : Int) < 1 then (1 : Int) else (H : Int)) = (MX : Int) := by rw [hMX]; split <;> omega
  obtain ⟨g, hg⟩ : ∃ g, w.heap.size = g := ⟨_, rfl⟩
  have HGE : Hid (w.heap.size ≤ g) := Lib.hid (Nat.le_of_eq hg)
  have HPL : Hid (p < w.heap.size ∧ p ≠ g) := Lib.hid (by have := (h.lt p h.own).2; exact ⟨this, by omega⟩)
  rw [hg] at HDF
  obtain ⟨LF, hLF⟩ : ∃ LF, frL (m17 X.id T) .nil .nil = LF := ⟨_, rfl⟩
  have hFl : LF.length = 19 := by rw [← hLF]; rfl
  have hFo : LF.all (·.oneCell') = true := by rw [← hLF]; rfl
  have HLF := Lib.hid hLF
  have HFl := Lib.hid hFl
  have HFo := Lib.hid hFo
  have hfv : frV (dueF X 2) .nil .nil = .agg LF.toArray := by rw [← hLF, hT]; rfl
  rw [hfv]
  clear hLF hFl hFo hfv
  clear h ho h1 hA1 hB1 hdue hst hT hD hH hMX hT0
  go_enter Tryz.func33, Tryz.ntmps33
  go_upto_region 1 with fail
  (try rw [hg])
  (try rw [hW1])
  go_wp2_with fail
  go_quiet ((go_at_call 41; (with_reducible exact HT.out _)))
  go_wp2_with fail
  have hK3 := HDF.out nq
  obtain ⟨W3, hW3⟩ : ∃ W, W1.drewN nq = W := ⟨_, rfl⟩
  rw [hW3] at hK3 ⊢
  clear hW3
  obtain ⟨yb, y0, y1, y2, y3, y8, y9, y10, yA⟩ := hK3
  have HYA := Lib.hid yA
  have HYB := Lib.hid yb
  clear yb yA y2 y8 y9 HDF HT c2 c9 c1
  rw [hag] at y10
  clear hag
  go_quiet (fail)
  go_wp2_with (first | ((with_reducible refine at_st (x := .tmp 2) ?_); refine st_at _ _ LF (by rfl) (by rw [← HLF.out]; rfl) (HYA.out.drewN nq) (by rfl) HFl.out HFo.out ?_; intro w9 hA9 hk9) | fail)
  refine bodyPost_ret (results_cell_tmp 2 3 54 (by rfl) _ 54 _ _ _ (by rfl) (by rfl) hA9 Tryz.underlying54 rfl (by rw [HFl.out]; exact fr_info)) rfl ?_
  exact ⟨rfl, hk9.below (belowN HYB.out nq) HYB.out.size (fun j hj => by have := HGE.out; omega)⟩
set_option maxHeartbeats 16000000 in
set_option maxRecDepth 100000 in
theorem q_due2b (h : Qp w base p O X) (ho : X.ok) (hdue : X.due = false) (hst : X.st = 1) (hag : X.again = false) (hD2 : X.lim + max (X.win / 2) 1 ≤ X.b.rd + X.win) : Calls Tryz.prog 33 #[.pointer (some ⟨p, 0, none⟩)] w fun e w' => e = .returned (.tuple #[frV (dueF X 2) .nil .nil, .bool true]) ∧ Below w.heap.size w w' := by
  obtain ⟨W1, hW1, hA1, hB1⟩ := q_zbox w
  have HDF := Lib.hid (fun j => duF h hB1 hA1 j)
  have h1 := h.below hB1
  have HB := Lib.hid hB1
  have c2 := h1.c2
  have c9 := h1.c9
  rw [hdue] at c9
  rw [hst] at c2
  have HT := Lib.hid (fun j => Calls.quiet_of_same (q_taken (h1.drewN j) ho))
  have hT0 : takenQ X = X.b.rd := by unfold takenQ; rw [if_neg (by omega)]
  rw [hT0] at HT
  have c1 := h1.c1
  obtain ⟨T, hT⟩ : ∃ T, T = X.b.rd + X.win := ⟨_, rfl⟩
  have hb1 : X.b.rd ≤ 1099511628288 := by have := ho.b.rh; have := ho.b.hm; omega
  have hb2 : X.win ≤ 2048 := ho.win
  have hTz : (X.b.rd : Int) + (X.win : Int) = (T : Int) := by omega
  have hTb : T ≤ 1099511640000 := by omega
  have hTw : IntKind.u64.wrap (T : Int) = (T : Int) := by rw [IntKind.wrap_u64]; omega
  have hlw : X.lim ≤ T := by rw [hT]; exact ho.lw
  obtain ⟨D, hD⟩ : ∃ D, D = T - X.lim := ⟨_, rfl⟩
  have hDz : (T : Int) - (X.lim : Int) = (D : Int) := by omega
  have hDw : IntKind.u64.wrap (D : Int) = (D : Int) := by rw [IntKind.wrap_u64]; omega
  obtain ⟨H, hH⟩ : ∃ H, H = X.win / 2 := ⟨_, rfl⟩
  have hHz : (X.win : Int).tdiv 2 = (H : Int) := by rw [hH, Int.tdiv_eq_ediv_of_nonneg (by omega)]; omega
  have hHw : IntKind.u64.wrap (H : Int) = (H : Int) := by rw [IntKind.wrap_u64]; omega
  obtain ⟨MX, hMX⟩ : ∃ MX, MX = max H 1 := ⟨_, rfl⟩
  have hMz : (if (H : Int) < 1 then (1 : Int) else (H : Int)) = (MX : Int) := by rw [hMX]; split <;> omega
  obtain ⟨g, hg⟩ : ∃ g, w.heap.size = g := ⟨_, rfl⟩
  have HGE : Hid (w.heap.size ≤ g) := Lib.hid (Nat.le_of_eq hg)
  have HPL : Hid (p < w.heap.size ∧ p ≠ g) := Lib.hid (by have := (h.lt p h.own).2; exact ⟨this, by omega⟩)
  rw [hg] at HDF
  have hDM : ¬ (D : Int) < (MX : Int) := by omega
  clear hD2
  obtain ⟨LF, hLF⟩ : ∃ LF, frL (m17 X.id T) .nil .nil = LF := ⟨_, rfl⟩
  have hFl : LF.length = 19 := by rw [← hLF]; rfl
  have hFo : LF.all (·.oneCell') = true := by rw [← hLF]; rfl
  have HLF := Lib.hid hLF
  have HFl := Lib.hid hFl
  have HFo := Lib.hid hFo
  have hfv : frV (dueF X 2) .nil .nil = .agg LF.toArray := by rw [← hLF, hT]; rfl
  rw [hfv]
  clear hLF hFl hFo hfv
  clear h ho h1 hA1 hB1 hdue hst hT hD hH hMX hT0
  go_enter Tryz.func33, Tryz.ntmps33
  go_upto_region 1 with fail
  (try rw [hg])
  (try rw [hW1])
  go_wp2_with fail
  go_quiet ((go_at_call 41; (with_reducible exact HT.out _)))
  go_wp2_with fail
  have hK3 := HDF.out nq
  obtain ⟨W3, hW3⟩ : ∃ W, W1.drewN nq = W := ⟨_, rfl⟩
  rw [hW3] at hK3 ⊢
  clear hW3
  obtain ⟨yb, y0, y1, y2, y3, y8, y9, y10, yA⟩ := hK3
  have HYA := Lib.hid yA
  have HYB := Lib.hid yb
  clear yb yA y2 y8 y9 HDF HT c2 c9 c1
  rw [hag] at y10
  clear hag
  go_quiet (fail)
  go_wp2_with (first | ((with_reducible refine at_st (x := .tmp 2) ?_); refine st_at _ _ LF (by rfl) (by rw [← HLF.out]; rfl) (HYA.out.drewN nq) (by rfl) HFl.out HFo.out ?_; intro w9 hA9 hk9) | fail)
  refine bodyPost_ret (results_cell_tmp 2 3 54 (by rfl) _ 54 _ _ _ (by rfl) (by rfl) hA9 Tryz.underlying54 rfl (by rw [HFl.out]; exact fr_info)) rfl ?_
  exact ⟨rfl, hk9.below (belowN HYB.out nq) HYB.out.size (fun j hj => by have := HGE.out; omega)⟩
theorem q_due (h : Qp w base p O X) (ho : X.ok) : Calls Tryz.prog 33 #[.pointer (some ⟨p, 0, none⟩)] w fun e w' => e = .returned (.tuple #[frV (dueF X (dueK X)) .nil .nil, .bool (dueK X != 0)]) ∧ Below w.heap.size w w' := by
  cases hd : X.due with
  | true =>
    have e : dueK X = 1 := by unfold dueK; rw [if_pos hd]
    rw [e]
    exact q_due1 h ho hd
  | false =>
    by_cases hst : X.st = 1
    · cases ha : X.again with
      | true =>
        have e : dueK X = 2 := by unfold dueK; rw [hd, if_neg (by simp), if_pos ⟨hst, .inl ha⟩]
        rw [e]
        exact q_due2a h ho hd hst ha
      | false =>
        by_cases hm : X.lim + max (X.win / 2) 1 ≤ X.b.rd + X.win
        · have e : dueK X = 2 := by unfold dueK; rw [hd, if_neg (by simp), if_pos ⟨hst, .inr hm⟩]
          rw [e]
          exact q_due2b h ho hd hst ha hm
        · have e : dueK X = 0 := by unfold dueK; rw [hd, if_neg (by simp), if_neg (by rw [ha]; rintro ⟨_, h | h⟩ <;> first | cases h | omega)]
          rw [e]
          exact q_due00 h ho hd hst ha (by omega)
    · have e : dueK X = 0 := by unfold dueK; rw [hd, if_neg (by simp), if_neg (fun h => hst h.1)]
      rw [e]
      exact q_due0 h ho hd hst
end
end Go.Proofs.YtphpdaldplkgmaaGreat
