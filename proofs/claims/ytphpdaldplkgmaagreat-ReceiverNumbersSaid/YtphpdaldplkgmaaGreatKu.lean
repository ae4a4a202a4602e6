/-
  The document's receiver: Next.
-/
import Derived.Test.YtphpdaldplkgmaaGreatMq19
import Derived.Test.YtphpdaldplkgmaaGreatFqq
import Derived.Deep.Cut
namespace Go.Proofs.YtphpdaldplkgmaaGreat
set_option linter.unusedVariables false
set_option linter.unusedSimpArgs false
open Go.RowKit
theorem m5_right {id stop : Nat} (h1 : id ≤ 4611686018427387903) (h2 : stop ≤ 4611686018427387903) : rightB (m5 id stop) [] [] = true := by
  have := rightB_5 id 0 0 stop 0 0 0 0 0 0 0 0 0 0 0 false [] [] 0 rfl (by omega) (by decide) (by decide) (by omega) (by decide) (by decide) (by decide)
  rw [show m5 id stop = ⟨5, id, 0, false, 0, stop, 0, 0, 0, 0, 0, 0, 0, 0, 0, 0, 0⟩ from rfl, this]
  have h3 : ((id : Nat) : Int) ≤ 4611686018427387903 := by omega
  have h4 : ((stop : Nat) : Int) ≤ 4611686018427387903 := by omega
  simp [smL, h3, h4]
theorem m17_right {id l : Nat} (h1 : id ≤ 4611686018427387903) (h2 : l ≤ 1099511627776) : rightB (m17 id l) [] [] = true := by
  have := rightB_17 id 0 l 0 0 0 0 0 0 0 0 0 0 0 0 false [] [] 0 rfl (by omega) (by decide) (by omega) (by decide) (by decide) (by decide) (by decide)
  rw [show m17 id l = ⟨17, id, 0, false, l, 0, 0, 0, 0, 0, 0, 0, 0, 0, 0, 0, 0⟩ from rfl, this]
  have h3 : ((id : Nat) : Int) ≤ 4611686018427387903 := by omega
  have h4 : ((l : Nat) : Int) ≤ 1099511627776 := by omega
  simp [smL, h3, h4]
theorem dueF_right {X : QS} (ho : X.ok) (hid : X.id ≤ 4611686018427387903) (hl : X.b.rd + X.win ≤ 1099511627776) {k : Nat} (hk : k = 1 ∨ k = 2) : rightB (dueF X k) [] [] = true := by
  unfold dueF
  rcases hk with rfl | rfl
  · exact m5_right hid ho.sp
  · exact m17_right hid hl
section
variable {w w' w1 W : World} {base p q g : Nat} {O O2 : Nat → Prop} {X X' : QS}
/-- What the document's Next meets: the frame's own block. -/
structure RnW (w : World) (base q g : Nat) (O : Nat → Prop) (X : QS) (W : World) : Prop where
  b : Below w.heap.size w W
  q_ : Qr W base q O X
  ag : At W g 54 (frL (FN.zero 0) .nil .nil)
  g0 : w.heap.size ≤ g
  gq : q ≠ g
theorem RnW.below {W' : World} (h : RnW w base q g O X W) (k : Below W.heap.size W W') : RnW w base q g O X W' := ⟨h.b.trans (k.mono h.b.size), h.q_.below k, h.ag.below k h.ag.lt, h.g0, h.gq⟩
theorem RnW.drewN (h : RnW w base q g O X W) (n : Nat) : RnW w base q g O X (W.drewN n) := h.below (belowN (Below.refl _ _) n)
theorem rnW (h : Qr w base q O X) {W1 : World} (hB : Below w.heap.size w W1) (hA : At W1 w.heap.size 54 (frL (FN.zero 0) .nil .nil)) : RnW w base q w.heap.size O X W1 := ⟨hB, h.below hB, hA, Nat.le_refl _, fun e => by have := (h.lt q h.own).2; omega⟩
/-- The frame's own block is stored last. -/
theorem RnW.fin {W9 : World} (h : RnW w base q g O X W) (hw : Qr w base q O X) (k : Kept (· = g) W W9) (r : Value) : RqPost r base q O X w (.returned r) W9 :=
  hw.same (k.below h.b h.b.size fun j hj => by have := h.g0; omega) r
theorem RnW.fin2 {W5 W9 : World} (h : RnW w base q g O X W) (hw : Qr w base q O X) (h5 : Qr W5 base q O X') (k5 : Kept (· = q) W W5) (k : Kept (· = g) W5 W9) (r : Value) : RqPost r base q O X' w (.returned r) W9 := by
  have hg0 := h.g0
  refine ⟨rfl, O, h5.kept k (fun j hj e => by have := (hw.lt j hj).2; omega), ?_, fun j hj => .inl hj⟩
  exact ((Kept.of_below h.b O).trans' k5 fun j hj => .inl (by rw [hj]; exact hw.own)).trans' k fun j hj => .inr (by omega)

set_option maxHeartbeats 16000000 in
set_option maxRecDepth 100000 in
theorem rq_next1 (h : Qr w base q O X) (ho : X.ok) (hid : X.id ≤ 4611686018427387903) (hlm : X.b.rd + X.win ≤ 1099511627776) (room : Int) (hdk : dueK X = 1) (hr : nxZ X ≤ room) : Calls Tryz.prog 19 #[.pointer (some ⟨q, 0, none⟩), .int .i64 room] w (RqPost (.tuple #[frV (dueF X 1) .nil .nil, .bool true]) base q O (nextX X 1) w) := by
  obtain ⟨W1, hW1, hA1, hB1⟩ := q_zbox w
  have HK := Lib.hid (rnW h hB1 hA1)
  have HW := Lib.hid h
  have c32 := HK.out.q_.c32
  obtain ⟨g, hg⟩ : ∃ g, w.heap.size = g := ⟨_, rfl⟩
  rw [hg] at HK
  have hright := dueF_right ho hid hlm (k := 1) (by omega)
  have hzs : nxZ X = ((oneS (dueF X 1) [] []).length : Int) := by unfold nxZ sizeF; rw [hdk, if_pos hright]
  have HON := Lib.hid (fun (W2 : World) => rone_any (fun _ => True) (dueF X 1) .nil .nil [] [] W2 ⟨dueF_wf ho 1, InD.nil_ _ _, InR.nil_ _ _⟩ hright (dueF_kk X 1))
  obtain ⟨LF, hLF⟩ : ∃ LF, frL (dueF X 1) .nil .nil = LF := ⟨_, rfl⟩
  have hfv : frV (dueF X 1) .nil .nil = .agg LF.toArray := by rw [← hLF]; rfl
  have HFl : Hid (LF.length = 19) := Lib.hid (by rw [← hLF]; rfl)
  have HFo : Hid (LF.all (·.oneCell') = true) := Lib.hid (by rw [← hLF]; rfl)
  have HLF := Lib.hid hLF
  obtain ⟨on, hon⟩ : ∃ on : Nat, (oneS (dueF X 1) [] []).length = on := ⟨_, rfl⟩
  have HONE : Hid (∀ W2, Calls Tryz.prog 35 #[.agg LF.toArray] W2 fun e w' => ∃ (A : Option Addr) (c : Nat), e = .returned (.slice A on c) ∧ Below W2.heap.size W2 w') := Lib.hid (fun W2 => by
    rw [← hfv]
    exact (HON.out W2).mono fun e w' ⟨A, n, c, he, hl, _, _, hB⟩ => ⟨A, c, by rw [he, ← hl, ← hon], hB⟩)
  rw [hon] at hzs
  have hdue := dueK_1 hdk
  rw [hdue] at c32
  have hask := (ho.du hdue).2
  have hfr := HK.out.q_.fr_
  have hsf : frL (stF X) .nil .nil = LF := by rw [← hLF]; unfold stF; rw [if_pos hask]; rfl
  rw [hsf] at hfr
  have HFR := Lib.hid hfr
  have hrr : ¬ room < (on : Int) := by omega
  have HX : Hid (∀ W, RnW w base q g O X W → W.cell? ⟨q, 32, none⟩ = some (.bool true) ∧ W.frozen? ⟨q, 32, none⟩ = false ∧ (W.setCell ⟨q, 32, none⟩ (.bool false)).rangeAt q 12 LF ∧ At (W.setCell ⟨q, 32, none⟩ (.bool false)) g 54 (frL (FN.zero 0) .nil .nil)) := Lib.hid (fun W k => by
    have h5 := k.q_.set (X' := { X with due := false }) 32 (.bool false) (fun _ _ => rfl) rfl
    refine ⟨by rw [← hdue]; exact k.q_.c32, k.q_.fz 32, ?_, k.ag.set_other (q := ⟨q, 32, none⟩) k.gq _⟩
    have := h5.fr_
    rw [← hsf]
    exact this)
  have HE : Hid (∀ W W9, RnW w base q g O X W → Kept (· = g) (W.setCell ⟨q, 32, none⟩ (.bool false)) W9 → RqPost (.tuple #[.agg LF.toArray, .bool true]) base q O (nextX X 1) w (.returned (.tuple #[.agg LF.toArray, .bool true])) W9) := Lib.hid (fun W W9 k k9 => k.fin2 HW.out (k.q_.set (X' := { X with due := false }) 32 (.bool false) (fun _ _ => rfl) rfl) ((Kept.refl _ _).setAt 32 _) k9 _)
  rw [hfv]
  clear h ho hid hlm hA1 hB1 hright hzs hLF hfv hon hdue hask hfr hsf hdk hr
  go_enter Tryz.func19, Tryz.ntmps19
  go_upto_region 1 with fail
  (try rw [hg])
  (try rw [hW1])
  go_wp2_with (first | ((with_reducible refine at_ld ?_); refine ld_fr_o q 12 LF (by rfl) (by rfl) HFR.out HFl.out ?_) | (go_at_call 35; (with_reducible refine (HONE.out _).mono ?_); rintro e w10 ⟨oA, oc, rfl, hb10⟩; have hK4 := HK.out.below hb10; have HK4 := Lib.hid hK4; obtain ⟨x32, xf32, xr, xa⟩ := HX.out _ hK4; have HR5 := Lib.hid xr; have HA5 := Lib.hid xa; clear xr xa; clear hb10 hK4) | ((with_reducible refine at_ld ?_); refine ld_fr_o q 12 LF (by rfl) (by rfl) HR5.out HFl.out ?_) | ((with_reducible refine at_st (x := .tmp 4) ?_); refine st_at _ _ LF (by rfl) (by rfl) HA5.out (by rfl) HFl.out HFo.out ?_; intro w9 hA9 hk9; have HK9 := Lib.hid hk9; clear hk9) | fail)
  refine bodyPost_ret (results_cell_tmp 4 5 54 (by rfl) _ 54 _ _ _ (by rfl) (by rfl) hA9 Tryz.underlying54 rfl (by rw [HFl.out]; exact fr_info)) rfl ?_
  exact HE.out _ _ HK4.out HK9.out
set_option maxHeartbeats 16000000 in
set_option maxRecDepth 100000 in
theorem rq_next1_no (h : Qr w base q O X) (ho : X.ok) (hid : X.id ≤ 4611686018427387903) (hlm : X.b.rd + X.win ≤ 1099511627776) (room : Int) (hdk : dueK X = 1) (hr : room < nxZ X) : Calls Tryz.prog 19 #[.pointer (some ⟨q, 0, none⟩), .int .i64 room] w (RqPost (.tuple #[frV (dueF X 0) .nil .nil, .bool false]) base q O (nextX X 0) w) := by
  obtain ⟨W1, hW1, hA1, hB1⟩ := q_zbox w
  have HK := Lib.hid (rnW h hB1 hA1)
  have HW := Lib.hid h
  have c32 := HK.out.q_.c32
  obtain ⟨g, hg⟩ : ∃ g, w.heap.size = g := ⟨_, rfl⟩
  rw [hg] at HK
  have hright := dueF_right ho hid hlm (k := 1) (by omega)
  have hzs : nxZ X = ((oneS (dueF X 1) [] []).length : Int) := by unfold nxZ sizeF; rw [hdk, if_pos hright]
  have HON := Lib.hid (fun (W2 : World) => rone_any (fun _ => True) (dueF X 1) .nil .nil [] [] W2 ⟨dueF_wf ho 1, InD.nil_ _ _, InR.nil_ _ _⟩ hright (dueF_kk X 1))
  obtain ⟨LF, hLF⟩ : ∃ LF, frL (dueF X 1) .nil .nil = LF := ⟨_, rfl⟩
  have hfv : frV (dueF X 1) .nil .nil = .agg LF.toArray := by rw [← hLF]; rfl
  have HFl : Hid (LF.length = 19) := Lib.hid (by rw [← hLF]; rfl)
  have HFo : Hid (LF.all (·.oneCell') = true) := Lib.hid (by rw [← hLF]; rfl)
  have HLF := Lib.hid hLF
  obtain ⟨on, hon⟩ : ∃ on : Nat, (oneS (dueF X 1) [] []).length = on := ⟨_, rfl⟩
  have HONE : Hid (∀ W2, Calls Tryz.prog 35 #[.agg LF.toArray] W2 fun e w' => ∃ (A : Option Addr) (c : Nat), e = .returned (.slice A on c) ∧ Below W2.heap.size W2 w') := Lib.hid (fun W2 => by
    rw [← hfv]
    exact (HON.out W2).mono fun e w' ⟨A, n, c, he, hl, _, _, hB⟩ => ⟨A, c, by rw [he, ← hl, ← hon], hB⟩)
  rw [hon] at hzs
  have hdue := dueK_1 hdk
  rw [hdue] at c32
  have hask := (ho.du hdue).2
  have hfr := HK.out.q_.fr_
  have hsf : frL (stF X) .nil .nil = LF := by rw [← hLF]; unfold stF; rw [if_pos hask]; rfl
  rw [hsf] at hfr
  have HFR := Lib.hid hfr
  have hrr : room < (on : Int) := by omega
  have hdz : dueF X 0 = FN.zero 0 := rfl
  rw [hdz]
  have HE : Hid (∀ W W9, RnW w base q g O X W → Kept (· = g) W W9 → RqPost (.tuple #[frV (FN.zero 0) .nil .nil, .bool false]) base q O (nextX X 0) w (.returned (.tuple #[frV (FN.zero 0) .nil .nil, .bool false])) W9) := Lib.hid (fun W W9 k k9 => k.fin HW.out k9 _)
  clear h ho hid hlm hA1 hB1 hright hzs hLF hfv hon hdue hask hfr hsf hdk hr hdz
  go_enter Tryz.func19, Tryz.ntmps19
  go_upto_region 1 with fail
  (try rw [hg])
  (try rw [hW1])
  go_wp2_with (first | ((with_reducible refine at_ld ?_); refine ld_fr_o q 12 LF (by rfl) (by rfl) HFR.out HFl.out ?_) | (go_at_call 35; (with_reducible refine (HONE.out _).mono ?_); rintro e w10 ⟨oA, oc, rfl, hb10⟩; have hK4 := HK.out.below hb10; have HK4 := Lib.hid hK4;  clear hb10 hK4) | ((with_reducible refine at_st (x := .tmp 4) ?_); refine st_at _ _ (frL (FN.zero 0) .nil .nil) (by rfl) (by rfl) HK4.out.ag (by rfl) (by rfl) (by rfl) ?_; intro w9 hA9 hk9; have HK9 := Lib.hid hk9; clear hk9) | fail)
  refine bodyPost_ret (results_cell_tmp 4 5 54 (by rfl) _ 54 _ _ _ (by rfl) (by rfl) hA9 Tryz.underlying54 rfl fr_info) rfl ?_
  exact HE.out _ _ HK4.out HK9.out
set_option maxHeartbeats 16000000 in
set_option maxRecDepth 100000 in
theorem rq_next0_st (h : Qr w base q O X) (ho : X.ok) (hid : X.id ≤ 4611686018427387903) (hlm : X.b.rd + X.win ≤ 1099511627776) (room : Int) (hdue : X.due = false) (hst : X.st ≠ 1) : Calls Tryz.prog 19 #[.pointer (some ⟨q, 0, none⟩), .int .i64 room] w (RqPost (.tuple #[frV (dueF X 0) .nil .nil, .bool false]) base q O (nextX X 0) w) := by
  obtain ⟨W1, hW1, hA1, hB1⟩ := q_zbox w
  have HK := Lib.hid (rnW h hB1 hA1)
  have HW := Lib.hid h
  have c32 := HK.out.q_.c32
  obtain ⟨g, hg⟩ : ∃ g, w.heap.size = g := ⟨_, rfl⟩
  rw [hg] at HK
  obtain ⟨T, hT⟩ : ∃ T, T = X.b.rd + X.win := ⟨_, rfl⟩
  have hb2 : X.win ≤ 2048 := ho.win
  have hTz : (X.b.rd : Int) + (X.win : Int) = (T : Int) := by omega
  have hTb : T ≤ 1099511640000 := by omega
  have hTw : IntKind.u64.wrap (T : Int) = (T : Int) := by rw [IntKind.wrap_u64]; omega
  have hlw : X.lim ≤ T := by rw [hT]; exact ho.lw
  obtain ⟨H, hH⟩ : ∃ H, H = X.win / 2 := ⟨_, rfl⟩
  have hHz : (X.win : Int).tdiv 2 = (H : Int) := by rw [hH, Int.tdiv_eq_ediv_of_nonneg (by omega)]; omega
  have hHw : IntKind.u64.wrap (H : Int) = (H : Int) := by rw [IntKind.wrap_u64]; omega
  obtain ⟨MX, hMX⟩ : ∃ MX, MX = max H 1 := ⟨_, rfl⟩
  have hMz : (if (H : Int) < 1 then (1 : Int) else (H : Int)) = (MX : Int) := by rw [hMX]; split <;> omega
  obtain ⟨S, hS⟩ : ∃ S, S = X.lim + MX := ⟨_, rfl⟩
  have hSz : (X.lim : Int) + (MX : Int) = (S : Int) := by omega
  have hSb : S ≤ 1099511640000 := by omega
  have hSw : IntKind.u64.wrap (S : Int) = (S : Int) := by rw [IntKind.wrap_u64]; omega
  have c6 := HK.out.q_.c6
  have c1 := HK.out.q_.c1
  rw [hdue] at c32
  have hdz : dueF X 0 = FN.zero 0 := rfl
  rw [hdz]
  have HE : Hid (∀ W W9, RnW w base q g O X W → Kept (· = g) W W9 → RqPost (.tuple #[frV (FN.zero 0) .nil .nil, .bool false]) base q O (nextX X 0) w (.returned (.tuple #[frV (FN.zero 0) .nil .nil, .bool false])) W9) := Lib.hid (fun W W9 k k9 => k.fin HW.out k9 _)
  have hstz : ((X.st : Int) != 1) = true := by simp; omega
  clear hst
  clear h ho hid hlm hA1 hB1 hT hH hMX hS hdz hdue
  go_enter Tryz.func19, Tryz.ntmps19
  go_upto_region 1 with fail
  (try rw [hg])
  (try rw [hW1])
  go_wp2_with fail
  go_quiet (fail)
  have hK := HK.out.drewN nq
  obtain ⟨W3, hWn⟩ : ∃ W, World.drewN W1 nq = W := ⟨_, rfl⟩
  rw [hWn] at hK ⊢
  clear hWn
  have HK3 := Lib.hid hK
  clear hK
  have y1 := HK3.out.q_.c1
  have y2 := HK3.out.q_.c2
  have y5 := HK3.out.q_.c5
  have y33 := HK3.out.q_.c33
  clear c32 c6 c1
  go_wp2_with fail
  skip
  go_quiet (fail)
  have hK := HK3.out.drewN nq
  obtain ⟨W4, hWn⟩ : ∃ W, World.drewN W3 nq = W := ⟨_, rfl⟩
  rw [hWn] at hK ⊢
  clear hWn
  have HK5 := Lib.hid hK
  clear hK
  go_wp2_with (first | ((with_reducible refine at_st (x := .tmp 4) ?_); refine st_at _ _ (frL (FN.zero 0) .nil .nil) (by rfl) (by rfl) HK5.out.ag (by rfl) (by rfl) (by rfl) ?_; intro w9 hA9 hk9; have HK9 := Lib.hid hk9; clear hk9) | fail)
  refine bodyPost_ret (results_cell_tmp 4 5 54 (by rfl) _ 54 _ _ _ (by rfl) (by rfl) hA9 Tryz.underlying54 rfl fr_info) rfl ?_
  exact HE.out _ _ HK5.out HK9.out
set_option maxHeartbeats 16000000 in
set_option maxRecDepth 100000 in
theorem rq_next0_lim (h : Qr w base q O X) (ho : X.ok) (hid : X.id ≤ 4611686018427387903) (hlm : X.b.rd + X.win ≤ 1099511627776) (room : Int) (hdue : X.due = false) (hst : X.st = 1) (hag : X.again = false) (hlt : X.b.rd + X.win < X.lim + max (X.win / 2) 1) : Calls Tryz.prog 19 #[.pointer (some ⟨q, 0, none⟩), .int .i64 room] w (RqPost (.tuple #[frV (dueF X 0) .nil .nil, .bool false]) base q O (nextX X 0) w) := by
  obtain ⟨W1, hW1, hA1, hB1⟩ := q_zbox w
  have HK := Lib.hid (rnW h hB1 hA1)
  have HW := Lib.hid h
  have c32 := HK.out.q_.c32
  obtain ⟨g, hg⟩ : ∃ g, w.heap.size = g := ⟨_, rfl⟩
  rw [hg] at HK
  obtain ⟨T, hT⟩ : ∃ T, T = X.b.rd + X.win := ⟨_, rfl⟩
  have hb2 : X.win ≤ 2048 := ho.win
  have hTz : (X.b.rd : Int) + (X.win : Int) = (T : Int) := by omega
  have hTb : T ≤ 1099511640000 := by omega
  have hTw : IntKind.u64.wrap (T : Int) = (T : Int) := by rw [IntKind.wrap_u64]; omega
  have hlw : X.lim ≤ T := by rw [hT]; exact ho.lw
  obtain ⟨H, hH⟩ : ∃ H, H = X.win / 2 := ⟨_, rfl⟩
  have hHz : (X.win : Int).tdiv 2 = (H : Int) := by rw [hH, Int.tdiv_eq_ediv_of_nonneg (by omega)]; omega
  have hHw : IntKind.u64.wrap (H : Int) = (H : Int) := by rw [IntKind.wrap_u64]; omega
  obtain ⟨MX, hMX⟩ : ∃ MX, MX = max H 1 := ⟨_, rfl⟩
  have hMz : (if (H : Int) < 1 then (1 : Int) else (H : Int)) = (MX : Int) := by rw [hMX]; split <;> omega
  obtain ⟨S, hS⟩ : ∃ S, S = X.lim + MX := ⟨_, rfl⟩
  have hSz : (X.lim : Int) + (MX : Int) = (S : Int) := by omega
  have hSb : S ≤ 1099511640000 := by omega
  have hSw : IntKind.u64.wrap (S : Int) = (S : Int) := by rw [IntKind.wrap_u64]; omega
  have c6 := HK.out.q_.c6
  have c1 := HK.out.q_.c1
  rw [hdue] at c32
  have hdz : dueF X 0 = FN.zero 0 := rfl
  rw [hdz]
  have HE : Hid (∀ W W9, RnW w base q g O X W → Kept (· = g) W W9 → RqPost (.tuple #[frV (FN.zero 0) .nil .nil, .bool false]) base q O (nextX X 0) w (.returned (.tuple #[frV (FN.zero 0) .nil .nil, .bool false])) W9) := Lib.hid (fun W W9 k k9 => k.fin HW.out k9 _)
  have hTS : (T : Int) < (S : Int) := by omega
  have HD1 : Hid (decide ((T : Int) < (S : Int)) = true) := Lib.hid (by simpa using hTS)
  clear hlt
  clear h ho hid hlm hA1 hB1 hT hH hMX hS hdz hdue
  go_enter Tryz.func19, Tryz.ntmps19
  go_upto_region 1 with fail
  (try rw [hg])
  (try rw [hW1])
  go_wp2_with fail
  go_quiet (fail)
  have hK := HK.out.drewN nq
  obtain ⟨W3, hWn⟩ : ∃ W, World.drewN W1 nq = W := ⟨_, rfl⟩
  rw [hWn] at hK ⊢
  clear hWn
  have HK3 := Lib.hid hK
  clear hK
  have y1 := HK3.out.q_.c1
  have y2 := HK3.out.q_.c2
  have y5 := HK3.out.q_.c5
  have y33 := HK3.out.q_.c33
  clear c32 c6 c1
  rw [hst] at y5
  rw [hag] at y33
  clear hst hag
  go_wp2_with fail
  skip
  go_quiet (fail)
  have hK := HK3.out.drewN nq
  obtain ⟨W4, hWn⟩ : ∃ W, World.drewN W3 nq = W := ⟨_, rfl⟩
  rw [hWn] at hK ⊢
  clear hWn
  have HK5 := Lib.hid hK
  clear hK
  go_wp2_with (first | ((with_reducible refine at_st (x := .tmp 4) ?_); refine st_at _ _ (frL (FN.zero 0) .nil .nil) (by rfl) (by rfl) HK5.out.ag (by rfl) (by rfl) (by rfl) ?_; intro w9 hA9 hk9; have HK9 := Lib.hid hk9; clear hk9) | fail)
  refine bodyPost_ret (results_cell_tmp 4 5 54 (by rfl) _ 54 _ _ _ (by rfl) (by rfl) hA9 Tryz.underlying54 rfl fr_info) rfl ?_
  exact HE.out _ _ HK5.out HK9.out
set_option maxHeartbeats 16000000 in
set_option maxRecDepth 100000 in
theorem rq_next2a (h : Qr w base q O X) (ho : X.ok) (hid : X.id ≤ 4611686018427387903) (hlm : X.b.rd + X.win ≤ 1099511627776) (room : Int) (hdue : X.due = false) (hst : X.st = 1) (hag : X.again = true) (hdk : dueK X = 2) (hr : nxZ X ≤ room) : Calls Tryz.prog 19 #[.pointer (some ⟨q, 0, none⟩), .int .i64 room] w (RqPost (.tuple #[frV (dueF X 2) .nil .nil, .bool true]) base q O (nextX X 2) w) := by
  obtain ⟨W1, hW1, hA1, hB1⟩ := q_zbox w
  have HK := Lib.hid (rnW h hB1 hA1)
  have HW := Lib.hid h
  have c32 := HK.out.q_.c32
  obtain ⟨g, hg⟩ : ∃ g, w.heap.size = g := ⟨_, rfl⟩
  rw [hg] at HK
  have hright := dueF_right ho hid hlm (k := 2) (by omega)
  have hzs : nxZ X = ((oneS (dueF X 2) [] []).length : Int) := by unfold nxZ sizeF; rw [hdk, if_pos hright]
  have HON := Lib.hid (fun (W2 : World) => rone_any (fun _ => True) (dueF X 2) .nil .nil [] [] W2 ⟨dueF_wf ho 2, InD.nil_ _ _, InR.nil_ _ _⟩ hright (dueF_kk X 2))
  obtain ⟨LF, hLF⟩ : ∃ LF, frL (dueF X 2) .nil .nil = LF := ⟨_, rfl⟩
  have hfv : frV (dueF X 2) .nil .nil = .agg LF.toArray := by rw [← hLF]; rfl
  have HFl : Hid (LF.length = 19) := Lib.hid (by rw [← hLF]; rfl)
  have HFo : Hid (LF.all (·.oneCell') = true) := Lib.hid (by rw [← hLF]; rfl)
  have HLF := Lib.hid hLF
  obtain ⟨on, hon⟩ : ∃ on : Nat, (oneS (dueF X 2) [] []).length = on := ⟨_, rfl⟩
  have HONE : Hid (∀ W2, Calls Tryz.prog 35 #[.agg LF.toArray] W2 fun e w' => ∃ (A : Option Addr) (c : Nat), e = .returned (.slice A on c) ∧ Below W2.heap.size W2 w') := Lib.hid (fun W2 => by
    rw [← hfv]
    exact (HON.out W2).mono fun e w' ⟨A, n, c, he, hl, _, _, hB⟩ => ⟨A, c, by rw [he, ← hl, ← hon], hB⟩)
  rw [hon] at hzs
  obtain ⟨T, hT⟩ : ∃ T, T = X.b.rd + X.win := ⟨_, rfl⟩
  have hb2 : X.win ≤ 2048 := ho.win
  have hTz : (X.b.rd : Int) + (X.win : Int) = (T : Int) := by omega
  have hTb : T ≤ 1099511640000 := by omega
  have hTw : IntKind.u64.wrap (T : Int) = (T : Int) := by rw [IntKind.wrap_u64]; omega
  have hlw : X.lim ≤ T := by rw [hT]; exact ho.lw
  obtain ⟨H, hH⟩ : ∃ H, H = X.win / 2 := ⟨_, rfl⟩
  have hHz : (X.win : Int).tdiv 2 = (H : Int) := by rw [hH, Int.tdiv_eq_ediv_of_nonneg (by omega)]; omega
  have hHw : IntKind.u64.wrap (H : Int) = (H : Int) := by rw [IntKind.wrap_u64]; omega
  obtain ⟨MX, hMX⟩ : ∃ MX, MX = max H 1 := ⟨_, rfl⟩
  have hMz : (if (H : Int) < 1 then (1 : Int) else (H : Int)) = (MX : Int) := by rw [hMX]; split <;> omega
  obtain ⟨S, hS⟩ : ∃ S, S = X.lim + MX := ⟨_, rfl⟩
  have hSz : (X.lim : Int) + (MX : Int) = (S : Int) := by omega
  have hSb : S ≤ 1099511640000 := by omega
  have hSw : IntKind.u64.wrap (S : Int) = (S : Int) := by rw [IntKind.wrap_u64]; omega
  have c6 := HK.out.q_.c6
  have c1 := HK.out.q_.c1
  rw [hdue] at c32
  have HLT : Hid (LF = frL (m17 X.id T) .nil .nil) := Lib.hid (by rw [← hLF, hT]; rfl)
  have hrr : ¬ room < (on : Int) := by omega
  have HX : Hid (∀ W, RnW w base q g O X W → W.cell? ⟨q, 2, none⟩ = some (.int .u64 X.lim) ∧ W.cell? ⟨q, 33, none⟩ = some (.bool X.again) ∧ W.frozen? ⟨q, 2, none⟩ = false ∧ W.frozen? ⟨q, 33, none⟩ = false ∧ At ((W.setCell ⟨q, 2, none⟩ (.int .u64 T)).setCell ⟨q, 33, none⟩ (.bool false)) g 54 (frL (FN.zero 0) .nil .nil)) := Lib.hid (fun W k =>
    ⟨k.q_.c2, k.q_.c33, k.q_.fz 2, k.q_.fz 33, (k.ag.set_other (q := ⟨q, 2, none⟩) k.gq _).set_other (q := ⟨q, 33, none⟩) k.gq _⟩)
  have HE : Hid (∀ W W9, RnW w base q g O X W → Kept (· = g) ((W.setCell ⟨q, 2, none⟩ (.int .u64 T)).setCell ⟨q, 33, none⟩ (.bool false)) W9 → RqPost (.tuple #[.agg LF.toArray, .bool true]) base q O (nextX X 2) w (.returned (.tuple #[.agg LF.toArray, .bool true])) W9) := Lib.hid (fun W W9 k k9 => by
    subst hT
    exact k.fin2 HW.out ((k.q_.set (X' := { X with lim := X.b.rd + X.win }) 2 (.int .u64 (X.b.rd + X.win : Nat)) (fun _ _ => rfl) rfl).set (X' := { X with lim := X.b.rd + X.win, again := false }) 33 (.bool false) (fun _ _ => rfl) rfl) (((Kept.refl _ _).setAt 2 _).setAt 33 _) k9 _)
  rw [hfv]
  have HG7 : Hid (∀ W, RnW w base q g O X W → ∃ (g7 : Nat) (W5 : World), W.heap.size = g7 ∧ W.alloc (.cells LF.toArray 54) = W5 ∧ RnW w base q g O X W5 ∧ At W5 g7 54 LF ∧ g7 ≠ q ∧ g7 < W5.heap.size) := Lib.hid (fun W k => by
    have hb : Below W.heap.size W (W.alloc (.cells LF.toArray 54)) := (Below.refl _ _).alloc (Nat.le_refl _) _
    have hA := At.new W 54 LF
    exact ⟨_, _, rfl, rfl, k.below hb, hA, fun e => by have := (k.q_.lt q k.q_.own).2; omega, hA.lt⟩)
  clear h ho hid hlm hA1 hB1 hH hMX hS hdue hdk hright hzs hLF hfv hon hr hT
  go_enter Tryz.func19, Tryz.ntmps19
  go_upto_region 1 with fail
  (try rw [hg])
  (try rw [hW1])
  go_wp2_with fail
  go_quiet (fail)
  have hK := HK.out.drewN nq
  obtain ⟨W3, hWn⟩ : ∃ W, World.drewN W1 nq = W := ⟨_, rfl⟩
  rw [hWn] at hK ⊢
  clear hWn
  have HK3 := Lib.hid hK
  clear hK
  have y1 := HK3.out.q_.c1
  have y2 := HK3.out.q_.c2
  have y5 := HK3.out.q_.c5
  have y33 := HK3.out.q_.c33
  clear c32 c6 c1
  rw [hst] at y5
  rw [hag] at y33
  clear hst hag
  go_wp2_with fail
  skip
  go_quiet (fail)
  have hK := HK3.out.drewN nq
  obtain ⟨W4, hWn⟩ : ∃ W, World.drewN W3 nq = W := ⟨_, rfl⟩
  rw [hWn] at hK ⊢
  clear hWn
  have HK5 := Lib.hid hK
  clear hK
  obtain ⟨g7, W5, hg7, hW5, hN5, hA7, hgq7, hlt7⟩ := HG7.out _ HK5.out
  have HK6 := Lib.hid hN5
  have HA7 := Lib.hid hA7
  have x0 := HK5.out.q_.c0
  clear hN5 hA7 HG7
  go_wp2_with (first | ((with_reducible refine at_st (x := .tmp 7) ?_); refine st_top W4 (frL (FN.zero 0) .nil .nil) LF (by rfl) g7 (by rfl) hg7.symm (by rw [HLT.out]; rfl) rfl HFl.out HFo.out ?_; rw [hW5]) | ((with_reducible refine at_ld ?_); refine ld_fr_g _ LF (by rfl) (by rfl) HA7.out HFl.out ?_) | (go_at_call 35; (with_reducible refine (HONE.out _).mono ?_); rintro e w10 ⟨oA, oc, rfl, hb10⟩; have hK4 := HK6.out.below hb10; have HK4 := Lib.hid hK4; obtain ⟨x2, x33, xf2, xf33, xa⟩ := HX.out _ hK4; have HA5 := Lib.hid xa; have HA8 := Lib.hid (((HA7.out.below hb10 hlt7).set_other (q := ⟨q, 2, none⟩) hgq7.symm (.int .u64 T)).set_other (q := ⟨q, 33, none⟩) hgq7.symm (.bool false)); clear xa; clear hb10 hK4) | ((with_reducible refine at_ld ?_); refine ld_fr_g _ LF (by rfl) (by rfl) HA8.out HFl.out ?_) | ((with_reducible refine at_st (x := .tmp 4) ?_); refine st_at _ _ LF (by rfl) (by rfl) HA5.out (by rfl) HFl.out HFo.out ?_; intro w9 hA9 hk9; have HK9 := Lib.hid hk9; clear hk9) | fail)
  refine bodyPost_ret (results_cell_tmp 4 5 54 (by rfl) _ 54 _ _ _ (by rfl) (by rfl) hA9 Tryz.underlying54 rfl (by rw [HFl.out]; exact fr_info)) rfl ?_
  exact HE.out _ _ HK4.out HK9.out
set_option maxHeartbeats 16000000 in
set_option maxRecDepth 100000 in
theorem rq_next2b (h : Qr w base q O X) (ho : X.ok) (hid : X.id ≤ 4611686018427387903) (hlm : X.b.rd + X.win ≤ 1099511627776) (room : Int) (hdue : X.due = false) (hst : X.st = 1) (hag : X.again = false) (hlt : X.lim + max (X.win / 2) 1 ≤ X.b.rd + X.win) (hdk : dueK X = 2) (hr : nxZ X ≤ room) : Calls Tryz.prog 19 #[.pointer (some ⟨q, 0, none⟩), .int .i64 room] w (RqPost (.tuple #[frV (dueF X 2) .nil .nil, .bool true]) base q O (nextX X 2) w) := by
  obtain ⟨W1, hW1, hA1, hB1⟩ := q_zbox w
  have HK := Lib.hid (rnW h hB1 hA1)
  have HW := Lib.hid h
  have c32 := HK.out.q_.c32
  obtain ⟨g, hg⟩ : ∃ g, w.heap.size = g := ⟨_, rfl⟩
  rw [hg] at HK
  have hright := dueF_right ho hid hlm (k := 2) (by omega)
  have hzs : nxZ X = ((oneS (dueF X 2) [] []).length : Int) := by unfold nxZ sizeF; rw [hdk, if_pos hright]
  have HON := Lib.hid (fun (W2 : World) => rone_any (fun _ => True) (dueF X 2) .nil .nil [] [] W2 ⟨dueF_wf ho 2, InD.nil_ _ _, InR.nil_ _ _⟩ hright (dueF_kk X 2))
  obtain ⟨LF, hLF⟩ : ∃ LF, frL (dueF X 2) .nil .nil = LF := ⟨_, rfl⟩
  have hfv : frV (dueF X 2) .nil .nil = .agg LF.toArray := by rw [← hLF]; rfl
  have HFl : Hid (LF.length = 19) := Lib.hid (by rw [← hLF]; rfl)
  have HFo : Hid (LF.all (·.oneCell') = true) := Lib.hid (by rw [← hLF]; rfl)
  have HLF := Lib.hid hLF
  obtain ⟨on, hon⟩ : ∃ on : Nat, (oneS (dueF X 2) [] []).length = on := ⟨_, rfl⟩
  have HONE : Hid (∀ W2, Calls Tryz.prog 35 #[.agg LF.toArray] W2 fun e w' => ∃ (A : Option Addr) (c : Nat), e = .returned (.slice A on c) ∧ Below W2.heap.size W2 w') := Lib.hid (fun W2 => by
    rw [← hfv]
    exact (HON.out W2).mono fun e w' ⟨A, n, c, he, hl, _, _, hB⟩ => ⟨A, c, by rw [he, ← hl, ← hon], hB⟩)
  rw [hon] at hzs
  obtain ⟨T, hT⟩ : ∃ T, T = X.b.rd + X.win := ⟨_, rfl⟩
  have hb2 : X.win ≤ 2048 := ho.win
  have hTz : (X.b.rd : Int) + (X.win : Int) = (T : Int) := by omega
  have hTb : T ≤ 1099511640000 := by omega
  have hTw : IntKind.u64.wrap (T : Int) = (T : Int) := by rw [IntKind.wrap_u64]; omega
  have hlw : X.lim ≤ T := by rw [hT]; exact ho.lw
  obtain ⟨H, hH⟩ : ∃ H, H = X.win / 2 := ⟨_, rfl⟩
  have hHz : (X.win : Int).tdiv 2 = (H : Int) := by rw [hH, Int.tdiv_eq_ediv_of_nonneg (by omega)]; omega
  have hHw : IntKind.u64.wrap (H : Int) = (H : Int) := by rw [IntKind.wrap_u64]; omega
  obtain ⟨MX, hMX⟩ : ∃ MX, MX = max H 1 := ⟨_, rfl⟩
  have hMz : (if (H : Int) < 1 then (1 : Int) else (H : Int)) = (MX : Int) := by rw [hMX]; split <;> omega
  obtain ⟨S, hS⟩ : ∃ S, S = X.lim + MX := ⟨_, rfl⟩
  have hSz : (X.lim : Int) + (MX : Int) = (S : Int) := by omega
  have hSb : S ≤ 1099511640000 := by omega
  have hSw : IntKind.u64.wrap (S : Int) = (S : Int) := by rw [IntKind.wrap_u64]; omega
  have c6 := HK.out.q_.c6
  have c1 := HK.out.q_.c1
  rw [hdue] at c32
  have HLT : Hid (LF = frL (m17 X.id T) .nil .nil) := Lib.hid (by rw [← hLF, hT]; rfl)
  have hrr : ¬ room < (on : Int) := by omega
  have HX : Hid (∀ W, RnW w base q g O X W → W.cell? ⟨q, 2, none⟩ = some (.int .u64 X.lim) ∧ W.cell? ⟨q, 33, none⟩ = some (.bool X.again) ∧ W.frozen? ⟨q, 2, none⟩ = false ∧ W.frozen? ⟨q, 33, none⟩ = false ∧ At ((W.setCell ⟨q, 2, none⟩ (.int .u64 T)).setCell ⟨q, 33, none⟩ (.bool false)) g 54 (frL (FN.zero 0) .nil .nil)) := Lib.hid (fun W k =>
    ⟨k.q_.c2, k.q_.c33, k.q_.fz 2, k.q_.fz 33, (k.ag.set_other (q := ⟨q, 2, none⟩) k.gq _).set_other (q := ⟨q, 33, none⟩) k.gq _⟩)
  have HE : Hid (∀ W W9, RnW w base q g O X W → Kept (· = g) ((W.setCell ⟨q, 2, none⟩ (.int .u64 T)).setCell ⟨q, 33, none⟩ (.bool false)) W9 → RqPost (.tuple #[.agg LF.toArray, .bool true]) base q O (nextX X 2) w (.returned (.tuple #[.agg LF.toArray, .bool true])) W9) := Lib.hid (fun W W9 k k9 => by
    subst hT
    exact k.fin2 HW.out ((k.q_.set (X' := { X with lim := X.b.rd + X.win }) 2 (.int .u64 (X.b.rd + X.win : Nat)) (fun _ _ => rfl) rfl).set (X' := { X with lim := X.b.rd + X.win, again := false }) 33 (.bool false) (fun _ _ => rfl) rfl) (((Kept.refl _ _).setAt 2 _).setAt 33 _) k9 _)
  rw [hfv]
  have hTS : ¬ (T : Int) < (S : Int) := by omega
  have HD1 : Hid (decide ((T : Int) < (S : Int)) = false) := Lib.hid (by simpa using hTS)
  clear hlt
  have HG7 : Hid (∀ W, RnW w base q g O X W → ∃ (g7 : Nat) (W5 : World), W.heap.size = g7 ∧ W.alloc (.cells LF.toArray 54) = W5 ∧ RnW w base q g O X W5 ∧ At W5 g7 54 LF ∧ g7 ≠ q ∧ g7 < W5.heap.size) := Lib.hid (fun W k => by
    have hb : Below W.heap.size W (W.alloc (.cells LF.toArray 54)) := (Below.refl _ _).alloc (Nat.le_refl _) _
    have hA := At.new W 54 LF
    exact ⟨_, _, rfl, rfl, k.below hb, hA, fun e => by have := (k.q_.lt q k.q_.own).2; omega, hA.lt⟩)
  clear h ho hid hlm hA1 hB1 hH hMX hS hdue hdk hright hzs hLF hfv hon hr hT
  go_enter Tryz.func19, Tryz.ntmps19
  go_upto_region 1 with fail
  (try rw [hg])
  (try rw [hW1])
  go_wp2_with fail
  go_quiet (fail)
  have hK := HK.out.drewN nq
  obtain ⟨W3, hWn⟩ : ∃ W, World.drewN W1 nq = W := ⟨_, rfl⟩
  rw [hWn] at hK ⊢
  clear hWn
  have HK3 := Lib.hid hK
  clear hK
  have y1 := HK3.out.q_.c1
  have y2 := HK3.out.q_.c2
  have y5 := HK3.out.q_.c5
  have y33 := HK3.out.q_.c33
  clear c32 c6 c1
  rw [hst] at y5
  rw [hag] at y33
  clear hst hag
  go_wp2_with fail
  skip
  go_quiet (fail)
  have hK := HK3.out.drewN nq
  obtain ⟨W4, hWn⟩ : ∃ W, World.drewN W3 nq = W := ⟨_, rfl⟩
  rw [hWn] at hK ⊢
  clear hWn
  have HK5 := Lib.hid hK
  clear hK
  obtain ⟨g7, W5, hg7, hW5, hN5, hA7, hgq7, hlt7⟩ := HG7.out _ HK5.out
  have HK6 := Lib.hid hN5
  have HA7 := Lib.hid hA7
  have x0 := HK5.out.q_.c0
  clear hN5 hA7 HG7
  go_wp2_with (first | ((with_reducible refine at_st (x := .tmp 7) ?_); refine st_top W4 (frL (FN.zero 0) .nil .nil) LF (by rfl) g7 (by rfl) hg7.symm (by rw [HLT.out]; rfl) rfl HFl.out HFo.out ?_; rw [hW5]) | ((with_reducible refine at_ld ?_); refine ld_fr_g _ LF (by rfl) (by rfl) HA7.out HFl.out ?_) | (go_at_call 35; (with_reducible refine (HONE.out _).mono ?_); rintro e w10 ⟨oA, oc, rfl, hb10⟩; have hK4 := HK6.out.below hb10; have HK4 := Lib.hid hK4; obtain ⟨x2, x33, xf2, xf33, xa⟩ := HX.out _ hK4; have HA5 := Lib.hid xa; have HA8 := Lib.hid (((HA7.out.below hb10 hlt7).set_other (q := ⟨q, 2, none⟩) hgq7.symm (.int .u64 T)).set_other (q := ⟨q, 33, none⟩) hgq7.symm (.bool false)); clear xa; clear hb10 hK4) | ((with_reducible refine at_ld ?_); refine ld_fr_g _ LF (by rfl) (by rfl) HA8.out HFl.out ?_) | ((with_reducible refine at_st (x := .tmp 4) ?_); refine st_at _ _ LF (by rfl) (by rfl) HA5.out (by rfl) HFl.out HFo.out ?_; intro w9 hA9 hk9; have HK9 := Lib.hid hk9; clear hk9) | fail)
  refine bodyPost_ret (results_cell_tmp 4 5 54 (by rfl) _ 54 _ _ _ (by rfl) (by rfl) hA9 Tryz.underlying54 rfl (by rw [HFl.out]; exact fr_info)) rfl ?_
  exact HE.out _ _ HK4.out HK9.out
set_option maxHeartbeats 16000000 in
set_option maxRecDepth 100000 in
theorem rq_next2a_no (h : Qr w base q O X) (ho : X.ok) (hid : X.id ≤ 4611686018427387903) (hlm : X.b.rd + X.win ≤ 1099511627776) (room : Int) (hdue : X.due = false) (hst : X.st = 1) (hag : X.again = true) (hdk : dueK X = 2) (hr : room < nxZ X) : Calls Tryz.prog 19 #[.pointer (some ⟨q, 0, none⟩), .int .i64 room] w (RqPost (.tuple #[frV (dueF X 0) .nil .nil, .bool false]) base q O (nextX X 0) w) := by
  obtain ⟨W1, hW1, hA1, hB1⟩ := q_zbox w
  have HK := Lib.hid (rnW h hB1 hA1)
  have HW := Lib.hid h
  have c32 := HK.out.q_.c32
  obtain ⟨g, hg⟩ : ∃ g, w.heap.size = g := ⟨_, rfl⟩
  rw [hg] at HK
  have hright := dueF_right ho hid hlm (k := 2) (by omega)
  have hzs : nxZ X = ((oneS (dueF X 2) [] []).length : Int) := by unfold nxZ sizeF; rw [hdk, if_pos hright]
  have HON := Lib.hid (fun (W2 : World) => rone_any (fun _ => True) (dueF X 2) .nil .nil [] [] W2 ⟨dueF_wf ho 2, InD.nil_ _ _, InR.nil_ _ _⟩ hright (dueF_kk X 2))
  obtain ⟨LF, hLF⟩ : ∃ LF, frL (dueF X 2) .nil .nil = LF := ⟨_, rfl⟩
  have hfv : frV (dueF X 2) .nil .nil = .agg LF.toArray := by rw [← hLF]; rfl
  have HFl : Hid (LF.length = 19) := Lib.hid (by rw [← hLF]; rfl)
  have HFo : Hid (LF.all (·.oneCell') = true) := Lib.hid (by rw [← hLF]; rfl)
  have HLF := Lib.hid hLF
  obtain ⟨on, hon⟩ : ∃ on : Nat, (oneS (dueF X 2) [] []).length = on := ⟨_, rfl⟩
  have HONE : Hid (∀ W2, Calls Tryz.prog 35 #[.agg LF.toArray] W2 fun e w' => ∃ (A : Option Addr) (c : Nat), e = .returned (.slice A on c) ∧ Below W2.heap.size W2 w') := Lib.hid (fun W2 => by
    rw [← hfv]
    exact (HON.out W2).mono fun e w' ⟨A, n, c, he, hl, _, _, hB⟩ => ⟨A, c, by rw [he, ← hl, ← hon], hB⟩)
  rw [hon] at hzs
  obtain ⟨T, hT⟩ : ∃ T, T = X.b.rd + X.win := ⟨_, rfl⟩
  have hb2 : X.win ≤ 2048 := ho.win
  have hTz : (X.b.rd : Int) + (X.win : Int) = (T : Int) := by omega
  have hTb : T ≤ 1099511640000 := by omega
  have hTw : IntKind.u64.wrap (T : Int) = (T : Int) := by rw [IntKind.wrap_u64]; omega
  have hlw : X.lim ≤ T := by rw [hT]; exact ho.lw
  obtain ⟨H, hH⟩ : ∃ H, H = X.win / 2 := ⟨_, rfl⟩
  have hHz : (X.win : Int).tdiv 2 = (H : Int) := by rw [hH, Int.tdiv_eq_ediv_of_nonneg (by omega)]; omega
  have hHw : IntKind.u64.wrap (H : Int) = (H : Int) := by rw [IntKind.wrap_u64]; omega
  obtain ⟨MX, hMX⟩ : ∃ MX, MX = max H 1 := ⟨_, rfl⟩
  have hMz : (if (H : Int) < 1 then (1 : Int) else (H : Int)) = (MX : Int) := by rw [hMX]; split <;> omega
  obtain ⟨S, hS⟩ : ∃ S, S = X.lim + MX := ⟨_, rfl⟩
  have hSz : (X.lim : Int) + (MX : Int) = (S : Int) := by omega
  have hSb : S ≤ 1099511640000 := by omega
  have hSw : IntKind.u64.wrap (S : Int) = (S : Int) := by rw [IntKind.wrap_u64]; omega
  have c6 := HK.out.q_.c6
  have c1 := HK.out.q_.c1
  rw [hdue] at c32
  have HLT : Hid (LF = frL (m17 X.id T) .nil .nil) := Lib.hid (by rw [← hLF, hT]; rfl)
  have hrr : room < (on : Int) := by omega
  have hdz : dueF X 0 = FN.zero 0 := rfl
  rw [hdz]
  have HE : Hid (∀ W W9, RnW w base q g O X W → Kept (· = g) W W9 → RqPost (.tuple #[frV (FN.zero 0) .nil .nil, .bool false]) base q O (nextX X 0) w (.returned (.tuple #[frV (FN.zero 0) .nil .nil, .bool false])) W9) := Lib.hid (fun W W9 k k9 => k.fin HW.out k9 _)
  have HG7 : Hid (∀ W, RnW w base q g O X W → ∃ (g7 : Nat) (W5 : World), W.heap.size = g7 ∧ W.alloc (.cells LF.toArray 54) = W5 ∧ RnW w base q g O X W5 ∧ At W5 g7 54 LF ∧ g7 ≠ q ∧ g7 < W5.heap.size) := Lib.hid (fun W k => by
    have hb : Below W.heap.size W (W.alloc (.cells LF.toArray 54)) := (Below.refl _ _).alloc (Nat.le_refl _) _
    have hA := At.new W 54 LF
    exact ⟨_, _, rfl, rfl, k.below hb, hA, fun e => by have := (k.q_.lt q k.q_.own).2; omega, hA.lt⟩)
  clear h ho hid hlm hA1 hB1 hH hMX hS hdue hdk hright hzs hLF hfv hon hr hT hdz
  go_enter Tryz.func19, Tryz.ntmps19
  go_upto_region 1 with fail
  (try rw [hg])
  (try rw [hW1])
  go_wp2_with fail
  go_quiet (fail)
  have hK := HK.out.drewN nq
  obtain ⟨W3, hWn⟩ : ∃ W, World.drewN W1 nq = W := ⟨_, rfl⟩
  rw [hWn] at hK ⊢
  clear hWn
  have HK3 := Lib.hid hK
  clear hK
  have y1 := HK3.out.q_.c1
  have y2 := HK3.out.q_.c2
  have y5 := HK3.out.q_.c5
  have y33 := HK3.out.q_.c33
  clear c32 c6 c1
  rw [hst] at y5
  rw [hag] at y33
  clear hst hag
  go_wp2_with fail
  skip
  go_quiet (fail)
  have hK := HK3.out.drewN nq
  obtain ⟨W4, hWn⟩ : ∃ W, World.drewN W3 nq = W := ⟨_, rfl⟩
  rw [hWn] at hK ⊢
  clear hWn
  have HK5 := Lib.hid hK
  clear hK
  obtain ⟨g7, W5, hg7, hW5, hN5, hA7, hgq7, hlt7⟩ := HG7.out _ HK5.out
  have HK6 := Lib.hid hN5
  have HA7 := Lib.hid hA7
  have x0 := HK5.out.q_.c0
  clear hN5 hA7 HG7
  go_wp2_with (first | ((with_reducible refine at_st (x := .tmp 7) ?_); refine st_top W4 (frL (FN.zero 0) .nil .nil) LF (by rfl) g7 (by rfl) hg7.symm (by rw [HLT.out]; rfl) rfl HFl.out HFo.out ?_; rw [hW5]) | ((with_reducible refine at_ld ?_); refine ld_fr_g _ LF (by rfl) (by rfl) HA7.out HFl.out ?_) | (go_at_call 35; (with_reducible refine (HONE.out _).mono ?_); rintro e w10 ⟨oA, oc, rfl, hb10⟩; have hK4 := HK6.out.below hb10; have HK4 := Lib.hid hK4;  clear hb10 hK4) | ((with_reducible refine at_st (x := .tmp 4) ?_); refine st_at _ _ (frL (FN.zero 0) .nil .nil) (by rfl) (by rfl) HK4.out.ag (by rfl) (by rfl) (by rfl) ?_; intro w9 hA9 hk9; have HK9 := Lib.hid hk9; clear hk9) | fail)
  refine bodyPost_ret (results_cell_tmp 4 5 54 (by rfl) _ 54 _ _ _ (by rfl) (by rfl) hA9 Tryz.underlying54 rfl fr_info) rfl ?_
  exact HE.out _ _ HK4.out HK9.out
set_option maxHeartbeats 16000000 in
set_option maxRecDepth 100000 in
theorem rq_next2b_no (h : Qr w base q O X) (ho : X.ok) (hid : X.id ≤ 4611686018427387903) (hlm : X.b.rd + X.win ≤ 1099511627776) (room : Int) (hdue : X.due = false) (hst : X.st = 1) (hag : X.again = false) (hlt : X.lim + max (X.win / 2) 1 ≤ X.b.rd + X.win) (hdk : dueK X = 2) (hr : room < nxZ X) : Calls Tryz.prog 19 #[.pointer (some ⟨q, 0, none⟩), .int .i64 room] w (RqPost (.tuple #[frV (dueF X 0) .nil .nil, .bool false]) base q O (nextX X 0) w) := by
  obtain ⟨W1, hW1, hA1, hB1⟩ := q_zbox w
  have HK := Lib.hid (rnW h hB1 hA1)
  have HW := Lib.hid h
  have c32 := HK.out.q_.c32
  obtain ⟨g, hg⟩ : ∃ g, w.heap.size = g := ⟨_, rfl⟩
  rw [hg] at HK
  have hright := dueF_right ho hid hlm (k := 2) (by omega)
  have hzs : nxZ X = ((oneS (dueF X 2) [] []).length : Int) := by unfold nxZ sizeF; rw [hdk, if_pos hright]
  have HON := Lib.hid (fun (W2 : World) => rone_any (fun _ => True) (dueF X 2) .nil .nil [] [] W2 ⟨dueF_wf ho 2, InD.nil_ _ _, InR.nil_ _ _⟩ hright (dueF_kk X 2))
  obtain ⟨LF, hLF⟩ : ∃ LF, frL (dueF X 2) .nil .nil = LF := ⟨_, rfl⟩
  have hfv : frV (dueF X 2) .nil .nil = .agg LF.toArray := by rw [← hLF]; rfl
  have HFl : Hid (LF.length = 19) := Lib.hid (by rw [← hLF]; rfl)
  have HFo : Hid (LF.all (·.oneCell') = true) := Lib.hid (by rw [← hLF]; rfl)
  have HLF := Lib.hid hLF
  obtain ⟨on, hon⟩ : ∃ on : Nat, (oneS (dueF X 2) [] []).length = on := ⟨_, rfl⟩
  have HONE : Hid (∀ W2, Calls Tryz.prog 35 #[.agg LF.toArray] W2 fun e w' => ∃ (A : Option Addr) (c : Nat), e = .returned (.slice A on c) ∧ Below W2.heap.size W2 w') := Lib.hid (fun W2 => by
    rw [← hfv]
    exact (HON.out W2).mono fun e w' ⟨A, n, c, he, hl, _, _, hB⟩ => ⟨A, c, by rw [he, ← hl, ← hon], hB⟩)
  rw [hon] at hzs
  obtain ⟨T, hT⟩ : ∃ T, T = X.b.rd + X.win := ⟨_, rfl⟩
  have hb2 : X.win ≤ 2048 := ho.win
  have hTz : (X.b.rd : Int) + (X.win : Int) = (T : Int) := by omega
  have hTb : T ≤ 1099511640000 := by omega
  have hTw : IntKind.u64.wrap (T : Int) = (T : Int) := by rw [IntKind.wrap_u64]; omega
  have hlw : X.lim ≤ T := by rw [hT]; exact ho.lw
  obtain ⟨H, hH⟩ : ∃ H, H = X.win / 2 := ⟨_, rfl⟩
  have hHz : (X.win : Int).tdiv 2 = (H : Int) := by rw [hH, Int.tdiv_eq_ediv_of_nonneg (by omega)]; omega
  have hHw : IntKind.u64.wrap (H : Int) = (H : Int) := by rw [IntKind.wrap_u64]; omega
  obtain ⟨MX, hMX⟩ : ∃ MX, MX = max H 1 := ⟨_, rfl⟩
  have hMz : (if (H : Int) < 1 then (1 : Int) else (H : Int)) = (MX : Int) := by rw [hMX]; split <;> omega
  obtain ⟨S, hS⟩ : ∃ S, S = X.lim + MX := ⟨_, rfl⟩
  have hSz : (X.lim : Int) + (MX : Int) = (S : Int) := by omega
  have hSb : S ≤ 1099511640000 := by omega
  have hSw : IntKind.u64.wrap (S : Int) = (S : Int) := by rw [IntKind.wrap_u64]; omega
  have c6 := HK.out.q_.c6
  have c1 := HK.out.q_.c1
  rw [hdue] at c32
  have HLT : Hid (LF = frL (m17 X.id T) .nil .nil) := Lib.hid (by rw [← hLF, hT]; rfl)
  have hrr : room < (on : Int) := by omega
  have hdz : dueF X 0 = FN.zero 0 := rfl
  rw [hdz]
  have HE : Hid (∀ W W9, RnW w base q g O X W → Kept (· = g) W W9 → RqPost (.tuple #[frV (FN.zero 0) .nil .nil, .bool false]) base q O (nextX X 0) w (.returned (.tuple #[frV (FN.zero 0) .nil .nil, .bool false])) W9) := Lib.hid (fun W W9 k k9 => k.fin HW.out k9 _)
  have hTS : ¬ (T : Int) < (S : Int) := by omega
  have HD1 : Hid (decide ((T : Int) < (S : Int)) = false) := Lib.hid (by simpa using hTS)
  clear hlt
  have HG7 : Hid (∀ W, RnW w base q g O X W → ∃ (g7 : Nat) (W5 : World), W.heap.size = g7 ∧ W.alloc (.cells LF.toArray 54) = W5 ∧ RnW w base q g O X W5 ∧ At W5 g7 54 LF ∧ g7 ≠ q ∧ g7 < W5.heap.size) := Lib.hid (fun W k => by
    have hb : Below W.heap.size W (W.alloc (.cells LF.toArray 54)) := (Below.refl _ _).alloc (Nat.le_refl _) _
    have hA := At.new W 54 LF
    exact ⟨_, _, rfl, rfl, k.below hb, hA, fun e => by have := (k.q_.lt q k.q_.own).2; omega, hA.lt⟩)
  clear h ho hid hlm hA1 hB1 hH hMX hS hdue hdk hright hzs hLF hfv hon hr hT hdz
  go_enter Tryz.func19, Tryz.ntmps19
  go_upto_region 1 with fail
  (try rw [hg])
  (try rw [hW1])
  go_wp2_with fail
  go_quiet (fail)
  have hK := HK.out.drewN nq
  obtain ⟨W3, hWn⟩ : ∃ W, World.drewN W1 nq = W := ⟨_, rfl⟩
  rw [hWn] at hK ⊢
  clear hWn
  have HK3 := Lib.hid hK
  clear hK
  have y1 := HK3.out.q_.c1
  have y2 := HK3.out.q_.c2
  have y5 := HK3.out.q_.c5
  have y33 := HK3.out.q_.c33
  clear c32 c6 c1
  rw [hst] at y5
  rw [hag] at y33
  clear hst hag
  go_wp2_with fail
  skip
  go_quiet (fail)
  have hK := HK3.out.drewN nq
  obtain ⟨W4, hWn⟩ : ∃ W, World.drewN W3 nq = W := ⟨_, rfl⟩
  rw [hWn] at hK ⊢
  clear hWn
  have HK5 := Lib.hid hK
  clear hK
  obtain ⟨g7, W5, hg7, hW5, hN5, hA7, hgq7, hlt7⟩ := HG7.out _ HK5.out
  have HK6 := Lib.hid hN5
  have HA7 := Lib.hid hA7
  have x0 := HK5.out.q_.c0
  clear hN5 hA7 HG7
  go_wp2_with (first | ((with_reducible refine at_st (x := .tmp 7) ?_); refine st_top W4 (frL (FN.zero 0) .nil .nil) LF (by rfl) g7 (by rfl) hg7.symm (by rw [HLT.out]; rfl) rfl HFl.out HFo.out ?_; rw [hW5]) | ((with_reducible refine at_ld ?_); refine ld_fr_g _ LF (by rfl) (by rfl) HA7.out HFl.out ?_) | (go_at_call 35; (with_reducible refine (HONE.out _).mono ?_); rintro e w10 ⟨oA, oc, rfl, hb10⟩; have hK4 := HK6.out.below hb10; have HK4 := Lib.hid hK4;  clear hb10 hK4) | ((with_reducible refine at_st (x := .tmp 4) ?_); refine st_at _ _ (frL (FN.zero 0) .nil .nil) (by rfl) (by rfl) HK4.out.ag (by rfl) (by rfl) (by rfl) ?_; intro w9 hA9 hk9; have HK9 := Lib.hid hk9; clear hk9) | fail)
  refine bodyPost_ret (results_cell_tmp 4 5 54 (by rfl) _ 54 _ _ _ (by rfl) (by rfl) hA9 Tryz.underlying54 rfl fr_info) rfl ?_
  exact HE.out _ _ HK4.out HK9.out
theorem rq_next (h : Qr w base q O X) (ho : X.ok) (hid : X.id ≤ 4611686018427387903) (hlm : X.b.rd + X.win ≤ 1099511627776) (room : Int) : Calls Tryz.prog 19 #[.pointer (some ⟨q, 0, none⟩), .int .i64 room] w (RqPost (.tuple #[frV (dueF X (nxK X room)) .nil .nil, .bool (nxK X room != 0)]) base q O (nextX X (nxK X room)) w) := by
  cases hd : X.due with
  | true =>
    have hk : dueK X = 1 := by unfold dueK; rw [if_pos hd]
    by_cases hr : nxZ X ≤ room
    · have e : nxK X room = 1 := by unfold nxK; rw [hk, if_pos ⟨by omega, hr⟩]
      rw [e]
      exact rq_next1 h ho hid hlm room hk hr
    · have e : nxK X room = 0 := by unfold nxK; rw [if_neg (fun h => hr h.2)]
      rw [e]
      exact rq_next1_no h ho hid hlm room hk (by omega)
  | false =>
    by_cases hst : X.st = 1
    · cases ha : X.again with
      | true =>
        have hk : dueK X = 2 := by unfold dueK; rw [hd, if_neg (by simp), if_pos ⟨hst, .inl ha⟩]
        by_cases hr : nxZ X ≤ room
        · have e : nxK X room = 2 := by unfold nxK; rw [hk, if_pos ⟨by omega, hr⟩]
          rw [e]
          exact rq_next2a h ho hid hlm room hd hst ha hk hr
        · have e : nxK X room = 0 := by unfold nxK; rw [if_neg (fun h => hr h.2)]
          rw [e]
          exact rq_next2a_no h ho hid hlm room hd hst ha hk (by omega)
      | false =>
        by_cases hm : X.lim + max (X.win / 2) 1 ≤ X.b.rd + X.win
        · have hk : dueK X = 2 := by unfold dueK; rw [hd, if_neg (by simp), if_pos ⟨hst, .inr hm⟩]
          by_cases hr : nxZ X ≤ room
          · have e : nxK X room = 2 := by unfold nxK; rw [hk, if_pos ⟨by omega, hr⟩]
            rw [e]
            exact rq_next2b h ho hid hlm room hd hst ha hm hk hr
          · have e : nxK X room = 0 := by unfold nxK; rw [if_neg (fun h => hr h.2)]
            rw [e]
            exact rq_next2b_no h ho hid hlm room hd hst ha hm hk (by omega)
        · have hk : dueK X = 0 := by unfold dueK; rw [hd, if_neg (by simp), if_neg (by rw [ha]; rintro ⟨_, h | h⟩ <;> first | cases h | omega)]
          have e : nxK X room = 0 := by unfold nxK; rw [if_neg (fun h => h.1 hk)]
          rw [e]
          exact rq_next0_lim h ho hid hlm room hd hst ha (by omega)
    · have hk : dueK X = 0 := by unfold dueK; rw [hd, if_neg (by simp), if_neg (fun h => hst h.1)]
      have e : nxK X room = 0 := by unfold nxK; rw [if_neg (fun h => h.1 hk)]
      rw [e]
      exact rq_next0_st h ho hid hlm room hd hst
end
end Go.Proofs.YtphpdaldplkgmaaGreat
