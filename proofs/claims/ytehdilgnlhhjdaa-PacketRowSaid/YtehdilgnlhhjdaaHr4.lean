/-
  A head, whatever bytes (head.read).
-/
import Derived.Test.YtehdilgnlhhjdaaMq11
import Derived.IntWalk
namespace Go.Proofs.Ytehdilgnlhhjdaa
set_option linter.unusedVariables false
set_option linter.unusedSimpArgs false
open Go.RowKit
set_option maxRecDepth 100000 in
set_option maxHeartbeats 1000000 in
theorem hread_no (p : Nat) (T : TypeId) (P : Nat → Prop) (bs : List Int) (w : World) (hr : Rdr w p T P (bs, false)) (hP : ∀ b, P b → b ≠ p) (hl : bs.length ≤ 1000000) (hx : byteR (bs, false) / 64 % 2 = 0) :
    Calls Try.prog 72 #[.pointer (some ⟨p, 0, none⟩)] w (HRead bs w p T P) := by
  have hpl : p < w.heap.size := by obtain ⟨_, _, _, h, _⟩ := hr; exact h.lt
  have hby : Byt bs := hr.byt
  have hbx := byteR_bd (bs, false) hby
  have hr' := hr.mono (P' := fun b => P b ∧ b < w.heap.size) (fun b hb hP => ⟨hP, hb⟩)
  have hP' : ∀ b, (P b ∧ b < w.heap.size) → b ≠ p := fun b hb => hP b hb.1
  have hrA : Rdr (w.alloc (.cells (hdL HN.zero Sl.nil).toArray 30)) p T (fun b => P b ∧ b < w.heap.size) (bs, false) :=
    hr'.kept ((Kept.refl (fun _ => False) w).alloc _) (fun h => h) (fun _ _ h => h)
  have hA0 : At (w.alloc (.cells (hdL HN.zero Sl.nil).toArray 30)) w.heap.size 30 (hdL HN.zero Sl.nil) := At.new w _ _
  have hk0 : Kept (· = p) w (w.alloc (.cells (hdL HN.zero Sl.nil).toArray 30)) := (Kept.refl _ _).alloc _
  have hl1 : (takeN (bs, false) 1).1.length ≤ bs.length := takeN_le (bs, false) 1
  clear hr hr'
  have hpn : parseS bs = none := by unfold parseS; simp only; rw [if_pos hx]
  obtain ⟨x, hxx⟩ : ∃ x, byteR (bs, false) = x := ⟨_, rfl⟩
  rw [hxx] at hbx hx
  have HX := Lib.hid hxx
  have HPN := Lib.hid hpn
  clear hxx hpn
  have f1 : bits BinOp.and IntKind.u8 x 64 = 0 := by rw [b_and64 x hbx.1 hbx.2, hx]; rfl
  go_enter Try.func72, Try.ntmps72
  go_wp2_with fail
  refine (byte_any p T _ (bs, false) _ hrA hP').mono ?_
  rintro e w1 ⟨rfl, hr1, hk1⟩
  rw [HX.out]
  have hA1 := hA0.kept hk1 (by omega)
  have hk01 := hk0.trans hk1
  have hz1 := hA1.lt
  clear hk1 hk0 hrA hA0
  go_wp2_with (first | ((with_reducible refine at_sth ?_); refine st_hd _ _ (hdL HN.zero Sl.nil) (by rfl) (by rfl) hA1 (by rfl) (by rfl) (by rfl) ?_; intro w3 hA3 hk3) | fail)
  refine bodyPost_ret (results_cell_tmp2 2 3 4 30 (by rfl) _ 30 _ _ _ _ (by rfl) (by rfl) (by rfl) hA3 Try.underlying30 rfl hd_info) rfl ?_
  exact ⟨HN.zero, Sl.nil, [], 0, false, _, rfl, link_no bs _ _ _ HPN.out, InD.nil_ _ _, (hr1.kept hk3 (by omega) (fun b hb hs => by omega)).mono (fun b _ hb => hb.1), hk01.trans' hk3 (fun j hj => .inr (by omega)), by omega, by omega, hl1, wf_zero8⟩
set_option maxRecDepth 100000 in
set_option maxHeartbeats 1000000 in
theorem hread_short (p : Nat) (T : TypeId) (P : Nat → Prop) (bs : List Int) (w : World) (hr : Rdr w p T P (bs, false)) (hP : ∀ b, P b → b ≠ p) (hl : bs.length ≤ 1000000) (hx : ¬ byteR (bs, false) / 64 % 2 = 0) (hy : byteR (bs, false) / 128 = 0) :
    Calls Try.prog 72 #[.pointer (some ⟨p, 0, none⟩)] w (HRead bs w p T P) := by
  have hpl : p < w.heap.size := by obtain ⟨_, _, _, h, _⟩ := hr; exact h.lt
  have hby : Byt bs := hr.byt
  have hbx := byteR_bd (bs, false) hby
  have hr' := hr.mono (P' := fun b => P b ∧ b < w.heap.size) (fun b hb hP => ⟨hP, hb⟩)
  have hP' : ∀ b, (P b ∧ b < w.heap.size) → b ≠ p := fun b hb => hP b hb.1
  have hrA : Rdr (w.alloc (.cells (hdL HN.zero Sl.nil).toArray 30)) p T (fun b => P b ∧ b < w.heap.size) (bs, false) :=
    hr'.kept ((Kept.refl (fun _ => False) w).alloc _) (fun h => h) (fun _ _ h => h)
  have hA0 : At (w.alloc (.cells (hdL HN.zero Sl.nil).toArray 30)) w.heap.size 30 (hdL HN.zero Sl.nil) := At.new w _ _
  have hk0 : Kept (· = p) w (w.alloc (.cells (hdL HN.zero Sl.nil).toArray 30)) := (Kept.refl _ _).alloc _
  have hl1 : (takeN (bs, false) 1).1.length ≤ bs.length := takeN_le (bs, false) 1
  clear hr hr'
  have hl2 := takeN_le (takeN (bs, false) 1) 8
  have hlk := link_short bs hx hy _ rfl
  have hb8 := n8_byt _ (takeR_byt (takeN (bs, false) 1) 8 (takeN_byt _ _ hby))
  obtain ⟨x, hxx⟩ : ∃ x, byteR (bs, false) = x := ⟨_, rfl⟩
  rw [hxx] at hbx hx hy
  have HX := Lib.hid hxx
  clear hxx
  have f1 : bits BinOp.and IntKind.u8 x 64 = 64 := by rw [b_and64 x hbx.1 hbx.2]; omega
  have f2 : bits BinOp.and IntKind.u8 x 128 = 0 := by rw [b_and128 x hbx.1 hbx.2, hy]; rfl
  obtain ⟨s1, hs1⟩ : ∃ s, takeN (bs, false) 1 = s := ⟨_, rfl⟩
  rw [hs1] at hlk hl1 hl2 hb8
  obtain ⟨n1, hn1⟩ : ∃ n, N8.of (takeR s1 8) = n := ⟨_, rfl⟩
  rw [hn1] at hlk hb8
  have hn1' : cid8 (takeR s1 8) = n1.l := by rw [← hn1]; rfl
  have HN1 := Lib.hid hn1'
  have HS1 := Lib.hid hs1
  have HLK := Lib.hid hlk
  have HB8 := Lib.hid hb8
  clear hlk hb8 hs1 hn1 hn1'
  obtain ⟨t0, t1, t2, t3, t4, t5, t6, t7⟩ := n1
  go_enter Try.func72, Try.ntmps72
  go_wp2_with fail
  refine (byte_any p T _ (bs, false) _ hrA hP').mono ?_
  rintro e w1 ⟨rfl, hr1, hk1⟩
  rw [HX.out]
  have hA1 := hA0.kept hk1 (by omega)
  have hk01 := hk0.trans hk1
  have hz1 := hA1.lt
  clear hk1 hk0 hrA hA0
  rw [HS1.out] at hr1
  go_wp2_with fail
  refine (hname_any p T _ s1 w1 hr1 hP' (by omega)).mono ?_
  rintro e w2 ⟨rfl, hr2, hk2⟩
  rw [HN1.out]
  simp only [N8.l, List.map_cons, List.map_nil]
  have hA2 := hA1.kept hk2 (by omega)
  have hk02 := hk01.trans hk2
  have hz2 := hA2.lt
  clear hk2 hk01 hr1 hA1
  have hr3 := hr2.kept ((Kept.refl (fun _ => False) w2).alloc (.cells (hdL ⟨2, ⟨t0, t1, t2, t3, t4, t5, t6, t7⟩, .zero, 1, false⟩ Sl.nil).toArray 30)) (fun h => h) (fun _ _ h => h)
  have hA3 := hA2.alloc (.cells (hdL ⟨2, ⟨t0, t1, t2, t3, t4, t5, t6, t7⟩, .zero, 1, false⟩ Sl.nil).toArray 30)
  have hH3 := At.new w2 30 (hdL ⟨2, ⟨t0, t1, t2, t3, t4, t5, t6, t7⟩, .zero, 1, false⟩ Sl.nil)
  have hk03 := hk02.alloc (.cells (hdL ⟨2, ⟨t0, t1, t2, t3, t4, t5, t6, t7⟩, .zero, 1, false⟩ Sl.nil).toArray 30)
  obtain ⟨w3, hw3⟩ : ∃ x, w2.alloc (.cells (hdL ⟨2, ⟨t0, t1, t2, t3, t4, t5, t6, t7⟩, .zero, 1, false⟩ Sl.nil).toArray 30) = x := ⟨_, rfl⟩
  rw [hw3] at hr3 hA3 hH3 hk03
  have hz3 := hH3.lt
  clear hr2 hA2 hk02
  go_wp2_with (first | ((with_reducible refine at_sth ?_); refine wpList_store_top w2 30 (hdL HN.zero Sl.nil) (hdL ⟨2, ⟨t0, t1, t2, t3, t4, t5, t6, t7⟩, .zero, 1, false⟩ Sl.nil) (by rfl) _ (by rfl) (by simp) (by rfl) (by rfl) hd_info (by rfl) ?_; rw [hw3]) | fail)
  clear hw3
  obtain ⟨g6, hg6⟩ : ∃ g, w2.heap.size = g := ⟨_, rfl⟩
  rw [hg6] at hH3 hz3 hz2 ⊢
  obtain ⟨L, hL⟩ : ∃ L, hdL ⟨2, ⟨t0, t1, t2, t3, t4, t5, t6, t7⟩, .zero, 1, false⟩ Sl.nil = L := ⟨_, rfl⟩
  have hLl : L.length = 20 := by rw [← hL]; rfl
  have hLo : L.all (·.oneCell') = true := by rw [← hL]; rfl
  have hLv : hdV ⟨2, ⟨t0, t1, t2, t3, t4, t5, t6, t7⟩, .zero, 1, false⟩ Sl.nil = .agg L.toArray := by rw [← hL]; rfl
  rw [hL] at hH3
  have HLl := Lib.hid hLl
  have HLo := Lib.hid hLo
  have HLv := Lib.hid hLv
  clear hL hLl hLo hLv hg6
  have hH3 := hH3.drew
  have hA3 := hA3.drew
  have hr3 := hr3.drewN 1
  have hk03 := hk03.drewN 1
  obtain ⟨s2, hs2⟩ : ∃ s, takeN s1 8 = s := ⟨_, rfl⟩
  rw [hs2] at hr3 hl2
  have HS2 := Lib.hid hs2
  clear hs2
  obtain ⟨N, hN⟩ : ∃ N, s2.1.length = N := ⟨_, rfl⟩
  have HNN := Lib.hid hN
  rw [hN] at hl2
  clear hN
  refine wp_region_held_drew (S := (fun w' => w'.rangeAt g6 0 L)) (by kernel_rfl) (hH3.rangeAt) (fun hHeld => ?_)
  refine tk_dst (i := 0) (dst := some 19) rfl rfl (by kernel_rfl) (by kernel_rfl) (by kernel_rfl) (fun _ _ _ h => h) (v := ?_) ?_ (by assumption) ?_
  rotate_left
  · refine yl_any 30 ?ylx0 ?ylo0 ?ylb0 ?ylq0 ?ylp0 L _ ?ylS0 Try.underlying30 rfl ?yli0 ?ylw0
    case ylo0 => rfl
    case ylp0 => rfl
    case ylS0 => intro w hSw; exact hSw
    case yli0 => rw [HLl.out]; exact hd_info
    case ylw0 => rfl
  simp only [Act.put, List.setIfInBounds_toArray, List.set_cons_zero, List.set_cons_succ]
  refine tk_dst (i := 1) (dst := some 20) rfl rfl (by kernel_rfl) (by kernel_rfl) (by kernel_rfl) (fun _ _ _ h => h) (v := ?_) (Or.inl ⟨by rfl, ?_⟩) (by assumption) ?_
  rotate_left
  · intro w hSw; (try dsimp only at hSw); go_simp; first | done | (with_reducible rfl)
  simp only [Act.put, List.setIfInBounds_toArray, List.set_cons_zero, List.set_cons_succ]
  refine wpAnyH_ready (rs := [2]) (by kernel_rfl) (by simp) ?_
  refine AllReadyH.cons rfl (fun K hK => ?_) AllReadyH.nil
  go_simp
  go_wp2_with ((go_at_call 74; refine (left_any p T _ s2 _ hr3).mono ?_; rintro e w4 ⟨rfl, rfl⟩))
  refine hK.out _ _ (hHeld) (fun hHeld => ?_)
  clear hK K
  rw [HNN.out]
  have hwr : IntKind.u64.wrap (N : Int) = N := by rw [IntKind.wrap_u64]; omega
  refine tk_dst (i := 3) (dst := some 22) rfl rfl (by kernel_rfl) (by kernel_rfl) (by kernel_rfl) (fun _ _ _ h => h) (v := ?_) (Or.inl ⟨by rfl, ?_⟩) (by assumption) ?_
  rotate_left
  · intro w hSw; (try dsimp only at hSw); go_simp; first | done | (with_reducible rfl)
  simp only [Act.put, List.setIfInBounds_toArray, List.set_cons_zero, List.set_cons_succ]
  refine wpAnyH_ready (rs := [4]) (by kernel_rfl) (by simp) ?_
  refine AllReadyH.cons rfl (fun K hK => ?_) AllReadyH.nil
  refine step_st_any (by rfl) w.heap.size 30 (hdL HN.zero Sl.nil) L (by rfl) (by rfl) hA3 (by rw [HLl.out]; rfl) (by rw [HLl.out]; exact hd_info) HLo.out ?_
  intro w9 hA9 hk9
  have hH9 := hH3.kept hk9 (by omega)
  refine hK.out _ _ hH9.rangeAt (fun hHeld => ?_)
  clear hK K
  refine tk_dst (i := 5) (dst := some 3) rfl rfl (by kernel_rfl) (by kernel_rfl) (by kernel_rfl) (fun _ _ _ h => h) (v := ?_) (Or.inl ⟨by rfl, ?_⟩) (by assumption) ?_
  rotate_left
  · intro w hSw; (try dsimp only at hSw); go_simp; first | done | (with_reducible rfl)
  simp only [Act.put, List.setIfInBounds_toArray, List.set_cons_zero, List.set_cons_succ]
  refine tk_dst (i := 6) (dst := some 4) rfl rfl (by kernel_rfl) (by kernel_rfl) (by kernel_rfl) (fun _ _ _ h => h) (v := ?_) (Or.inl ⟨by rfl, ?_⟩) (by assumption) ?_
  rotate_left
  · intro w hSw; (try dsimp only at hSw); go_simp; first | done | (with_reducible rfl)
  simp only [Act.put, List.setIfInBounds_toArray, List.set_cons_zero, List.set_cons_succ]
  refine wpAnyH_done (by kernel_rfl) ?_ _
  go_wp2_with fail
  refine bodyPost_ret (results_cell_tmp2 2 3 4 30 (by rfl) _ 30 _ _ _ _ (by rfl) (by rfl) (by rfl) hA9 Try.underlying30 rfl (by rw [HLl.out]; exact hd_info)) rfl ?_
  refine ⟨⟨2, ⟨t0, t1, t2, t3, t4, t5, t6, t7⟩, .zero, 1, false⟩, Sl.nil, [], s2.1.length, true, s2, ?_, ?_, InD.nil_ _ _, (hr3.kept hk9 (by omega) (fun b hb e => by omega)).mono (fun b _ hb => hb.1), hk03.trans' hk9 (fun j hj => .inr (by omega)), by omega, by rw [HNN.out]; omega, by rw [HNN.out]; omega, ?_⟩
  · rw [HLv.out, HNN.out]
    rfl
  · rw [← HS2.out]; exact HLK.out
  · constructor
    · show (-9223372036854775808 : Int) ≤ 2; decide
    · show (2 : Int) ≤ 9223372036854775807; decide
    · show (-9223372036854775808 : Int) ≤ 1; decide
    · show (1 : Int) ≤ 9223372036854775807; decide
    · exact HB8.out
    · exact wf_zero8.tb
set_option maxRecDepth 100000 in
set_option maxHeartbeats 1000000 in
theorem hread_bad (p : Nat) (T : TypeId) (P : Nat → Prop) (bs : List Int) (w : World) (hr : Rdr w p T P (bs, false)) (hP : ∀ b, P b → b ≠ p) (hl : bs.length ≤ 1000000) (hx : ¬ byteR (bs, false) / 64 % 2 = 0) (hy : ¬ byteR (bs, false) / 128 = 0) (hv : twoR (takeN (bs, false) 1) * 65536 + twoR (takeN (takeN (bs, false) 1) 2) ≠ 1 ∨ 1 < byteR (bs, false) / 16 % 4) :
    Calls Try.prog 72 #[.pointer (some ⟨p, 0, none⟩)] w (HRead bs w p T P) := by
  have hpl : p < w.heap.size := by obtain ⟨_, _, _, h, _⟩ := hr; exact h.lt
  have hby : Byt bs := hr.byt
  have hbx := byteR_bd (bs, false) hby
  have hr' := hr.mono (P' := fun b => P b ∧ b < w.heap.size) (fun b hb hP => ⟨hP, hb⟩)
  have hP' : ∀ b, (P b ∧ b < w.heap.size) → b ≠ p := fun b hb => hP b hb.1
  have hrA : Rdr (w.alloc (.cells (hdL HN.zero Sl.nil).toArray 30)) p T (fun b => P b ∧ b < w.heap.size) (bs, false) :=
    hr'.kept ((Kept.refl (fun _ => False) w).alloc _) (fun h => h) (fun _ _ h => h)
  have hA0 : At (w.alloc (.cells (hdL HN.zero Sl.nil).toArray 30)) w.heap.size 30 (hdL HN.zero Sl.nil) := At.new w _ _
  have hk0 : Kept (· = p) w (w.alloc (.cells (hdL HN.zero Sl.nil).toArray 30)) := (Kept.refl _ _).alloc _
  have hl1 : (takeN (bs, false) 1).1.length ≤ bs.length := takeN_le (bs, false) 1
  clear hr hr'
  have hpn := link_bad bs hby hx hy hv
  have HPN := Lib.hid hpn
  have hcall := fun W h => rlong_no p T (fun b => P b ∧ b < w.heap.size) (takeN (bs, false) 1) (byteR (bs, false) / 16 % 4) W h hP' (by omega) (by omega) hv
  have hl3 : (takeN (takeN (takeN (bs, false) 1) 2) 2).1.length ≤ (takeN (bs, false) 1).1.length := Nat.le_trans (takeN_le _ _) (takeN_le _ _)
  clear hpn hv
  obtain ⟨x, hxx⟩ : ∃ x, byteR (bs, false) = x := ⟨_, rfl⟩
  rw [hxx] at hbx hx hy hcall
  have HX := Lib.hid hxx
  clear hxx
  have f1 : bits BinOp.and IntKind.u8 x 64 = 64 := by rw [b_and64 x hbx.1 hbx.2]; omega
  have f2 : bits BinOp.and IntKind.u8 x 128 = 128 := by rw [b_and128 x hbx.1 hbx.2]; omega
  have f3 : bits BinOp.and IntKind.u8 (x / 16) 3 = x / 16 % 4 := by rw [b_and3 (x / 16) (by omega) (by omega)]
  obtain ⟨sp, hsp⟩ : ∃ s, x / 16 % 4 = s := ⟨_, rfl⟩
  rw [hsp] at hcall f3
  have hsp3 : 0 ≤ sp ∧ sp ≤ 3 := by omega
  obtain ⟨hsp0, hsp4⟩ := hsp3
  clear hsp
  have HC := Lib.hid hcall
  clear hcall
  go_enter Try.func72, Try.ntmps72
  go_wp2_with fail
  refine (byte_any p T _ (bs, false) _ hrA hP').mono ?_
  rintro e w1 ⟨rfl, hr1, hk1⟩
  rw [HX.out]
  have hA1 := hA0.kept hk1 (by omega)
  have hk01 := hk0.trans hk1
  have hz1 := hA1.lt
  clear hk1 hk0 hrA hA0
  go_wp2_with fail
  refine (HC.out _ hr1).mono ?_
  rintro e w2 ⟨rfl, hr2, hk2⟩
  have hA2 := hA1.kept hk2 (by omega)
  have hk02 := hk01.trans hk2
  have hz2 := hA2.lt
  clear hk2 hk01 hr1 hA1
  have hLv : hdV HN.zero Sl.nil = .agg (hdL HN.zero Sl.nil).toArray := rfl
  go_wp2_with (first | ((with_reducible refine at_sth ?_); refine st_hd _ _ (hdL HN.zero Sl.nil) (by rfl) (by rfl) hA2 (by rfl) (by rfl) (by rfl) ?_; intro w3 hA3 hk3) | fail)
  refine bodyPost_ret (results_cell_tmp2 2 3 4 30 (by rfl) _ 30 _ _ _ _ (by rfl) (by rfl) (by rfl) hA3 Try.underlying30 rfl hd_info) rfl ?_
  exact ⟨HN.zero, Sl.nil, [], 0, false, _, rfl, link_no bs _ _ _ HPN.out, InD.nil_ _ _, (hr2.kept hk3 (by omega) (fun b hb hs => by omega)).mono (fun b _ hb => hb.1), hk02.trans' hk3 (fun j hj => .inr (by omega)), by omega, by omega, Nat.le_trans hl3 hl1, wf_zero8⟩
set_option maxRecDepth 100000 in
set_option maxHeartbeats 1000000 in
theorem hread_0 (p : Nat) (T : TypeId) (P : Nat → Prop) (bs : List Int) (w : World) (hr : Rdr w p T P (bs, false)) (hP : ∀ b, P b → b ≠ p) (hl : bs.length ≤ 1000000) (hx : ¬ byteR (bs, false) / 64 % 2 = 0) (hy : ¬ byteR (bs, false) / 128 = 0) (h0 : twoR (takeN (bs, false) 1) = 0) (h1 : twoR (takeN (takeN (bs, false) 1) 2) = 1) (hsp : byteR (bs, false) / 16 % 4 = 0) :
    Calls Try.prog 72 #[.pointer (some ⟨p, 0, none⟩)] w (HRead bs w p T P) := by
  have hpl : p < w.heap.size := by obtain ⟨_, _, _, h, _⟩ := hr; exact h.lt
  have hby : Byt bs := hr.byt
  have hbx := byteR_bd (bs, false) hby
  have hr' := hr.mono (P' := fun b => P b ∧ b < w.heap.size) (fun b hb hP => ⟨hP, hb⟩)
  have hP' : ∀ b, (P b ∧ b < w.heap.size) → b ≠ p := fun b hb => hP b hb.1
  have hrA : Rdr (w.alloc (.cells (hdL HN.zero Sl.nil).toArray 30)) p T (fun b => P b ∧ b < w.heap.size) (bs, false) :=
    hr'.kept ((Kept.refl (fun _ => False) w).alloc _) (fun h => h) (fun _ _ h => h)
  have hA0 : At (w.alloc (.cells (hdL HN.zero Sl.nil).toArray 30)) w.heap.size 30 (hdL HN.zero Sl.nil) := At.new w _ _
  have hk0 : Kept (· = p) w (w.alloc (.cells (hdL HN.zero Sl.nil).toArray 30)) := (Kept.refl _ _).alloc _
  have hl1 : (takeN (bs, false) 1).1.length ≤ bs.length := takeN_le (bs, false) 1
  clear hr hr'
  have hlk := link_long bs hby hx hy 0 hsp (by omega) (by rw [h0, h1]; rfl) _ rfl
  have HLK := Lib.hid hlk
  have hcall := fun W h => rlong_0 p T (fun b => P b ∧ b < w.heap.size) (takeN (bs, false) 1) W h hP' (by omega) h0 h1
  have hs2b : Byt (takeN (takeN (takeN (bs, false) 1) 2) 2).1 := takeN_byt _ _ (takeN_byt _ _ (takeN_byt _ _ hby))
  have hl3 : (varN (tokN (lgN (lgN (takeN (takeN (takeN (bs, false) 1) 2) 2))) 0)).1.length ≤ bs.length := Nat.le_trans (varN_le _) (Nat.le_trans (tokN_le _ _) (Nat.le_trans (lgN_le _) (Nat.le_trans (lgN_le _) (Nat.le_trans (takeN_le _ _) (Nat.le_trans (takeN_le _ _) hl1)))))
  have hvb := varR_bd (tokN (lgN (lgN (takeN (takeN (takeN (bs, false) 1) 2) 2))) 0) (tokN_byt _ _ (takeN_byt _ _ (takeN_byt _ _ (takeN_byt _ _ (takeN_byt _ _ hs2b)))))
  have hb1 := n8_byt _ (takeR_byt (takeN (takeN (takeN (takeN (bs, false) 1) 2) 2) 1) 8 (takeN_byt _ _ hs2b))
  have hb2 := n8_byt _ (takeR_byt (takeN (lgN (takeN (takeN (takeN (bs, false) 1) 2) 2)) 1) 8 (takeN_byt _ _ (takeN_byt _ _ (takeN_byt _ _ hs2b))))
  clear hlk h0 h1 hs2b
  obtain ⟨x, hxx⟩ : ∃ x, byteR (bs, false) = x := ⟨_, rfl⟩
  rw [hxx] at hbx hx hy hsp
  have HX := Lib.hid hxx
  clear hxx
  have f1 : bits BinOp.and IntKind.u8 x 64 = 64 := by rw [b_and64 x hbx.1 hbx.2]; omega
  have f2 : bits BinOp.and IntKind.u8 x 128 = 128 := by rw [b_and128 x hbx.1 hbx.2]; omega
  have f3 : bits BinOp.and IntKind.u8 (x / 16) 3 = 0 := by rw [b_and3 (x / 16) (by omega) (by omega)]; omega
  have HC := Lib.hid hcall
  clear hcall
  go_enter Try.func72, Try.ntmps72
  go_wp2_with fail
  refine (byte_any p T _ (bs, false) _ hrA hP').mono ?_
  rintro e w1 ⟨rfl, hr1, hk1⟩
  rw [HX.out]
  have hA1 := hA0.kept hk1 (by omega)
  have hk01 := hk0.trans hk1
  have hz1 := hA1.lt
  clear hk1 hk0 hrA hA0
  go_wp2_with fail
  refine (HC.out _ hr1).mono ?_
  rintro e w2 ⟨d, rfl, hin2, hr2, hk2⟩
  have hA2 := hA1.kept hk2 (by omega)
  have hk02 := hk01.trans hk2
  have hz2 := hA2.lt
  have hwf : (⟨0, N8.of (lgR (takeN (takeN (takeN (bs, false) 1) 2) 2)), N8.of (lgR (lgN (takeN (takeN (takeN (bs, false) 1) 2) 2))), 1, false⟩ : HN).wf := by
    constructor
    · show (-9223372036854775808 : Int) ≤ 0; decide
    · show (0 : Int) ≤ 9223372036854775807; decide
    · show (-9223372036854775808 : Int) ≤ 1; decide
    · show (1 : Int) ≤ 9223372036854775807; decide
    · exact hb1
    · exact hb2
  clear hk2 hk01 hr1 hA1 hb1 hb2
  have hlk := HLK.out
  clear HLK
  obtain ⟨m, hm⟩ : ∃ m : HN, (⟨0, N8.of (lgR (takeN (takeN (takeN (bs, false) 1) 2) 2)), N8.of (lgR (lgN (takeN (takeN (takeN (bs, false) 1) 2) 2))), 1, false⟩ : HN) = m := ⟨_, rfl⟩
  rw [hm] at hlk hwf ⊢
  clear hm
  generalize ((byteR (takeN (takeN (takeN (bs, false) 1) 2) 2) == 8) && ((byteR (lgN (takeN (takeN (takeN (bs, false) 1) 2) 2)) == 8) && decide ((tokR (lgN (lgN (takeN (takeN (takeN (bs, false) 1) 2) 2))) 0).length ≤ 32))) = ok at hlk ⊢
  generalize tokR (lgN (lgN (takeN (takeN (takeN (bs, false) 1) 2) 2))) 0 = tok at hlk hin2 ⊢
  generalize tokN (lgN (lgN (takeN (takeN (takeN (bs, false) 1) 2) 2))) 0 = s5 at hlk hr2 hl3 hvb ⊢
  generalize varN s5 = s6 at hlk hr2 hl3 ⊢
  generalize varR s5 = n at hlk hvb ⊢
  obtain ⟨L, hL⟩ : ∃ L, hdL m d = L := ⟨_, rfl⟩
  have hLl : L.length = 20 := by rw [← hL]; rfl
  have hLo : L.all (·.oneCell') = true := by rw [← hL]; rfl
  have hLv : hdV m d = .agg L.toArray := by rw [← hL]; rfl
  rw [hLv]
  have HLl := Lib.hid hLl
  have HLo := Lib.hid hLo
  have HLv := Lib.hid hLv
  have HLK := Lib.hid hlk
  clear hL hLl hLo hLv hlk
  go_wp2_with (first | ((with_reducible refine at_sth ?_); refine st_hd _ _ L (by rfl) (by rfl) hA2 (by rfl) HLl.out HLo.out ?_; intro w3 hA3 hk3) | fail)
  refine bodyPost_ret (results_cell_tmp2 2 3 4 30 (by rfl) _ 30 _ _ _ _ (by rfl) (by rfl) (by rfl) hA3 Try.underlying30 rfl (by rw [HLl.out]; exact hd_info)) rfl ?_
  refine ⟨m, d, tok, n, ok, s6, ?_, HLK.out, (hin2.kept hk3 (fun b hb e => by omega)).mono (fun b _ hb => by omega), (hr2.kept hk3 (by omega) (fun b hb hs => by omega)).mono (fun b _ hb => hb.1), hk02.trans' hk3 (fun j hj => .inr (by omega)), hvb.1, hvb.2, hl3, hwf⟩
  rw [HLv.out]
  rfl
set_option maxRecDepth 100000 in
set_option maxHeartbeats 1000000 in
theorem hread_1 (p : Nat) (T : TypeId) (P : Nat → Prop) (bs : List Int) (w : World) (hr : Rdr w p T P (bs, false)) (hP : ∀ b, P b → b ≠ p) (hl : bs.length ≤ 1000000) (hx : ¬ byteR (bs, false) / 64 % 2 = 0) (hy : ¬ byteR (bs, false) / 128 = 0) (h0 : twoR (takeN (bs, false) 1) = 0) (h1 : twoR (takeN (takeN (bs, false) 1) 2) = 1) (hsp : byteR (bs, false) / 16 % 4 = 1) :
    Calls Try.prog 72 #[.pointer (some ⟨p, 0, none⟩)] w (HRead bs w p T P) := by
  have hpl : p < w.heap.size := by obtain ⟨_, _, _, h, _⟩ := hr; exact h.lt
  have hby : Byt bs := hr.byt
  have hbx := byteR_bd (bs, false) hby
  have hr' := hr.mono (P' := fun b => P b ∧ b < w.heap.size) (fun b hb hP => ⟨hP, hb⟩)
  have hP' : ∀ b, (P b ∧ b < w.heap.size) → b ≠ p := fun b hb => hP b hb.1
  have hrA : Rdr (w.alloc (.cells (hdL HN.zero Sl.nil).toArray 30)) p T (fun b => P b ∧ b < w.heap.size) (bs, false) :=
    hr'.kept ((Kept.refl (fun _ => False) w).alloc _) (fun h => h) (fun _ _ h => h)
  have hA0 : At (w.alloc (.cells (hdL HN.zero Sl.nil).toArray 30)) w.heap.size 30 (hdL HN.zero Sl.nil) := At.new w _ _
  have hk0 : Kept (· = p) w (w.alloc (.cells (hdL HN.zero Sl.nil).toArray 30)) := (Kept.refl _ _).alloc _
  have hl1 : (takeN (bs, false) 1).1.length ≤ bs.length := takeN_le (bs, false) 1
  clear hr hr'
  have hlk := link_long bs hby hx hy 1 hsp (by omega) (by rw [h0, h1]; rfl) _ rfl
  have HLK := Lib.hid hlk
  have hcall := fun W h => rlong_1 p T (fun b => P b ∧ b < w.heap.size) (takeN (bs, false) 1) W h hP' (by omega) h0 h1
  have hs2b : Byt (takeN (takeN (takeN (bs, false) 1) 2) 2).1 := takeN_byt _ _ (takeN_byt _ _ (takeN_byt _ _ hby))
  have hl3 : (varN (tokN (lgN (lgN (takeN (takeN (takeN (bs, false) 1) 2) 2))) 1)).1.length ≤ bs.length := Nat.le_trans (varN_le _) (Nat.le_trans (tokN_le _ _) (Nat.le_trans (lgN_le _) (Nat.le_trans (lgN_le _) (Nat.le_trans (takeN_le _ _) (Nat.le_trans (takeN_le _ _) hl1)))))
  have hvb := varR_bd (tokN (lgN (lgN (takeN (takeN (takeN (bs, false) 1) 2) 2))) 1) (tokN_byt _ _ (takeN_byt _ _ (takeN_byt _ _ (takeN_byt _ _ (takeN_byt _ _ hs2b)))))
  have hb1 := n8_byt _ (takeR_byt (takeN (takeN (takeN (takeN (bs, false) 1) 2) 2) 1) 8 (takeN_byt _ _ hs2b))
  have hb2 := n8_byt _ (takeR_byt (takeN (lgN (takeN (takeN (takeN (bs, false) 1) 2) 2)) 1) 8 (takeN_byt _ _ (takeN_byt _ _ (takeN_byt _ _ hs2b))))
  clear hlk h0 h1 hs2b
  obtain ⟨x, hxx⟩ : ∃ x, byteR (bs, false) = x := ⟨_, rfl⟩
  rw [hxx] at hbx hx hy hsp
  have HX := Lib.hid hxx
  clear hxx
  have f1 : bits BinOp.and IntKind.u8 x 64 = 64 := by rw [b_and64 x hbx.1 hbx.2]; omega
  have f2 : bits BinOp.and IntKind.u8 x 128 = 128 := by rw [b_and128 x hbx.1 hbx.2]; omega
  have f3 : bits BinOp.and IntKind.u8 (x / 16) 3 = 1 := by rw [b_and3 (x / 16) (by omega) (by omega)]; omega
  have HC := Lib.hid hcall
  clear hcall
  go_enter Try.func72, Try.ntmps72
  go_wp2_with fail
  refine (byte_any p T _ (bs, false) _ hrA hP').mono ?_
  rintro e w1 ⟨rfl, hr1, hk1⟩
  rw [HX.out]
  have hA1 := hA0.kept hk1 (by omega)
  have hk01 := hk0.trans hk1
  have hz1 := hA1.lt
  clear hk1 hk0 hrA hA0
  go_wp2_with fail
  refine (HC.out _ hr1).mono ?_
  rintro e w2 ⟨d, rfl, hin2, hr2, hk2⟩
  have hA2 := hA1.kept hk2 (by omega)
  have hk02 := hk01.trans hk2
  have hz2 := hA2.lt
  have hwf : (⟨1, N8.of (lgR (takeN (takeN (takeN (bs, false) 1) 2) 2)), N8.of (lgR (lgN (takeN (takeN (takeN (bs, false) 1) 2) 2))), 1, false⟩ : HN).wf := by
    constructor
    · show (-9223372036854775808 : Int) ≤ 1; decide
    · show (1 : Int) ≤ 9223372036854775807; decide
    · show (-9223372036854775808 : Int) ≤ 1; decide
    · show (1 : Int) ≤ 9223372036854775807; decide
    · exact hb1
    · exact hb2
  clear hk2 hk01 hr1 hA1 hb1 hb2
  have hlk := HLK.out
  clear HLK
  obtain ⟨m, hm⟩ : ∃ m : HN, (⟨1, N8.of (lgR (takeN (takeN (takeN (bs, false) 1) 2) 2)), N8.of (lgR (lgN (takeN (takeN (takeN (bs, false) 1) 2) 2))), 1, false⟩ : HN) = m := ⟨_, rfl⟩
  rw [hm] at hlk hwf ⊢
  clear hm
  generalize ((byteR (takeN (takeN (takeN (bs, false) 1) 2) 2) == 8) && ((byteR (lgN (takeN (takeN (takeN (bs, false) 1) 2) 2)) == 8) && decide ((tokR (lgN (lgN (takeN (takeN (takeN (bs, false) 1) 2) 2))) 1).length ≤ 32))) = ok at hlk ⊢
  generalize tokR (lgN (lgN (takeN (takeN (takeN (bs, false) 1) 2) 2))) 1 = tok at hlk hin2 ⊢
  generalize tokN (lgN (lgN (takeN (takeN (takeN (bs, false) 1) 2) 2))) 1 = s5 at hlk hr2 hl3 hvb ⊢
  generalize varN s5 = s6 at hlk hr2 hl3 ⊢
  generalize varR s5 = n at hlk hvb ⊢
  obtain ⟨L, hL⟩ : ∃ L, hdL m d = L := ⟨_, rfl⟩
  have hLl : L.length = 20 := by rw [← hL]; rfl
  have hLo : L.all (·.oneCell') = true := by rw [← hL]; rfl
  have hLv : hdV m d = .agg L.toArray := by rw [← hL]; rfl
  rw [hLv]
  have HLl := Lib.hid hLl
  have HLo := Lib.hid hLo
  have HLv := Lib.hid hLv
  have HLK := Lib.hid hlk
  clear hL hLl hLo hLv hlk
  go_wp2_with (first | ((with_reducible refine at_sth ?_); refine st_hd _ _ L (by rfl) (by rfl) hA2 (by rfl) HLl.out HLo.out ?_; intro w3 hA3 hk3) | fail)
  refine bodyPost_ret (results_cell_tmp2 2 3 4 30 (by rfl) _ 30 _ _ _ _ (by rfl) (by rfl) (by rfl) hA3 Try.underlying30 rfl (by rw [HLl.out]; exact hd_info)) rfl ?_
  refine ⟨m, d, tok, n, ok, s6, ?_, HLK.out, (hin2.kept hk3 (fun b hb e => by omega)).mono (fun b _ hb => by omega), (hr2.kept hk3 (by omega) (fun b hb hs => by omega)).mono (fun b _ hb => hb.1), hk02.trans' hk3 (fun j hj => .inr (by omega)), hvb.1, hvb.2, hl3, hwf⟩
  rw [HLv.out]
  rfl
theorem hread_any (p : Nat) (T : TypeId) (P : Nat → Prop) (bs : List Int) (w : World) (hr : Rdr w p T P (bs, false)) (hP : ∀ b, P b → b ≠ p) (hl : bs.length ≤ 1000000) :
    Calls Try.prog 72 #[.pointer (some ⟨p, 0, none⟩)] w (HRead bs w p T P) := by
  have hby : Byt bs := hr.byt
  have b1 := twoR_bd (takeN (bs, false) 1) (takeN_byt _ _ hby)
  have b2 := twoR_bd (takeN (takeN (bs, false) 1) 2) (takeN_byt _ _ (takeN_byt _ _ hby))
  have b3 := byteR_bd (bs, false) hby
  by_cases hx : byteR (bs, false) / 64 % 2 = 0
  · exact hread_no p T P bs w hr hP hl hx
  by_cases hy : byteR (bs, false) / 128 = 0
  · exact hread_short p T P bs w hr hP hl hx hy
  by_cases hv : twoR (takeN (bs, false) 1) * 65536 + twoR (takeN (takeN (bs, false) 1) 2) ≠ 1 ∨ 1 < byteR (bs, false) / 16 % 4
  · exact hread_bad p T P bs w hr hP hl hx hy hv
  · have h0 : twoR (takeN (bs, false) 1) = 0 := by omega
    have h1 : twoR (takeN (takeN (bs, false) 1) 2) = 1 := by omega
    by_cases hs : byteR (bs, false) / 16 % 4 = 0
    · exact hread_0 p T P bs w hr hP hl hx hy h0 h1 hs
    · exact hread_1 p T P bs w hr hP hl hx hy h0 h1 (by omega)
end Go.Proofs.Ytehdilgnlhhjdaa
