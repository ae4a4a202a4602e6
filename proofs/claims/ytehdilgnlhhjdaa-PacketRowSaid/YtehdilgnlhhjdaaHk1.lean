/-
  The head of a Handshake that is drawn.
-/
import Derived.Test.YtehdilgnlhhjdaaMq4
namespace Go.Proofs.Ytehdilgnlhhjdaa
set_option linter.unusedVariables false
set_option linter.unusedSimpArgs false
open Go.RowKit
set_option maxRecDepth 100000 in
set_option maxHeartbeats 8000000 in
theorem khead_1 (P : Nat → Prop) (S T F W : Int) (d : Sl) (ph : Bool) (bs : List Int) (w : World) (hd : InD w P d bs) (hS : -9223372036854775808 ≤ S ∧ S ≤ 9223372036854775807) (hT : -9223372036854775808 ≤ T ∧ T ≤ 9223372036854775807) (hF : -9223372036854775808 ≤ F ∧ F ≤ 9223372036854775807) (hW : -9223372036854775808 ≤ W ∧ W ≤ 9223372036854775807)
    (hs : withinS S 0 2 = 1) : Calls Try.prog 12 #[.agg (xL S T F W d ph).toArray] w (KHPost w P) := by
  have HW1 := Lib.hid (fun W' => within_any S 0 2 W' hS.1 hS.2 (by decide) (by decide) (by decide))
  rw [hs] at HW1
  have HW2 := Lib.hid (fun W' => within_any W 1 4 W' hW.1 hW.2 (by decide) (by decide) (by decide))
  have hwb := withinS_bd W 1 4 (by decide)
  have HC1 := Lib.hid (fun W' => cidk_any T W' hT.1 hT.2 (withinS_bd T 0 1048576 (by decide)))
  have HC2 := Lib.hid (fun W' => cidk_any F W' hF.1 hF.2 (withinS_bd F 0 1048576 (by decide)))
  have htx := cidX_bd T
  have hfx := cidX_bd F
  obtain ⟨wd, hwd⟩ : ∃ x, withinS W 1 4 = x := ⟨_, rfl⟩
  obtain ⟨tx, htx'⟩ : ∃ x, cidX T = x := ⟨_, rfl⟩
  obtain ⟨fx, hfx'⟩ : ∃ x, cidX F = x := ⟨_, rfl⟩
  rw [hwd] at HW2 hwb
  rw [htx'] at HC1 htx
  rw [hfx'] at HC2 hfx
  clear hwd htx' hfx' hs hS hT hF hW
  have hB : Below w.heap.size w ((w.alloc (.cells (xL S T F W d ph).toArray 39)).alloc (.cells (hdL HN.zero Sl.nil).toArray 30)) := ((Below.refl _ _).alloc (Nat.le_refl _) _).alloc (by simp) _
  have hX : At ((w.alloc (.cells (xL S T F W d ph).toArray 39)).alloc (.cells (hdL HN.zero Sl.nil).toArray 30)) w.heap.size 39 (xL S T F W d ph) := (At.new w _ _).alloc _
  have hR : At ((w.alloc (.cells (xL S T F W d ph).toArray 39)).alloc (.cells (hdL HN.zero Sl.nil).toArray 30)) (w.heap.size + 1) 30 (hdL HN.zero Sl.nil) := At.new_ _ _ _ (by simp)
  go_enter Try.func12, Try.ntmps12
  go_wp2_with fail
  change (Code.region _ _ _).wp _ _ _ ((w.alloc (.cells (xL S T F W d ph).toArray 39)).alloc (.cells (hdL HN.zero Sl.nil).toArray 30))
  obtain ⟨w1, hw1⟩ : ∃ x, (w.alloc (.cells (xL S T F W d ph).toArray 39)).alloc (.cells (hdL HN.zero Sl.nil).toArray 30) = x := ⟨_, rfl⟩
  rw [hw1] at hB hX hR ⊢
  clear hw1
  have hB : Below w.heap.size w w1.drew := belowN hB 1
  have hX := hX.drew
  have hR := hR.drew
  have hz := hR.lt
  have x0 : w1.drew.cell? ⟨w.heap.size, 0, none⟩ = some (.int .i64 S) := hX.cell 0
  have x1 : w1.drew.cell? ⟨w.heap.size, 1, none⟩ = some (.int .i64 T) := hX.cell 1
  have x3 : w1.drew.cell? ⟨w.heap.size, 3, none⟩ = some (.int .i64 W) := hX.cell 3
  refine wp_region_held_drew (S := fun w' => w'.cell? ⟨w.heap.size, 0, none⟩ = some (.int .i64 S) ∧ w'.cell? ⟨w.heap.size, 1, none⟩ = some (.int .i64 T) ∧ w'.cell? ⟨w.heap.size, 3, none⟩ = some (.int .i64 W)) (by kernel_rfl) ⟨x0, x1, x3⟩ (fun hHeld => ?_)
  obtain ⟨wA, hwA⟩ : ∃ x, w1.drew = x := ⟨_, rfl⟩
  rw [hwA] at hB hX hR hz hHeld x0 x1 x3 ⊢
  clear hwA
  refine tk_dst (i := 0) (dst := some 4) rfl rfl (by kernel_rfl) (by kernel_rfl) (by kernel_rfl) (fun _ _ _ h => h) (v := ?_) (Or.inl ⟨by rfl, ?_⟩) (by assumption) ?_
  rotate_left
  · intro w hSw; (try dsimp only at hSw); go_simp; first | done | (with_reducible rfl)
  simp only [Act.put, List.setIfInBounds_toArray, List.set_cons_zero, List.set_cons_succ]
  refine tk_dst (i := 1) (dst := some 5) rfl rfl (by kernel_rfl) (by kernel_rfl) (by kernel_rfl) (fun _ _ _ h => h) (v := ?_) (Or.inl ⟨by rfl, ?_⟩) (by assumption) ?_
  rotate_left
  · intro w hSw; (try dsimp only at hSw); go_simp; first | done | (with_reducible rfl)
  simp only [Act.put, List.setIfInBounds_toArray, List.set_cons_zero, List.set_cons_succ]
  refine tk_dst (i := 3) (dst := some 7) rfl rfl (by kernel_rfl) (by kernel_rfl) (by kernel_rfl) (fun _ _ _ h => h) (v := ?_) (Or.inl ⟨by rfl, ?_⟩) (by assumption) ?_
  rotate_left
  · intro w hSw; (try dsimp only at hSw); go_simp; first | done | (with_reducible rfl)
  simp only [Act.put, List.setIfInBounds_toArray, List.set_cons_zero, List.set_cons_succ]
  refine tk_dst (i := 4) (dst := some 8) rfl rfl (by kernel_rfl) (by kernel_rfl) (by kernel_rfl) (fun _ _ _ h => h) (v := ?_) (Or.inl ⟨by rfl, ?_⟩) (by assumption) ?_
  rotate_left
  · intro w hSw; (try dsimp only at hSw); go_simp; first | done | (with_reducible rfl)
  simp only [Act.put, List.setIfInBounds_toArray, List.set_cons_zero, List.set_cons_succ]
  refine tk_dst (i := 6) (dst := some 10) rfl rfl (by kernel_rfl) (by kernel_rfl) (by kernel_rfl) (fun _ _ _ h => h) (v := ?_) (Or.inl ⟨by rfl, ?_⟩) (by assumption) ?_
  rotate_left
  · intro w hSw; (try dsimp only at hSw); go_simp; first | done | (with_reducible rfl)
  simp only [Act.put, List.setIfInBounds_toArray, List.set_cons_zero, List.set_cons_succ]
  refine tk_dst (i := 7) (dst := some 11) rfl rfl (by kernel_rfl) (by kernel_rfl) (by kernel_rfl) (fun _ _ _ h => h) (v := ?_) (Or.inl ⟨by rfl, ?_⟩) (by assumption) ?_
  rotate_left
  · intro w hSw; (try dsimp only at hSw); go_simp; first | done | (with_reducible rfl)
  simp only [Act.put, List.setIfInBounds_toArray, List.set_cons_zero, List.set_cons_succ]
  refine wpAnyH_ready (rs := [2, 10]) (by kernel_rfl) (by simp) ?_
  refine AllReadyH.cons rfl (fun K hK => ?_) (AllReadyH.cons rfl (fun K hK => ?_) AllReadyH.nil)
  · skip
    go_simp
    go_wp2_with ((go_at_call 30; refine (HW1.out _).mono ?_; rintro e w' ⟨rfl, rfl⟩))
    refine hK.out _ _ ⟨x0, x1, x3⟩ (fun hHeld => ?_)
    clear hK K
    refine wpAnyH_ready (rs := [5, 10]) (by kernel_rfl) (by simp) ?_
    refine AllReadyH.cons rfl (fun K hK => ?_) (AllReadyH.cons rfl (fun K hK => ?_) AllReadyH.nil)
    · skip
      go_simp
      go_wp2_with ((go_at_call 31; refine (HC1.out _).mono ?_; rintro e wC ⟨rfl, hbC⟩))
      have hsC := hbC.size
      have hX2 := hX.below hbC hX.lt
      have hR2 := hR.below hbC hR.lt
      have hB2 := hB.trans (hbC.mono (by omega))
      refine hK.out _ _ ⟨hX2.cell 0, hX2.cell 1, hX2.cell 3⟩ (fun hHeld => ?_)
      clear hK K hX hR hB hbC x0 x1 x3
      have hX := hX2
      have hR := hR2
      have hB := hB2
      have hzC := hR.lt
      have x0 : wC.cell? ⟨w.heap.size, 0, none⟩ = some (.int .i64 S) := hX.cell 0
      have x1 : wC.cell? ⟨w.heap.size, 1, none⟩ = some (.int .i64 T) := hX.cell 1
      have x3 : wC.cell? ⟨w.heap.size, 3, none⟩ = some (.int .i64 W) := hX.cell 3
      clear hX2 hR2 hB2
      refine wpAnyH_ready (rs := [8, 10]) (by kernel_rfl) (by simp) ?_
      refine AllReadyH.cons rfl (fun K hK => ?_) (AllReadyH.cons rfl (fun K hK => ?_) AllReadyH.nil)
      · skip
        go_simp
        go_wp2_with ((go_at_call 30; refine (HW2.out _).mono ?_; rintro e w' ⟨rfl, rfl⟩))
        refine hK.out _ _ ⟨x0, x1, x3⟩ (fun hHeld => ?_)
        clear hK K
        refine tk_dst (i := 9) (dst := some 13) rfl rfl (by kernel_rfl) (by kernel_rfl) (by kernel_rfl) (fun _ _ _ h => h) (v := ?_) (Or.inl ⟨by rfl, ?_⟩) (by assumption) ?_
        rotate_left
        · intro w hSw; (try dsimp only at hSw); go_simp; first | done | (with_reducible rfl)
        simp only [Act.put, List.setIfInBounds_toArray, List.set_cons_zero, List.set_cons_succ]
        refine wpAnyH_ready (rs := [10]) (by kernel_rfl) (by simp) ?_
        refine AllReadyH.cons rfl (fun K hK => ?_) AllReadyH.nil
        go_simp
        have hX4 := hX.alloc (.cells (hdL HN.zero Sl.nil).toArray 30)
        have hR4 := hR.alloc (.cells (hdL HN.zero Sl.nil).toArray 30)
        have hB4 := hB.alloc (by omega) (.cells (hdL HN.zero Sl.nil).toArray 30)
        have hG := At.new wC 30 (hdL HN.zero Sl.nil)
        have hzg := hR.lt
        change K _ (wC.alloc (.cells (hdL HN.zero Sl.nil).toArray 30))
        obtain ⟨g3, hg3⟩ : ∃ g, wC.heap.size = g := ⟨_, rfl⟩
        rw [hg3]
        obtain ⟨wN, hwN⟩ : ∃ x, wC.alloc (.cells (hdL HN.zero Sl.nil).toArray 30) = x := ⟨_, rfl⟩
        rw [hwN] at hX4 hR4 hB4 hG ⊢
        rw [hg3] at hG
        rw [hg3] at hzg
        refine hK.out _ _ ⟨hX4.cell 0, hX4.cell 1, hX4.cell 3⟩ (fun hHeld => ?_)
        clear hK K hX hR hB hwN x0 x1 x3
        have hX := hX4
        have hR := hR4
        have hB := hB4
        have hzz := hG.lt
        have x0 : wN.cell? ⟨w.heap.size, 0, none⟩ = some (.int .i64 S) := hX.cell 0
        have x1 : wN.cell? ⟨w.heap.size, 1, none⟩ = some (.int .i64 T) := hX.cell 1
        have x3 : wN.cell? ⟨w.heap.size, 3, none⟩ = some (.int .i64 W) := hX.cell 3
        clear hX4 hR4 hB4
        refine wpAnyH_ready (rs := [11]) (by kernel_rfl) (by simp) ?_
        refine AllReadyH.cons rfl (fun K hK => ?_) AllReadyH.nil
        refine step_st_any (by rfl) g3 30 (hdL HN.zero Sl.nil) (hdL ⟨1, ⟨1, tx, 7, 0, 0, 0, 0, 0⟩, .zero, wd, false⟩ Sl.nil) (by rfl) (by rfl) hG (by rfl) hd_info (by rfl) ?_
        intro w5 hG5 hk5
        have hX5 := hX.kept hk5 (by omega)
        have hR5 := hR.kept hk5 (by omega)
        have hB5 := hk5.below hB (by omega) (fun j hj => by omega)
        have hs5 := hk5.size
        refine hK.out _ _ ⟨hX5.cell 0, hX5.cell 1, hX5.cell 3⟩ (fun hHeld => ?_)
        clear hK K hX hR hB hG hk5 x0 x1 x3 hHeld
        refine wpAnyH_done (by kernel_rfl) ?_ _
        have c0 : w5.cell? ⟨g3, 0, none⟩ = some (.int .i64 1) := hG5.cell 0
        have x2 : w5.cell? ⟨w.heap.size, 2, none⟩ = some (.int .i64 F) := hX5.cell 2
        go_wp2_with fail
        refine (HC2.out _).mono ?_
        rintro e w6 ⟨rfl, hb6⟩
        have hX6 := hX5.below hb6 hX5.lt
        have hR6 := hR5.below hb6 hR5.lt
        have hG6 := hG5.below hb6 hG5.lt
        have hB6 := hB5.trans (hb6.mono hB5.size)
        have hs6 := hb6.size
        clear hb6 hX5 hR5 hG5 hB5 c0 x2
        go_wp2_with (first | ((with_reducible refine at_stc ?_); refine wpList_store_sub (ty := 27) g3 9 _ _ (hdL ⟨1, ⟨1, tx, 7, 0, 0, 0, 0, 0⟩, ⟨1, fx, 7, 0, 0, 0, 0, 0⟩, wd, false⟩ Sl.nil) [.int .u8 1, .int .u8 fx, .int .u8 7, .int .u8 0, .int .u8 0, .int .u8 0, .int .u8 0, .int .u8 0] (by rfl) (by rfl) hG6 (by show 17 ≤ 20; decide) cid_info (by rfl) (by rfl) ?_; intro w7 hG7 hk7; have hX7 := hX6.kept hk7 (by omega); have hR7 := hR6.kept hk7 (by omega); have hB7 := hk7.below hB6 (by omega) (fun j hj => by omega); have hs7 := hk7.size; have c0 : w7.cell? ⟨g3, 0, none⟩ = some (.int .i64 1) := hG7.cell 0; have x4 : w7.cell? ⟨w.heap.size, 4, none⟩ = some (.slice d.A d.n d.c) := hX7.cell 4) | ((with_reducible refine at_ldh ?_); refine ld_hd _ _ (by rfl) hG7 (by rfl) ?_) | ((with_reducible refine at_sth ?_); refine st_hd _ _ (hdL ⟨1, ⟨1, tx, 7, 0, 0, 0, 0, 0⟩, ⟨1, fx, 7, 0, 0, 0, 0, 0⟩, wd, false⟩ Sl.nil) (by rfl) (by rfl) hR7 (by rfl) (by rfl) (by rfl) ?_; intro w9 hR9 hk9) | fail)
        refine bodyPost_ret (results_cell 2 30 (by rfl) _ 30 _ _ (by rfl) hR9 Try.underlying30 rfl hd_info) rfl ?_
        refine ⟨⟨1, ⟨1, tx, 7, 0, 0, 0, 0, 0⟩, ⟨1, fx, 7, 0, 0, 0, 0, 0⟩, wd, false⟩, Sl.nil, [], rfl, ⟨?_, InD.nil_ _ _⟩, ?_, hk9.below hB7 (by omega) (fun j hj => by omega)⟩
        · constructor
          · show (-9223372036854775808 : Int) ≤ 1; decide
          · show (1 : Int) ≤ 9223372036854775807; decide
          · show (-9223372036854775808 : Int) ≤ wd; omega
          · show (wd : Int) ≤ 9223372036854775807; omega
          · intro x hx; simp [N8.l] at hx; omega
          · intro x hx; simp [N8.l, N8.zero] at hx; omega
        · unfold hrightB
          simp only [decide_eq_true_eq]
          refine ⟨by decide, by decide, hwb.1, hwb.2, ?_, ?_, ?_, ?_⟩ <;> first | (simp; done) | (simp; omega)
      · skip
        go_simp
        have hX5 := hX.alloc (.cells (hdL HN.zero Sl.nil).toArray 30)
        have hR5 := hR.alloc (.cells (hdL HN.zero Sl.nil).toArray 30)
        have hB5 := hB.alloc (by omega) (.cells (hdL HN.zero Sl.nil).toArray 30)
        have hG := At.new wC 30 (hdL HN.zero Sl.nil)
        have hzg := hR.lt
        change K _ (wC.alloc (.cells (hdL HN.zero Sl.nil).toArray 30))
        obtain ⟨g3, hg3⟩ : ∃ g, wC.heap.size = g := ⟨_, rfl⟩
        rw [hg3]
        obtain ⟨wN, hwN⟩ : ∃ x, wC.alloc (.cells (hdL HN.zero Sl.nil).toArray 30) = x := ⟨_, rfl⟩
        rw [hwN] at hX5 hR5 hB5 hG ⊢
        rw [hg3] at hG
        rw [hg3] at hzg
        refine hK.out _ _ ⟨hX5.cell 0, hX5.cell 1, hX5.cell 3⟩ (fun hHeld => ?_)
        clear hK K hX hR hB hwN x0 x1 x3
        have hX := hX5
        have hR := hR5
        have hB := hB5
        have hzz := hG.lt
        have x0 : wN.cell? ⟨w.heap.size, 0, none⟩ = some (.int .i64 S) := hX.cell 0
        have x1 : wN.cell? ⟨w.heap.size, 1, none⟩ = some (.int .i64 T) := hX.cell 1
        have x3 : wN.cell? ⟨w.heap.size, 3, none⟩ = some (.int .i64 W) := hX.cell 3
        clear hX5 hR5 hB5
        refine wpAnyH_ready (rs := [8]) (by kernel_rfl) (by simp) ?_
        refine AllReadyH.cons rfl (fun K hK => ?_) AllReadyH.nil
        go_simp
        go_wp2_with ((go_at_call 30; refine (HW2.out _).mono ?_; rintro e w' ⟨rfl, rfl⟩))
        refine hK.out _ _ ⟨x0, x1, x3⟩ (fun hHeld => ?_)
        clear hK K
        refine tk_dst (i := 9) (dst := some 13) rfl rfl (by kernel_rfl) (by kernel_rfl) (by kernel_rfl) (fun _ _ _ h => h) (v := ?_) (Or.inl ⟨by rfl, ?_⟩) (by assumption) ?_
        rotate_left
        · intro w hSw; (try dsimp only at hSw); go_simp; first | done | (with_reducible rfl)
        simp only [Act.put, List.setIfInBounds_toArray, List.set_cons_zero, List.set_cons_succ]
        refine wpAnyH_ready (rs := [11]) (by kernel_rfl) (by simp) ?_
        refine AllReadyH.cons rfl (fun K hK => ?_) AllReadyH.nil
        refine step_st_any (by rfl) g3 30 (hdL HN.zero Sl.nil) (hdL ⟨1, ⟨1, tx, 7, 0, 0, 0, 0, 0⟩, .zero, wd, false⟩ Sl.nil) (by rfl) (by rfl) hG (by rfl) hd_info (by rfl) ?_
        intro w5 hG5 hk5
        have hX5 := hX.kept hk5 (by omega)
        have hR5 := hR.kept hk5 (by omega)
        have hB5 := hk5.below hB (by omega) (fun j hj => by omega)
        have hs5 := hk5.size
        refine hK.out _ _ ⟨hX5.cell 0, hX5.cell 1, hX5.cell 3⟩ (fun hHeld => ?_)
        clear hK K hX hR hB hG hk5 x0 x1 x3 hHeld
        refine wpAnyH_done (by kernel_rfl) ?_ _
        have c0 : w5.cell? ⟨g3, 0, none⟩ = some (.int .i64 1) := hG5.cell 0
        have x2 : w5.cell? ⟨w.heap.size, 2, none⟩ = some (.int .i64 F) := hX5.cell 2
        go_wp2_with fail
        refine (HC2.out _).mono ?_
        rintro e w6 ⟨rfl, hb6⟩
        have hX6 := hX5.below hb6 hX5.lt
        have hR6 := hR5.below hb6 hR5.lt
        have hG6 := hG5.below hb6 hG5.lt
        have hB6 := hB5.trans (hb6.mono hB5.size)
        have hs6 := hb6.size
        clear hb6 hX5 hR5 hG5 hB5 c0 x2
        go_wp2_with (first | ((with_reducible refine at_stc ?_); refine wpList_store_sub (ty := 27) g3 9 _ _ (hdL ⟨1, ⟨1, tx, 7, 0, 0, 0, 0, 0⟩, ⟨1, fx, 7, 0, 0, 0, 0, 0⟩, wd, false⟩ Sl.nil) [.int .u8 1, .int .u8 fx, .int .u8 7, .int .u8 0, .int .u8 0, .int .u8 0, .int .u8 0, .int .u8 0] (by rfl) (by rfl) hG6 (by show 17 ≤ 20; decide) cid_info (by rfl) (by rfl) ?_; intro w7 hG7 hk7; have hX7 := hX6.kept hk7 (by omega); have hR7 := hR6.kept hk7 (by omega); have hB7 := hk7.below hB6 (by omega) (fun j hj => by omega); have hs7 := hk7.size; have c0 : w7.cell? ⟨g3, 0, none⟩ = some (.int .i64 1) := hG7.cell 0; have x4 : w7.cell? ⟨w.heap.size, 4, none⟩ = some (.slice d.A d.n d.c) := hX7.cell 4) | ((with_reducible refine at_ldh ?_); refine ld_hd _ _ (by rfl) hG7 (by rfl) ?_) | ((with_reducible refine at_sth ?_); refine st_hd _ _ (hdL ⟨1, ⟨1, tx, 7, 0, 0, 0, 0, 0⟩, ⟨1, fx, 7, 0, 0, 0, 0, 0⟩, wd, false⟩ Sl.nil) (by rfl) (by rfl) hR7 (by rfl) (by rfl) (by rfl) ?_; intro w9 hR9 hk9) | fail)
        refine bodyPost_ret (results_cell 2 30 (by rfl) _ 30 _ _ (by rfl) hR9 Try.underlying30 rfl hd_info) rfl ?_
        refine ⟨⟨1, ⟨1, tx, 7, 0, 0, 0, 0, 0⟩, ⟨1, fx, 7, 0, 0, 0, 0, 0⟩, wd, false⟩, Sl.nil, [], rfl, ⟨?_, InD.nil_ _ _⟩, ?_, hk9.below hB7 (by omega) (fun j hj => by omega)⟩
        · constructor
          · show (-9223372036854775808 : Int) ≤ 1; decide
          · show (1 : Int) ≤ 9223372036854775807; decide
          · show (-9223372036854775808 : Int) ≤ wd; omega
          · show (wd : Int) ≤ 9223372036854775807; omega
          · intro x hx; simp [N8.l] at hx; omega
          · intro x hx; simp [N8.l, N8.zero] at hx; omega
        · unfold hrightB
          simp only [decide_eq_true_eq]
          refine ⟨by decide, by decide, hwb.1, hwb.2, ?_, ?_, ?_, ?_⟩ <;> first | (simp; done) | (simp; omega)
    · skip
      go_simp
      have hX7 := hX.alloc (.cells (hdL HN.zero Sl.nil).toArray 30)
      have hR7 := hR.alloc (.cells (hdL HN.zero Sl.nil).toArray 30)
      have hB7 := hB.alloc (by omega) (.cells (hdL HN.zero Sl.nil).toArray 30)
      have hG := At.new wA 30 (hdL HN.zero Sl.nil)
      have hzg := hR.lt
      change K _ (wA.alloc (.cells (hdL HN.zero Sl.nil).toArray 30))
      obtain ⟨g3, hg3⟩ : ∃ g, wA.heap.size = g := ⟨_, rfl⟩
      rw [hg3]
      obtain ⟨wN, hwN⟩ : ∃ x, wA.alloc (.cells (hdL HN.zero Sl.nil).toArray 30) = x := ⟨_, rfl⟩
      rw [hwN] at hX7 hR7 hB7 hG ⊢
      rw [hg3] at hG
      rw [hg3] at hzg
      refine hK.out _ _ ⟨hX7.cell 0, hX7.cell 1, hX7.cell 3⟩ (fun hHeld => ?_)
      clear hK K hX hR hB hwN x0 x1 x3
      have hX := hX7
      have hR := hR7
      have hB := hB7
      have hzz := hG.lt
      have x0 : wN.cell? ⟨w.heap.size, 0, none⟩ = some (.int .i64 S) := hX.cell 0
      have x1 : wN.cell? ⟨w.heap.size, 1, none⟩ = some (.int .i64 T) := hX.cell 1
      have x3 : wN.cell? ⟨w.heap.size, 3, none⟩ = some (.int .i64 W) := hX.cell 3
      clear hX7 hR7 hB7
      refine wpAnyH_ready (rs := [5]) (by kernel_rfl) (by simp) ?_
      refine AllReadyH.cons rfl (fun K hK => ?_) AllReadyH.nil
      go_simp
      go_wp2_with ((go_at_call 31; refine (HC1.out _).mono ?_; rintro e wC ⟨rfl, hbC⟩))
      have hsC := hbC.size
      have hX8 := hX.below hbC hX.lt
      have hR8 := hR.below hbC hR.lt
      have hB8 := hB.trans (hbC.mono (by omega))
      have hGk := hG.below hbC hG.lt
      refine hK.out _ _ ⟨hX8.cell 0, hX8.cell 1, hX8.cell 3⟩ (fun hHeld => ?_)
      clear hK K hX hR hB hbC x0 x1 x3 hG
      have hX := hX8
      have hR := hR8
      have hB := hB8
      have hG := hGk
      clear hGk
      have hzC := hR.lt
      have x0 : wC.cell? ⟨w.heap.size, 0, none⟩ = some (.int .i64 S) := hX.cell 0
      have x1 : wC.cell? ⟨w.heap.size, 1, none⟩ = some (.int .i64 T) := hX.cell 1
      have x3 : wC.cell? ⟨w.heap.size, 3, none⟩ = some (.int .i64 W) := hX.cell 3
      clear hX8 hR8 hB8
      refine wpAnyH_ready (rs := [8]) (by kernel_rfl) (by simp) ?_
      refine AllReadyH.cons rfl (fun K hK => ?_) AllReadyH.nil
      go_simp
      go_wp2_with ((go_at_call 30; refine (HW2.out _).mono ?_; rintro e w' ⟨rfl, rfl⟩))
      refine hK.out _ _ ⟨x0, x1, x3⟩ (fun hHeld => ?_)
      clear hK K
      refine tk_dst (i := 9) (dst := some 13) rfl rfl (by kernel_rfl) (by kernel_rfl) (by kernel_rfl) (fun _ _ _ h => h) (v := ?_) (Or.inl ⟨by rfl, ?_⟩) (by assumption) ?_
      rotate_left
      · intro w hSw; (try dsimp only at hSw); go_simp; first | done | (with_reducible rfl)
      simp only [Act.put, List.setIfInBounds_toArray, List.set_cons_zero, List.set_cons_succ]
      refine wpAnyH_ready (rs := [11]) (by kernel_rfl) (by simp) ?_
      refine AllReadyH.cons rfl (fun K hK => ?_) AllReadyH.nil
      refine step_st_any (by rfl) g3 30 (hdL HN.zero Sl.nil) (hdL ⟨1, ⟨1, tx, 7, 0, 0, 0, 0, 0⟩, .zero, wd, false⟩ Sl.nil) (by rfl) (by rfl) hG (by rfl) hd_info (by rfl) ?_
      intro w5 hG5 hk5
      have hX5 := hX.kept hk5 (by omega)
      have hR5 := hR.kept hk5 (by omega)
      have hB5 := hk5.below hB (by omega) (fun j hj => by omega)
      have hs5 := hk5.size
      refine hK.out _ _ ⟨hX5.cell 0, hX5.cell 1, hX5.cell 3⟩ (fun hHeld => ?_)
      clear hK K hX hR hB hG hk5 x0 x1 x3 hHeld
      refine wpAnyH_done (by kernel_rfl) ?_ _
      have c0 : w5.cell? ⟨g3, 0, none⟩ = some (.int .i64 1) := hG5.cell 0
      have x2 : w5.cell? ⟨w.heap.size, 2, none⟩ = some (.int .i64 F) := hX5.cell 2
      go_wp2_with fail
      refine (HC2.out _).mono ?_
      rintro e w6 ⟨rfl, hb6⟩
      have hX6 := hX5.below hb6 hX5.lt
      have hR6 := hR5.below hb6 hR5.lt
      have hG6 := hG5.below hb6 hG5.lt
      have hB6 := hB5.trans (hb6.mono hB5.size)
      have hs6 := hb6.size
      clear hb6 hX5 hR5 hG5 hB5 c0 x2
      go_wp2_with (first | ((with_reducible refine at_stc ?_); refine wpList_store_sub (ty := 27) g3 9 _ _ (hdL ⟨1, ⟨1, tx, 7, 0, 0, 0, 0, 0⟩, ⟨1, fx, 7, 0, 0, 0, 0, 0⟩, wd, false⟩ Sl.nil) [.int .u8 1, .int .u8 fx, .int .u8 7, .int .u8 0, .int .u8 0, .int .u8 0, .int .u8 0, .int .u8 0] (by rfl) (by rfl) hG6 (by show 17 ≤ 20; decide) cid_info (by rfl) (by rfl) ?_; intro w7 hG7 hk7; have hX7 := hX6.kept hk7 (by omega); have hR7 := hR6.kept hk7 (by omega); have hB7 := hk7.below hB6 (by omega) (fun j hj => by omega); have hs7 := hk7.size; have c0 : w7.cell? ⟨g3, 0, none⟩ = some (.int .i64 1) := hG7.cell 0; have x4 : w7.cell? ⟨w.heap.size, 4, none⟩ = some (.slice d.A d.n d.c) := hX7.cell 4) | ((with_reducible refine at_ldh ?_); refine ld_hd _ _ (by rfl) hG7 (by rfl) ?_) | ((with_reducible refine at_sth ?_); refine st_hd _ _ (hdL ⟨1, ⟨1, tx, 7, 0, 0, 0, 0, 0⟩, ⟨1, fx, 7, 0, 0, 0, 0, 0⟩, wd, false⟩ Sl.nil) (by rfl) (by rfl) hR7 (by rfl) (by rfl) (by rfl) ?_; intro w9 hR9 hk9) | fail)
      refine bodyPost_ret (results_cell 2 30 (by rfl) _ 30 _ _ (by rfl) hR9 Try.underlying30 rfl hd_info) rfl ?_
      refine ⟨⟨1, ⟨1, tx, 7, 0, 0, 0, 0, 0⟩, ⟨1, fx, 7, 0, 0, 0, 0, 0⟩, wd, false⟩, Sl.nil, [], rfl, ⟨?_, InD.nil_ _ _⟩, ?_, hk9.below hB7 (by omega) (fun j hj => by omega)⟩
      · constructor
        · show (-9223372036854775808 : Int) ≤ 1; decide
        · show (1 : Int) ≤ 9223372036854775807; decide
        · show (-9223372036854775808 : Int) ≤ wd; omega
        · show (wd : Int) ≤ 9223372036854775807; omega
        · intro x hx; simp [N8.l] at hx; omega
        · intro x hx; simp [N8.l, N8.zero] at hx; omega
      · unfold hrightB
        simp only [decide_eq_true_eq]
        refine ⟨by decide, by decide, hwb.1, hwb.2, ?_, ?_, ?_, ?_⟩ <;> first | (simp; done) | (simp; omega)
  · skip
    go_simp
    have hX10 := hX.alloc (.cells (hdL HN.zero Sl.nil).toArray 30)
    have hR10 := hR.alloc (.cells (hdL HN.zero Sl.nil).toArray 30)
    have hB10 := hB.alloc (by omega) (.cells (hdL HN.zero Sl.nil).toArray 30)
    have hG := At.new wA 30 (hdL HN.zero Sl.nil)
    have hzg := hR.lt
    change K _ (wA.alloc (.cells (hdL HN.zero Sl.nil).toArray 30))
    obtain ⟨g3, hg3⟩ : ∃ g, wA.heap.size = g := ⟨_, rfl⟩
    rw [hg3]
    obtain ⟨wN, hwN⟩ : ∃ x, wA.alloc (.cells (hdL HN.zero Sl.nil).toArray 30) = x := ⟨_, rfl⟩
    rw [hwN] at hX10 hR10 hB10 hG ⊢
    rw [hg3] at hG
    rw [hg3] at hzg
    refine hK.out _ _ ⟨hX10.cell 0, hX10.cell 1, hX10.cell 3⟩ (fun hHeld => ?_)
    clear hK K hX hR hB hwN x0 x1 x3
    have hX := hX10
    have hR := hR10
    have hB := hB10
    have hzz := hG.lt
    have x0 : wN.cell? ⟨w.heap.size, 0, none⟩ = some (.int .i64 S) := hX.cell 0
    have x1 : wN.cell? ⟨w.heap.size, 1, none⟩ = some (.int .i64 T) := hX.cell 1
    have x3 : wN.cell? ⟨w.heap.size, 3, none⟩ = some (.int .i64 W) := hX.cell 3
    clear hX10 hR10 hB10
    refine wpAnyH_ready (rs := [2]) (by kernel_rfl) (by simp) ?_
    refine AllReadyH.cons rfl (fun K hK => ?_) AllReadyH.nil
    go_simp
    go_wp2_with ((go_at_call 30; refine (HW1.out _).mono ?_; rintro e w' ⟨rfl, rfl⟩))
    refine hK.out _ _ ⟨x0, x1, x3⟩ (fun hHeld => ?_)
    clear hK K
    refine wpAnyH_ready (rs := [5]) (by kernel_rfl) (by simp) ?_
    refine AllReadyH.cons rfl (fun K hK => ?_) AllReadyH.nil
    go_simp
    go_wp2_with ((go_at_call 31; refine (HC1.out _).mono ?_; rintro e wC ⟨rfl, hbC⟩))
    have hsC := hbC.size
    have hX12 := hX.below hbC hX.lt
    have hR12 := hR.below hbC hR.lt
    have hB12 := hB.trans (hbC.mono (by omega))
    have hGk := hG.below hbC hG.lt
    refine hK.out _ _ ⟨hX12.cell 0, hX12.cell 1, hX12.cell 3⟩ (fun hHeld => ?_)
    clear hK K hX hR hB hbC x0 x1 x3 hG
    have hX := hX12
    have hR := hR12
    have hB := hB12
    have hG := hGk
    clear hGk
    have hzC := hR.lt
    have x0 : wC.cell? ⟨w.heap.size, 0, none⟩ = some (.int .i64 S) := hX.cell 0
    have x1 : wC.cell? ⟨w.heap.size, 1, none⟩ = some (.int .i64 T) := hX.cell 1
    have x3 : wC.cell? ⟨w.heap.size, 3, none⟩ = some (.int .i64 W) := hX.cell 3
    clear hX12 hR12 hB12
    refine wpAnyH_ready (rs := [8]) (by kernel_rfl) (by simp) ?_
    refine AllReadyH.cons rfl (fun K hK => ?_) AllReadyH.nil
    go_simp
    go_wp2_with ((go_at_call 30; refine (HW2.out _).mono ?_; rintro e w' ⟨rfl, rfl⟩))
    refine hK.out _ _ ⟨x0, x1, x3⟩ (fun hHeld => ?_)
    clear hK K
    refine tk_dst (i := 9) (dst := some 13) rfl rfl (by kernel_rfl) (by kernel_rfl) (by kernel_rfl) (fun _ _ _ h => h) (v := ?_) (Or.inl ⟨by rfl, ?_⟩) (by assumption) ?_
    rotate_left
    · intro w hSw; (try dsimp only at hSw); go_simp; first | done | (with_reducible rfl)
    simp only [Act.put, List.setIfInBounds_toArray, List.set_cons_zero, List.set_cons_succ]
    refine wpAnyH_ready (rs := [11]) (by kernel_rfl) (by simp) ?_
    refine AllReadyH.cons rfl (fun K hK => ?_) AllReadyH.nil
    refine step_st_any (by rfl) g3 30 (hdL HN.zero Sl.nil) (hdL ⟨1, ⟨1, tx, 7, 0, 0, 0, 0, 0⟩, .zero, wd, false⟩ Sl.nil) (by rfl) (by rfl) hG (by rfl) hd_info (by rfl) ?_
    intro w5 hG5 hk5
    have hX5 := hX.kept hk5 (by omega)
    have hR5 := hR.kept hk5 (by omega)
    have hB5 := hk5.below hB (by omega) (fun j hj => by omega)
    have hs5 := hk5.size
    refine hK.out _ _ ⟨hX5.cell 0, hX5.cell 1, hX5.cell 3⟩ (fun hHeld => ?_)
    clear hK K hX hR hB hG hk5 x0 x1 x3 hHeld
    refine wpAnyH_done (by kernel_rfl) ?_ _
    have c0 : w5.cell? ⟨g3, 0, none⟩ = some (.int .i64 1) := hG5.cell 0
    have x2 : w5.cell? ⟨w.heap.size, 2, none⟩ = some (.int .i64 F) := hX5.cell 2
    go_wp2_with fail
    refine (HC2.out _).mono ?_
    rintro e w6 ⟨rfl, hb6⟩
    have hX6 := hX5.below hb6 hX5.lt
    have hR6 := hR5.below hb6 hR5.lt
    have hG6 := hG5.below hb6 hG5.lt
    have hB6 := hB5.trans (hb6.mono hB5.size)
    have hs6 := hb6.size
    clear hb6 hX5 hR5 hG5 hB5 c0 x2
    go_wp2_with (first | ((with_reducible refine at_stc ?_); refine wpList_store_sub (ty := 27) g3 9 _ _ (hdL ⟨1, ⟨1, tx, 7, 0, 0, 0, 0, 0⟩, ⟨1, fx, 7, 0, 0, 0, 0, 0⟩, wd, false⟩ Sl.nil) [.int .u8 1, .int .u8 fx, .int .u8 7, .int .u8 0, .int .u8 0, .int .u8 0, .int .u8 0, .int .u8 0] (by rfl) (by rfl) hG6 (by show 17 ≤ 20; decide) cid_info (by rfl) (by rfl) ?_; intro w7 hG7 hk7; have hX7 := hX6.kept hk7 (by omega); have hR7 := hR6.kept hk7 (by omega); have hB7 := hk7.below hB6 (by omega) (fun j hj => by omega); have hs7 := hk7.size; have c0 : w7.cell? ⟨g3, 0, none⟩ = some (.int .i64 1) := hG7.cell 0; have x4 : w7.cell? ⟨w.heap.size, 4, none⟩ = some (.slice d.A d.n d.c) := hX7.cell 4) | ((with_reducible refine at_ldh ?_); refine ld_hd _ _ (by rfl) hG7 (by rfl) ?_) | ((with_reducible refine at_sth ?_); refine st_hd _ _ (hdL ⟨1, ⟨1, tx, 7, 0, 0, 0, 0, 0⟩, ⟨1, fx, 7, 0, 0, 0, 0, 0⟩, wd, false⟩ Sl.nil) (by rfl) (by rfl) hR7 (by rfl) (by rfl) (by rfl) ?_; intro w9 hR9 hk9) | fail)
    refine bodyPost_ret (results_cell 2 30 (by rfl) _ 30 _ _ (by rfl) hR9 Try.underlying30 rfl hd_info) rfl ?_
    refine ⟨⟨1, ⟨1, tx, 7, 0, 0, 0, 0, 0⟩, ⟨1, fx, 7, 0, 0, 0, 0, 0⟩, wd, false⟩, Sl.nil, [], rfl, ⟨?_, InD.nil_ _ _⟩, ?_, hk9.below hB7 (by omega) (fun j hj => by omega)⟩
    · constructor
      · show (-9223372036854775808 : Int) ≤ 1; decide
      · show (1 : Int) ≤ 9223372036854775807; decide
      · show (-9223372036854775808 : Int) ≤ wd; omega
      · show (wd : Int) ≤ 9223372036854775807; omega
      · intro x hx; simp [N8.l] at hx; omega
      · intro x hx; simp [N8.l, N8.zero] at hx; omega
    · unfold hrightB
      simp only [decide_eq_true_eq]
      refine ⟨by decide, by decide, hwb.1, hwb.2, ?_, ?_, ?_, ?_⟩ <;> first | (simp; done) | (simp; omega)
end Go.Proofs.Ytehdilgnlhhjdaa
