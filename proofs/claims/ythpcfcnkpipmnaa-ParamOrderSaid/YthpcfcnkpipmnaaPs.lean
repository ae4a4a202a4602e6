/-
  encodes, decodes of params: what the program writes and reads, of any, the document's own does; some of the runs.
-/
import Derived.Test.YthpcfcnkpipmnaaPr
import Derived.Test.YthpcfcnkpipmnaaPq
import Derived.Test.YthpcfcnkpipmnaaPv
import Derived.IntWalk
namespace Go.Proofs.Ythpcfcnkpipmnaa
set_option linter.unusedVariables false
set_option linter.unusedSimpArgs false
open Go.RowKit Go.ChangeShapes Go.WideShapes Go.Deep
set_option maxRecDepth 100000 in
set_option maxHeartbeats 2000000 in
theorem pencs_no (m : PN) (w : World) (hr : prightB m = false) :
    Calls Try.prog 7 #[pmV m] w (FrPost (.bool true) w) := by
  have hB0 : Below w.heap.size w (w.alloc (.cells (pmL m).toArray 26)) := (Below.refl _ _).alloc (Nat.le_refl _) _
  have hA0 : At (w.alloc (.cells (pmL m).toArray 26)) w.heap.size 26 (pmL m) := At.new w _ _
  have hrt := fun W => pright_any m W
  have hrr := fun W => rpright_any m W
  have hg : w.heap.size < (w.alloc (.cells (pmL m).toArray 26)).heap.size := hA0.lt
  rw [hr] at hrt hrr
  have hen := fun W => penc_no m W hr
  obtain ⟨L, hL⟩ : ∃ L, pmL m = L := ⟨_, rfl⟩
  have hLl : L.length = 12 := by rw [← hL]; rfl
  have hfv : pmV m = .agg L.toArray := by rw [← hL]; rfl
  rw [hL] at hA0 hB0 hg
  rw [hfv] at hrt hrr hen ⊢
  have HLl := Lib.hid hLl
  have HRT := Lib.hid hrt
  have HRR := Lib.hid hrr
  have HEN := Lib.hid hen
  clear hL hfv hLl hrt hrr hen hr
  go_enter Try.func7, Try.ntmps7
  go_wp2_with (first | ((with_reducible refine at_ldp ?_); refine ld_pm _ _ (by rfl) hA0 HLl.out ?_) | fail)
  refine (HEN.out _).mono ?_
  rintro e w1 ⟨rfl, hb1⟩
  have hA1 := hA0.below hb1 hg
  have hB1 := hB0.trans (hb1.mono hB0.size)
  clear hb1 hA0 hB0
  go_wp2_with fail
  have hA2 := hA1.drew
  have hB2 : Below w.heap.size w w1.drew := belowN hB1 1
  have hk2 : Below w1.heap.size w1 w1.drew := belowN (Below.refl _ _) 1
  refine wp_region_held_drew (S := (fun w' => w'.rangeAt w.heap.size 0 L)) (by kernel_rfl) (hA2.rangeAt) (fun hHeld => ?_)
  refine tk_dst (i := 0) (dst := some 10) rfl rfl (by kernel_rfl) (by kernel_rfl) (by kernel_rfl) (fun _ _ _ h => h) (v := ?_) ?_ (by assumption) ?_
  rotate_left
  · refine yl_any 26 ?ylx0 ?ylo0 ?ylb0 ?ylq0 ?ylp0 L _ ?ylS0 Try.underlying26 rfl ?yli0 ?ylw0
    case ylo0 => rfl
    case ylp0 => rfl
    case ylS0 => intro w hSw; exact hSw
    case yli0 => rw [HLl.out]; exact pm_info
    case ylw0 => rfl
  simp only [Act.put, List.setIfInBounds_toArray, List.set_cons_zero, List.set_cons_succ]
  refine tk_dst (i := 2) (dst := some 12) rfl rfl (by kernel_rfl) (by kernel_rfl) (by kernel_rfl) (fun _ _ _ h => h) (v := ?_) ?_ (by assumption) ?_
  rotate_left
  · refine yl_any 26 ?ylx2 ?ylo2 ?ylb2 ?ylq2 ?ylp2 L _ ?ylS2 Try.underlying26 rfl ?yli2 ?ylw2
    case ylo2 => rfl
    case ylp2 => rfl
    case ylS2 => intro w hSw; exact hSw
    case yli2 => rw [HLl.out]; exact pm_info
    case ylw2 => rfl
  simp only [Act.put, List.setIfInBounds_toArray, List.set_cons_zero, List.set_cons_succ]
  refine wpAnyH_ready (rs := [1]) (by kernel_rfl) (by simp) ?_
  refine AllReadyH.cons rfl (fun K hK => ?_) AllReadyH.nil
  go_simp
  go_wp2_with ((go_at_call 17; refine (HRT.out _).mono ?_; rintro e w3 ⟨rfl, hb3⟩; have hA3 := hA2.below hb3 hA2.lt; have hB3 := hB2.trans (hb3.mono hB2.size); have hk3 := hk2.trans (hb3.mono hk2.size)))
  refine hK.out _ _ (hA3.rangeAt) (fun hHeld => ?_)
  clear hK K
  refine wpAnyH_ready (rs := [3]) (by kernel_rfl) (by simp) ?_
  refine AllReadyH.cons rfl (fun K hK => ?_) AllReadyH.nil
  go_simp
  go_wp2_with ((go_at_call 8; refine (HRR.out _).mono ?_; rintro e w4 ⟨rfl, hb4⟩; have hA4 := hA3.below hb4 hA3.lt; have hB4 := hB3.trans (hb4.mono hB3.size); have hk4 := hk3.trans (hb4.mono hk3.size)))
  refine hK.out _ _ (hA4.rangeAt) (fun hHeld => ?_)
  clear hK K
  refine tk_dst (i := 4) (dst := some 14) rfl rfl (by kernel_rfl) (by kernel_rfl) (by kernel_rfl) (fun _ _ _ h => h) (v := ?_) (Or.inl ⟨by rfl, ?_⟩) (by assumption) ?_
  rotate_left
  · intro w hSw; (try dsimp only at hSw); go_simp; first | done | (with_reducible rfl)
  simp only [Act.put, List.setIfInBounds_toArray, List.set_cons_zero, List.set_cons_succ]
  refine wpAnyH_done (by kernel_rfl) ?_ _
  clear hA2 hB2 hA3 hB3 hb3 hb4 hA1 hB1
  go_wp2_with (first | ((with_reducible refine at_ldp ?_); refine ld_pm_g (by rfl) w.heap.size 0 L (by rfl) hA4.rangeAt HLl.out ?_) | fail)
  refine (HRR.out _).mono ?_
  rintro e w5 ⟨rfl, hb5⟩
  have hA5 := hA4.below hb5 hA4.lt
  have hB5 := hB4.trans (hb5.mono hB4.size)
  have hk5 := hk4.trans (hb5.mono hk4.size)
  clear hA4 hB4 hk4 hb5
  go_wp2_with fail
  go_ret
  exact ⟨rfl, hB5⟩
set_option maxRecDepth 100000 in
set_option maxHeartbeats 2000000 in
theorem pencs_yes (m : PN) (w : World) (hwf : m.wf) (hr : prightB m = true) :
    Calls Try.prog 7 #[pmV m] w (FrPost (.bool true) w) := by
  have hB0 : Below w.heap.size w (w.alloc (.cells (pmL m).toArray 26)) := (Below.refl _ _).alloc (Nat.le_refl _) _
  have hA0 : At (w.alloc (.cells (pmL m).toArray 26)) w.heap.size 26 (pmL m) := At.new w _ _
  have hrt := fun W => pright_any m W
  have hrr := fun W => rpright_any m W
  have hg : w.heap.size < (w.alloc (.cells (pmL m).toArray 26)).heap.size := hA0.lt
  rw [hr] at hrt hrr
  have hen := fun W => penc_yes m W hwf hr
  have hre := fun W => rpenc_any m W hwf hr
  obtain ⟨L, hL⟩ : ∃ L, pmL m = L := ⟨_, rfl⟩
  have hLl : L.length = 12 := by rw [← hL]; rfl
  have hfv : pmV m = .agg L.toArray := by rw [← hL]; rfl
  rw [hL] at hA0 hB0 hg
  rw [hfv] at hrt hrr hen hre ⊢
  have HLl := Lib.hid hLl
  have HRT := Lib.hid hrt
  have HRR := Lib.hid hrr
  have HEN := Lib.hid hen
  have HRE := Lib.hid hre
  obtain ⟨E, hE⟩ : ∃ x, pencS m = x := ⟨_, rfl⟩
  rw [hE] at HEN HRE
  obtain ⟨TX, hTX⟩ : ∃ x, strOfNums E = x := ⟨_, rfl⟩
  have HTX := Lib.hid hTX
  have hTT : (TX == TX) = true := bb_refl TX
  clear hTX hE
  clear hL hfv hLl hrt hrr hen hre hr
  go_enter Try.func7, Try.ntmps7
  go_wp2_with (first | ((with_reducible refine at_ldp ?_); refine ld_pm _ _ (by rfl) hA0 HLl.out ?_) | fail)
  refine (HEN.out _).mono ?_
  rintro e w1 ⟨v1, rfl, hown1, hb1⟩
  have hA1 := hA0.below hb1 hg
  have hB1 := hB0.trans (hb1.mono hB0.size)
  obtain ⟨nE, hnE⟩ : ∃ x, E.length = x := ⟨_, rfl⟩
  obtain ⟨A1, c1, rfl, z1, z2, hb⟩ := hown1.open_n nE hnE
  have HNE := Lib.hid hnE
  clear hb1 hA0 hB0 hnE hown1
  go_wp2_with fail
  have hA2 := hA1.drew
  have hB2 : Below w.heap.size w w1.drew := belowN hB1 1
  have hk2 : Below w1.heap.size w1 w1.drew := belowN (Below.refl _ _) 1
  refine wp_region_held_drew (S := (fun w' => w'.rangeAt w.heap.size 0 L)) (by kernel_rfl) (hA2.rangeAt) (fun hHeld => ?_)
  refine tk_dst (i := 0) (dst := some 10) rfl rfl (by kernel_rfl) (by kernel_rfl) (by kernel_rfl) (fun _ _ _ h => h) (v := ?_) ?_ (by assumption) ?_
  rotate_left
  · refine yl_any 26 ?ylx0 ?ylo0 ?ylb0 ?ylq0 ?ylp0 L _ ?ylS0 Try.underlying26 rfl ?yli0 ?ylw0
    case ylo0 => rfl
    case ylp0 => rfl
    case ylS0 => intro w hSw; exact hSw
    case yli0 => rw [HLl.out]; exact pm_info
    case ylw0 => rfl
  simp only [Act.put, List.setIfInBounds_toArray, List.set_cons_zero, List.set_cons_succ]
  refine tk_dst (i := 2) (dst := some 12) rfl rfl (by kernel_rfl) (by kernel_rfl) (by kernel_rfl) (fun _ _ _ h => h) (v := ?_) ?_ (by assumption) ?_
  rotate_left
  · refine yl_any 26 ?ylx2 ?ylo2 ?ylb2 ?ylq2 ?ylp2 L _ ?ylS2 Try.underlying26 rfl ?yli2 ?ylw2
    case ylo2 => rfl
    case ylp2 => rfl
    case ylS2 => intro w hSw; exact hSw
    case yli2 => rw [HLl.out]; exact pm_info
    case ylw2 => rfl
  simp only [Act.put, List.setIfInBounds_toArray, List.set_cons_zero, List.set_cons_succ]
  refine wpAnyH_ready (rs := [1]) (by kernel_rfl) (by simp) ?_
  refine AllReadyH.cons rfl (fun K hK => ?_) AllReadyH.nil
  go_simp
  go_wp2_with ((go_at_call 17; refine (HRT.out _).mono ?_; rintro e w3 ⟨rfl, hb3⟩; have hA3 := hA2.below hb3 hA2.lt; have hB3 := hB2.trans (hb3.mono hB2.size); have hk3 := hk2.trans (hb3.mono hk2.size)))
  refine hK.out _ _ (hA3.rangeAt) (fun hHeld => ?_)
  clear hK K
  refine wpAnyH_ready (rs := [3]) (by kernel_rfl) (by simp) ?_
  refine AllReadyH.cons rfl (fun K hK => ?_) AllReadyH.nil
  go_simp
  go_wp2_with ((go_at_call 8; refine (HRR.out _).mono ?_; rintro e w4 ⟨rfl, hb4⟩; have hA4 := hA3.below hb4 hA3.lt; have hB4 := hB3.trans (hb4.mono hB3.size); have hk4 := hk3.trans (hb4.mono hk3.size)))
  refine hK.out _ _ (hA4.rangeAt) (fun hHeld => ?_)
  clear hK K
  refine tk_dst (i := 4) (dst := some 14) rfl rfl (by kernel_rfl) (by kernel_rfl) (by kernel_rfl) (fun _ _ _ h => h) (v := ?_) (Or.inl ⟨by rfl, ?_⟩) (by assumption) ?_
  rotate_left
  · intro w hSw; (try dsimp only at hSw); go_simp; first | done | (with_reducible rfl)
  simp only [Act.put, List.setIfInBounds_toArray, List.set_cons_zero, List.set_cons_succ]
  refine wpAnyH_done (by kernel_rfl) ?_ _
  clear hA2 hB2 hA3 hB3 hb3 hb4 hA1 hB1
  go_wp2_with (first | ((with_reducible refine at_ldp ?_); refine ld_pm_g (by rfl) w.heap.size 0 L (by rfl) hA4.rangeAt HLl.out ?_) | fail)
  refine (HRR.out _).mono ?_
  rintro e w5 ⟨rfl, hb5⟩
  have hA5 := hA4.below hb5 hA4.lt
  have hB5 := hB4.trans (hb5.mono hB4.size)
  have hk5 := hk4.trans (hb5.mono hk4.size)
  clear hA4 hB4 hk4 hb5
  have hb7' : Rd w5 w5.heap.size A1 nE E := (hb.below hk5).more hk5.size
  go_wp2_with fail
  have hA8 := hA5.drew
  have hB8 : Below w.heap.size w w5.drew := belowN hB5 1
  have t8 := run_text (P := Try.prog) (c := c1) hb7'.drew 29 5 9 Try.underlying29 Try.underlying5 Try.underlying9
  rw [HTX.out] at t8
  refine wp_region_held_drew (S := (fun w' => w'.rangeAt w.heap.size 0 L ∧ (convert 29 9 (.slice A1 nE c1)).run Try.prog w' = .ok (.string TX) w')) (by kernel_rfl) (⟨hA8.rangeAt, t8⟩) (fun hHeld => ?_)
  refine tk_dst (i := 0) (dst := some 25) rfl rfl (by kernel_rfl) (by kernel_rfl) (by kernel_rfl) (fun _ _ _ h => h) (v := ?_) (Or.inl ⟨by rfl, ?_⟩) (by assumption) ?_
  rotate_left
  · intro w hSw; (try dsimp only at hSw); go_simp; first | done | (with_reducible rfl)
  simp only [Act.put, List.setIfInBounds_toArray, List.set_cons_zero, List.set_cons_succ]
  refine tk_dst (i := 1) (dst := some 26) rfl rfl (by kernel_rfl) (by kernel_rfl) (by kernel_rfl) (fun _ _ _ h => h) (v := ?_) (Or.inl ⟨by rfl, ?_⟩) (by assumption) ?_
  rotate_left
  · intro w hSw; (try dsimp only at hSw); go_simp; first | done | (with_reducible rfl)
  simp only [Act.put, List.setIfInBounds_toArray, List.set_cons_zero, List.set_cons_succ]
  refine tk_dst (i := 2) (dst := some 27) rfl rfl (by kernel_rfl) (by kernel_rfl) (by kernel_rfl) (fun _ _ _ h => h) (v := ?_) (Or.inl ⟨by rfl, ?_⟩) (by assumption) ?_
  rotate_left
  · intro w hSw; (try dsimp only at hSw); go_simp; first | done | (with_reducible rfl)
  simp only [Act.put, List.setIfInBounds_toArray, List.set_cons_zero, List.set_cons_succ]
  refine tk_dst (i := 3) (dst := some 28) rfl rfl (by kernel_rfl) (by kernel_rfl) (by kernel_rfl) (fun _ _ _ h => h) (v := ?_) (Or.inl ⟨by rfl, ?_⟩) (by assumption) ?_
  rotate_left
  · intro w hSw; (try dsimp only at hSw); go_simp; first | done | (with_reducible rfl)
  simp only [Act.put, List.setIfInBounds_toArray, List.set_cons_zero, List.set_cons_succ]
  refine tk_dst (i := 4) (dst := some 29) rfl rfl (by kernel_rfl) (by kernel_rfl) (by kernel_rfl) (fun _ _ _ h => h) (v := ?_) (Or.inl ⟨by rfl, ?_⟩) (by assumption) ?_
  rotate_left
  · intro w hSw; (try dsimp only at hSw); go_simp; first | done | (with_reducible rfl)
  simp only [Act.put, List.setIfInBounds_toArray, List.set_cons_zero, List.set_cons_succ]
  refine tk_dst (i := 5) (dst := some 30) rfl rfl (by kernel_rfl) (by kernel_rfl) (by kernel_rfl) (fun _ _ _ h => h) (v := ?_) ?_ (by assumption) ?_
  rotate_left
  · refine yl_any 26 ?ylx5 ?ylo5 ?ylb5 ?ylq5 ?ylp5 L _ ?ylS5 Try.underlying26 rfl ?yli5 ?ylw5
    case ylo5 => rfl
    case ylp5 => rfl
    case ylS5 => intro w hSw; exact hSw.1
    case yli5 => rw [HLl.out]; exact pm_info
    case ylw5 => rfl
  simp only [Act.put, List.setIfInBounds_toArray, List.set_cons_zero, List.set_cons_succ]
  refine wpAnyH_ready (rs := [6]) (by kernel_rfl) (by simp) ?_
  refine AllReadyH.cons rfl (fun K hK => ?_) AllReadyH.nil
  go_simp
  go_wp2_with ((go_at_call 9; refine (HRE.out _).mono ?_; rintro e w9 ⟨v9, rfl, hown9, hb9⟩; obtain ⟨A9, c9, rfl, s1, s2, s3⟩ := hown9.open_n nE HNE.out; have hB9 := hB8.trans (hb9.mono hB8.size); have hA9 := hA8.below hb9 hA8.lt; have hb9' := (hb7'.drew.below hb9).more hb9.size; have t9 := run_text (P := Try.prog) (c := c9) s3 29 5 9 Try.underlying29 Try.underlying5 Try.underlying9; have t9a := run_text (P := Try.prog) (c := c1) hb9' 29 5 9 Try.underlying29 Try.underlying5 Try.underlying9; rw [HTX.out] at t9 t9a))
  refine hK.out _ _ (⟨hA9.rangeAt, t9a⟩) (fun hHeld => ?_)
  clear hK K
  refine wpAnyH_ready (rs := [7]) (by kernel_rfl) (by simp) ?_
  refine AllReadyH.cons rfl (fun K hK => ?_) AllReadyH.nil
  go_simp
  refine hK.out _ _ ⟨hA9.rangeAt, t9a⟩ (fun hHeld => ?_)
  clear hK K
  refine tk_dst (i := 8) (dst := some 33) rfl rfl (by kernel_rfl) (by kernel_rfl) (by kernel_rfl) (fun _ _ _ h => h) (v := ?_) (Or.inl ⟨by rfl, ?_⟩) (by assumption) ?_
  rotate_left
  · intro w hSw; (try dsimp only at hSw); go_simp; first | done | (with_reducible rfl)
  simp only [Act.put, List.setIfInBounds_toArray, List.set_cons_zero, List.set_cons_succ]
  refine tk_dst (i := 9) (dst := some 34) rfl rfl (by kernel_rfl) (by kernel_rfl) (by kernel_rfl) (fun _ _ _ h => h) (v := ?_) (Or.inl ⟨by rfl, ?_⟩) (by assumption) ?_
  rotate_left
  · intro w hSw; (try dsimp only at hSw); go_simp; first | done | (with_reducible rfl)
  simp only [Act.put, List.setIfInBounds_toArray, List.set_cons_zero, List.set_cons_succ]
  refine tk_dst (i := 10) (dst := some 2) rfl rfl (by kernel_rfl) (by kernel_rfl) (by kernel_rfl) (fun _ _ _ h => h) (v := ?_) (Or.inl ⟨by rfl, ?_⟩) (by assumption) ?_
  rotate_left
  · intro w hSw; (try dsimp only at hSw); go_simp; first | done | (with_reducible rfl)
  simp only [Act.put, List.setIfInBounds_toArray, List.set_cons_zero, List.set_cons_succ]
  refine wpAnyH_done (by kernel_rfl) ?_ _
  go_wp2_with fail
  go_ret
  exact ⟨rfl, hB9⟩
theorem pencs_any (m : PN) (w : World) (hwf : m.wf) :
    Calls Try.prog 7 #[pmV m] w (FrPost (.bool true) w) := by
  cases hr : prightB m with
  | false => exact pencs_no m w hr
  | true => exact pencs_yes m w hwf hr
set_option maxRecDepth 100000 in
set_option maxHeartbeats 2000000 in
theorem pdecs_any (A : Option Addr) (n c : Nat) (bs : List Int) (w : World) (h : InRow w A n c bs) (hn : n ≤ 1000000) :
    Calls Try.prog 10 #[.slice A n c] w (FrPost (.bool true) w) := by
  obtain ⟨hr, hnc, hcm, hA⟩ := h
  have hpd := Lib.hid (pdec_any A n c bs w hr hn hA)
  have hrd : ∀ W : World, Below w.heap.size w W → Calls Try.prog 21 #[.slice A n c] W (RdecPost bs W) := fun W hW => rpdec_any A n c bs W ((hr.below hW).more hW.size) hn hnc hcm hA
  have HRD := Lib.hid hrd
  have key : ∃ (p : PN) (ok : Bool) (why : Int), (why = if ok then 0 else 12) ∧ (∀ w e w', PdecPost bs w e w' → e = .returned (.tuple #[pmV p, .int .i64 why]) ∧ Below w.heap.size w w') ∧ (∀ w e w', RdecPost bs w e w' → e = .returned (.tuple #[pmV p, .bool ok]) ∧ Below w.heap.size w w') := by
    unfold PdecPost RdecPost
    cases decodeS bs with
    | none => exact ⟨.zero, false, 12, rfl, fun w e w' h => h, fun w e w' h => h⟩
    | some p => exact ⟨p, true, 0, rfl, fun w e w' h => h, fun w e w' h => h⟩
  obtain ⟨p, ok, why, hwy, K1, K2⟩ := key
  have HWY := Lib.hid hwy
  clear hwy
  have hrf := fun W => run_pm W p
  obtain ⟨L, hL⟩ : ∃ L, pmL p = L := ⟨_, rfl⟩
  have hLl : L.length = 12 := by rw [← hL]; rfl
  have hLo : L.all (·.oneCell') = true := by rw [← hL]; rfl
  have hLv : pmV p = .agg L.toArray := by rw [← hL]; rfl
  rw [hLv] at K1 K2 hrf
  have HLl := Lib.hid hLl
  have HLo := Lib.hid hLo
  have HK1 := Lib.hid K1
  have HK2 := Lib.hid K2
  clear hr hrd K1 K2 hL hLl hLo hLv
  go_enter Try.func10, Try.ntmps10
  go_wp2_with fail
  refine (hpd.out).mono ?_
  intro e w1 hpost
  obtain ⟨rfl, hb1⟩ := HK1.out _ _ _ hpost
  have hA2 := At.new w1 26 L
  have hB2 := hb1.alloc hb1.size (.cells L.toArray 26)
  obtain ⟨w2, hw2⟩ : ∃ x, w1.alloc (.cells L.toArray 26) = x := ⟨_, rfl⟩
  rw [hw2] at hA2 hB2
  obtain ⟨g1, hg1⟩ : ∃ x, w1.heap.size = x := ⟨_, rfl⟩
  have hg1b : w.heap.size ≤ g1 := by rw [← hg1]; exact hb1.size
  rw [hg1] at hA2
  clear hpost hb1 hpd
  go_wp2_with (first | ((with_reducible refine at_stp (x := .tmp 3) ?_); refine wpList_store_top w1 26 (pmL .zero) L (by rfl) _ (by rfl) hg1.symm (by rfl) (by rw [HLl.out]; rfl) (by rw [HLl.out]; exact pm_info) HLo.out ?_; rw [hw2]; clear hw2) | fail)
  refine (HRD.out _ hB2).mono ?_
  intro e w3 hpost
  obtain ⟨rfl, hb3⟩ := HK2.out _ _ _ hpost
  have hA3 := hA2.below hb3 hA2.lt
  have hB3 := hB2.trans (hb3.mono hB2.size)
  have hA4 := hA3.alloc (.cells L.toArray 26)
  have hC4 := At.new w3 26 L
  have hB4 := hB3.alloc hB3.size (.cells L.toArray 26)
  obtain ⟨w4, hw4⟩ : ∃ x, w3.alloc (.cells L.toArray 26) = x := ⟨_, rfl⟩
  rw [hw4] at hA4 hC4 hB4
  obtain ⟨g3, hg3⟩ : ∃ x, w3.heap.size = x := ⟨_, rfl⟩
  rw [hg3] at hC4
  have hrun := Lib.hid (hrf w4)
  clear hpost hb3 hA2 hB2 hA3 hB3 HRD HK1 HK2 hrf
  cases ok
  all_goals
    first | obtain rfl : why = 12 := HWY.out | obtain rfl : why = 0 := HWY.out
    go_wp2_with (first | ((with_reducible refine at_stp (x := .tmp 5) ?_); refine wpList_store_top w3 26 (pmL .zero) L (by rfl) _ (by rfl) hg3.symm (by rfl) (by rw [HLl.out]; rfl) (by rw [HLl.out]; exact pm_info) HLo.out ?_; rw [hw4]; clear hw4) | ((with_reducible refine at_ldp (x := .tmp 3) ?_); refine ld_pm_g (by rfl) g1 0 L (by rfl) hA4.rangeAt HLl.out ?_) | ((with_reducible refine at_ldp (x := .tmp 5) ?_); refine ld_pm_g (by rfl) g3 0 L (by rfl) hC4.rangeAt HLl.out ?_) | ((with_reducible refine at_eqp ?_); refine wpList_eql_agg (by rfl) _ _ _ _ rfl L.toArray L.toArray (by rfl) (by rfl) pm_guard true hrun.out ?_) | fail)
    go_ret
    exact ⟨rfl, hB4⟩
end Go.Proofs.Ythpcfcnkpipmnaa
