/-
  encodes: what the program writes, of any head, the document's own writes.
-/
import Derived.Test.YtbioajgmceodhaaHre
import Derived.Test.YtbioajgmceodhaaHkn
import Derived.IntWalk
import Derived.Test.YtbioajgmceodhaaHparses
import Derived.Test.YtbioajgmceodhaaHback
namespace Go.Proofs.Ytbioajgmceodhaa
set_option linter.unusedVariables false
set_option linter.unusedSimpArgs false
open Go.RowKit
theorem henc_len (m : HN) (tok : List Int) (n k : Int) : (hencS m tok n).length = (hencS m tok k).length := by
  unfold hencS
  split
  · rfl
  · simp [twoB]
set_option maxRecDepth 100000 in
set_option maxHeartbeats 2000000 in
theorem hencs_no (P : Nat → Prop) (m : HN) (d : Sl) (tok : List Int) (n : Int) (w : World) (hf : HFits w P m d tok) (hr : hrightB m tok.length = false) :
    Calls Try.prog 10 #[hdV m d, .int .i64 n] w (FrPost (.bool true) w) := by
  have hB0 : Below w.heap.size w (w.alloc (.cells (hdL m d).toArray 28)) := (Below.refl _ _).alloc (Nat.le_refl _) _
  have hA0 : At (w.alloc (.cells (hdL m d).toArray 28)) w.heap.size 28 (hdL m d) := At.new w _ _
  have hln := hf.len
  have hrt := fun W (h : HFits W P m d tok) => hright_any P m d tok W h
  have hrr := fun W (h : HFits W P m d tok) => rhright_any P m d tok W h
  have hsz := fun W (h : HFits W P m d tok) => hsize_any P m d tok W h
  rw [hln] at hrt hrr
  have hF0 := hf.below hB0
  have hg : w.heap.size < (w.alloc (.cells (hdL m d).toArray 28)).heap.size := hA0.lt
  have hen := fun W (h : HFits W P m d tok) => henc_no P m d tok n W h (.inl hr)
  have hz0 : hsizeS m tok = 0 := by unfold hsizeS; rw [hr]; rfl
  rw [hz0] at hsz
  obtain ⟨L, hL⟩ : ∃ L, hdL m d = L := ⟨_, rfl⟩
  have hLl : L.length = 20 := by rw [← hL]; rfl
  have hfv : hdV m d = .agg L.toArray := by rw [← hL]; rfl
  have hl18 : L[18]? = some (.int .i64 m.w) := by rw [← hL]; rfl
  rw [hL] at hA0 hB0 hF0 hg
  rw [hfv] at hrt hrr hsz hen ⊢
  rw [hr] at hrt hrr
  have HLl := Lib.hid hLl
  have HRT := Lib.hid hrt
  have HRR := Lib.hid hrr
  have HSZ := Lib.hid hsz
  have HL18 := Lib.hid hl18
  clear hL hfv hLl hrt hrr hsz hl18 hln
  have HEN := Lib.hid hen
  clear hen hz0 hr
  go_enter Try.func10, Try.ntmps10
  go_wp2_with (first | ((with_reducible refine at_ldh ?_); refine ld_hd _ _ (by rfl) hA0 HLl.out ?_) | fail)
  refine (HEN.out _ hF0).mono ?_
  rintro e w1 ⟨rfl, hb1⟩
  have hA1 := hA0.below hb1 hg
  have hF1 := hF0.below hb1
  have hB1 := hB0.trans (hb1.mono hB0.size)
  clear hb1 hA0 hF0 hB0
  go_wp2_with fail
  have hA2 := hA1.drew
  have hF2 : HFits w1.drew P m d tok := hF1.kept ((Kept.refl (fun _ => False) w1).drewN 1) (fun _ _ h => h)
  have hB2 : Below w.heap.size w w1.drew := belowN hB1 1
  have hk2 : Below w1.heap.size w1 w1.drew := belowN (Below.refl _ _) 1
  refine wp_region_held_drew (S := (fun w' => w'.rangeAt w.heap.size 0 L)) (by kernel_rfl) (hA2.rangeAt) (fun hHeld => ?_)
  refine tk_dst (i := 0) (dst := some 14) rfl rfl (by kernel_rfl) (by kernel_rfl) (by kernel_rfl) (fun _ _ _ h => h) (v := ?_) ?_ (by assumption) ?_
  rotate_left
  · refine yl_any 28 ?ylx0 ?ylo0 ?ylb0 ?ylq0 ?ylp0 L _ ?ylS0 Try.underlying28 rfl ?yli0 ?ylw0
    case ylo0 => rfl
    case ylp0 => rfl
    case ylS0 => intro w hSw; exact hSw
    case yli0 => rw [HLl.out]; exact hd_info
    case ylw0 => rfl
  simp only [Act.put, List.setIfInBounds_toArray, List.set_cons_zero, List.set_cons_succ]
  refine tk_dst (i := 2) (dst := some 16) rfl rfl (by kernel_rfl) (by kernel_rfl) (by kernel_rfl) (fun _ _ _ h => h) (v := ?_) ?_ (by assumption) ?_
  rotate_left
  · refine yl_any 28 ?ylx2 ?ylo2 ?ylb2 ?ylq2 ?ylp2 L _ ?ylS2 Try.underlying28 rfl ?yli2 ?ylw2
    case ylo2 => rfl
    case ylp2 => rfl
    case ylS2 => intro w hSw; exact hSw
    case yli2 => rw [HLl.out]; exact hd_info
    case ylw2 => rfl
  simp only [Act.put, List.setIfInBounds_toArray, List.set_cons_zero, List.set_cons_succ]
  refine wpAnyH_ready (rs := [1]) (by kernel_rfl) (by simp) ?_
  refine AllReadyH.cons rfl (fun K hK => ?_) AllReadyH.nil
  go_simp
  go_wp2_with ((go_at_call 19; refine (HRT.out _ hF2).mono ?_; rintro e w3 ⟨rfl, hb3⟩; have hA3 := hA2.below hb3 hA2.lt; have hF3 := hF2.below hb3; have hB3 := hB2.trans (hb3.mono hB2.size); have hk3 := hk2.trans (hb3.mono hk2.size)))
  refine hK.out _ _ (hA3.rangeAt) (fun hHeld => ?_)
  clear hK K
  refine wpAnyH_ready (rs := [3]) (by kernel_rfl) (by simp) ?_
  refine AllReadyH.cons rfl (fun K hK => ?_) AllReadyH.nil
  go_simp
  go_wp2_with ((go_at_call 20; refine (HRR.out _ hF3).mono ?_; rintro e w4 ⟨rfl, hb4⟩; have hA4 := hA3.below hb4 hA3.lt; have hF4 := hF3.below hb4; have hB4 := hB3.trans (hb4.mono hB3.size); have hk4 := hk3.trans (hb4.mono hk3.size)))
  refine hK.out _ _ (hA4.rangeAt) (fun hHeld => ?_)
  clear hK K
  refine tk_dst (i := 4) (dst := some 18) rfl rfl (by kernel_rfl) (by kernel_rfl) (by kernel_rfl) (fun _ _ _ h => h) (v := ?_) (Or.inl ⟨by rfl, ?_⟩) (by assumption) ?_
  rotate_left
  · intro w hSw; (try dsimp only at hSw); go_simp; first | done | (with_reducible rfl)
  simp only [Act.put, List.setIfInBounds_toArray, List.set_cons_zero, List.set_cons_succ]
  refine wpAnyH_done (by kernel_rfl) ?_ _
  clear hA2 hF2 hB2 hA3 hF3 hB3 hb3 hb4 hA1 hF1 hB1
  go_wp2_with (first | ((with_reducible refine at_ldh ?_); refine ld_off_g w.heap.size 0 L _ (by rfl) (by rfl) hA4.rangeAt Try.underlying28 rfl (by rw [HLl.out]; exact hd_info) ?_) | fail)
  refine (HRR.out _ hF4).mono ?_
  rintro e w5 ⟨rfl, hb5⟩
  have hA5 := hA4.below hb5 hA4.lt
  have hF5 := hF4.below hb5
  have hB5 := hB4.trans (hb5.mono hB4.size)
  go_wp2_with (first | ((with_reducible refine at_ldh ?_); refine ld_off_g w.heap.size 0 L _ (by rfl) (by rfl) hA5.rangeAt Try.underlying28 rfl (by rw [HLl.out]; exact hd_info) ?_) | fail)
  refine (HSZ.out _ hF5).mono ?_
  rintro e w6 ⟨rfl, hb6⟩
  go_wp2_with fail
  go_ret
  exact ⟨rfl, hB5.trans (hb6.mono hB5.size)⟩
set_option maxRecDepth 100000 in
set_option maxHeartbeats 2000000 in
theorem hencs_out (P : Nat → Prop) (m : HN) (d : Sl) (tok : List Int) (n : Int) (w : World) (hf : HFits w P m d tok) (hr : hrightB m tok.length = true) (hn : n < m.w ∨ 16383 < n) :
    Calls Try.prog 10 #[hdV m d, .int .i64 n] w (FrPost (.bool true) w) := by
  have hB0 : Below w.heap.size w (w.alloc (.cells (hdL m d).toArray 28)) := (Below.refl _ _).alloc (Nat.le_refl _) _
  have hA0 : At (w.alloc (.cells (hdL m d).toArray 28)) w.heap.size 28 (hdL m d) := At.new w _ _
  have hln := hf.len
  have hrt := fun W (h : HFits W P m d tok) => hright_any P m d tok W h
  have hrr := fun W (h : HFits W P m d tok) => rhright_any P m d tok W h
  have hsz := fun W (h : HFits W P m d tok) => hsize_any P m d tok W h
  rw [hln] at hrt hrr
  have hF0 := hf.below hB0
  have hg : w.heap.size < (w.alloc (.cells (hdL m d).toArray 28)).heap.size := hA0.lt
  have hw20 := fun W (h : HFits W P m d tok) => rhenc_any P m d tok 20 W h hr (by decide) (by decide)
  obtain ⟨r1, r2, r3, r4, r5, r6, r7, r8⟩ := hright_parts _ _ hr
  have hzz : hsizeS m tok = ((hencS m tok 20).length : Int) := by unfold hsizeS; rw [hr, if_pos rfl, henc_len m tok m.w 20]
  obtain ⟨NN, hNN⟩ : ∃ x, (hencS m tok 20).length = x := ⟨_, rfl⟩
  rw [hzz, hNN] at hsz
  have HNN := Lib.hid hNN
  have hen := fun W (h : HFits W P m d tok) => henc_no P m d tok n W h (.inr hn)
  obtain ⟨L, hL⟩ : ∃ L, hdL m d = L := ⟨_, rfl⟩
  have hLl : L.length = 20 := by rw [← hL]; rfl
  have hfv : hdV m d = .agg L.toArray := by rw [← hL]; rfl
  have hl18 : L[18]? = some (.int .i64 m.w) := by rw [← hL]; rfl
  rw [hL] at hA0 hB0 hF0 hg
  rw [hfv] at hrt hrr hsz hen hw20 ⊢
  rw [hr] at hrt hrr
  have HLl := Lib.hid hLl
  have HRT := Lib.hid hrt
  have HRR := Lib.hid hrr
  have HSZ := Lib.hid hsz
  have HL18 := Lib.hid hl18
  clear hL hfv hLl hrt hrr hsz hl18 hln
  have HEN := Lib.hid hen
  have HW20 := Lib.hid hw20
  clear hen hw20 hzz hNN hr r1 r2 r5 r6 r7 r8
  obtain ⟨wd, hwd⟩ : ∃ x, m.w = x := ⟨_, rfl⟩
  rw [hwd] at hn r3 r4 HL18
  clear hwd
  have hn2 : n < wd ∨ (wd ≤ n ∧ 16383 < n) := by omega
  clear hn
  go_enter Try.func10, Try.ntmps10
  go_wp2_with (first | ((with_reducible refine at_ldh ?_); refine ld_hd _ _ (by rfl) hA0 HLl.out ?_) | fail)
  refine (HEN.out _ hF0).mono ?_
  rintro e w1 ⟨rfl, hb1⟩
  have hA1 := hA0.below hb1 hg
  have hF1 := hF0.below hb1
  have hB1 := hB0.trans (hb1.mono hB0.size)
  clear hb1 hA0 hF0 hB0
  go_wp2_with fail
  have hA2 := hA1.drew
  have hF2 : HFits w1.drew P m d tok := hF1.kept ((Kept.refl (fun _ => False) w1).drewN 1) (fun _ _ h => h)
  have hB2 : Below w.heap.size w w1.drew := belowN hB1 1
  have hk2 : Below w1.heap.size w1 w1.drew := belowN (Below.refl _ _) 1
  refine wp_region_held_drew (S := (fun w' => w'.rangeAt w.heap.size 0 L)) (by kernel_rfl) (hA2.rangeAt) (fun hHeld => ?_)
  refine tk_dst (i := 0) (dst := some 14) rfl rfl (by kernel_rfl) (by kernel_rfl) (by kernel_rfl) (fun _ _ _ h => h) (v := ?_) ?_ (by assumption) ?_
  rotate_left
  · refine yl_any 28 ?ylx0 ?ylo0 ?ylb0 ?ylq0 ?ylp0 L _ ?ylS0 Try.underlying28 rfl ?yli0 ?ylw0
    case ylo0 => rfl
    case ylp0 => rfl
    case ylS0 => intro w hSw; exact hSw
    case yli0 => rw [HLl.out]; exact hd_info
    case ylw0 => rfl
  simp only [Act.put, List.setIfInBounds_toArray, List.set_cons_zero, List.set_cons_succ]
  refine tk_dst (i := 2) (dst := some 16) rfl rfl (by kernel_rfl) (by kernel_rfl) (by kernel_rfl) (fun _ _ _ h => h) (v := ?_) ?_ (by assumption) ?_
  rotate_left
  · refine yl_any 28 ?ylx2 ?ylo2 ?ylb2 ?ylq2 ?ylp2 L _ ?ylS2 Try.underlying28 rfl ?yli2 ?ylw2
    case ylo2 => rfl
    case ylp2 => rfl
    case ylS2 => intro w hSw; exact hSw
    case yli2 => rw [HLl.out]; exact hd_info
    case ylw2 => rfl
  simp only [Act.put, List.setIfInBounds_toArray, List.set_cons_zero, List.set_cons_succ]
  refine wpAnyH_ready (rs := [1]) (by kernel_rfl) (by simp) ?_
  refine AllReadyH.cons rfl (fun K hK => ?_) AllReadyH.nil
  go_simp
  go_wp2_with ((go_at_call 19; refine (HRT.out _ hF2).mono ?_; rintro e w3 ⟨rfl, hb3⟩; have hA3 := hA2.below hb3 hA2.lt; have hF3 := hF2.below hb3; have hB3 := hB2.trans (hb3.mono hB2.size); have hk3 := hk2.trans (hb3.mono hk2.size)))
  refine hK.out _ _ (hA3.rangeAt) (fun hHeld => ?_)
  clear hK K
  refine wpAnyH_ready (rs := [3]) (by kernel_rfl) (by simp) ?_
  refine AllReadyH.cons rfl (fun K hK => ?_) AllReadyH.nil
  go_simp
  go_wp2_with ((go_at_call 20; refine (HRR.out _ hF3).mono ?_; rintro e w4 ⟨rfl, hb4⟩; have hA4 := hA3.below hb4 hA3.lt; have hF4 := hF3.below hb4; have hB4 := hB3.trans (hb4.mono hB3.size); have hk4 := hk3.trans (hb4.mono hk3.size)))
  refine hK.out _ _ (hA4.rangeAt) (fun hHeld => ?_)
  clear hK K
  refine tk_dst (i := 4) (dst := some 18) rfl rfl (by kernel_rfl) (by kernel_rfl) (by kernel_rfl) (fun _ _ _ h => h) (v := ?_) (Or.inl ⟨by rfl, ?_⟩) (by assumption) ?_
  rotate_left
  · intro w hSw; (try dsimp only at hSw); go_simp; first | done | (with_reducible rfl)
  simp only [Act.put, List.setIfInBounds_toArray, List.set_cons_zero, List.set_cons_succ]
  refine wpAnyH_done (by kernel_rfl) ?_ _
  clear hA2 hF2 hB2 hA3 hF3 hB3 hb3 hb4 hA1 hF1 hB1
  go_wp2_with (first | ((with_reducible refine at_ldh ?_); refine ld_off_g w.heap.size 0 L _ (by rfl) (by rfl) hA4.rangeAt Try.underlying28 rfl (by rw [HLl.out]; exact hd_info) ?_) | fail)
  refine (HRR.out _ hF4).mono ?_
  rintro e w5 ⟨rfl, hb5⟩
  have hA5 := hA4.below hb5 hA4.lt
  have hF5 := hF4.below hb5
  have hB5 := hB4.trans (hb5.mono hB4.size)
  have hk5 := hk4.trans (hb5.mono hk4.size)
  clear hA4 hF4 hB4
  go_wp2_with (first | ((with_reducible refine at_ldh ?_); refine ld_off_g w.heap.size 0 L _ (by rfl) (by rfl) hA5.rangeAt Try.underlying28 rfl (by rw [HLl.out]; exact hd_info) ?_) | fail)
  refine (HW20.out _ hF5).mono ?_
  rintro e w6 ⟨v6, rfl, hown6, hb6⟩
  have hA6 := hA5.below hb6 hA5.lt
  have hF6 := hF5.below hb6
  have hB6 := hB5.trans (hb6.mono hB5.size)
  have hk6 := hk5.trans (hb6.mono hk5.size)
  obtain ⟨A6, c6, rfl, u1, u2, u3⟩ := hown6.open_n NN HNN.out
  clear hA5 hF5 hB5 u3
  go_wp2_with (first | ((with_reducible refine at_ldh ?_); refine ld_off_g w.heap.size 0 L _ (by rfl) (by rfl) hA6.rangeAt Try.underlying28 rfl (by rw [HLl.out]; exact hd_info) ?_) | fail)
  refine (HSZ.out _ hF6).mono ?_
  rintro e w7 ⟨rfl, hb7⟩
  have hA7 := hA6.below hb7 hA6.lt
  have hF7 := hF6.below hb7
  have hB7 := hB6.trans (hb7.mono hB6.size)
  have hk7 := hk6.trans (hb7.mono hk6.size)
  have e18 := (hA7.cell 18).trans HL18.out
  clear hA6 hF6 hB6
  rcases hn2 with hn2 | ⟨hn2, hn3⟩
  all_goals
    go_wp2_with fail
    go_ret
    exact ⟨rfl, hB7⟩
set_option maxRecDepth 100000 in
set_option maxHeartbeats 2000000 in
theorem hencs_in (P : Nat → Prop) (m : HN) (d : Sl) (tok : List Int) (n : Int) (w : World) (hf : HFits w P m d tok) (hr : hrightB m tok.length = true) (hn0 : m.w ≤ n) (hn1 : n ≤ 16383) :
    Calls Try.prog 10 #[hdV m d, .int .i64 n] w (FrPost (.bool true) w) := by
  have hB0 : Below w.heap.size w (w.alloc (.cells (hdL m d).toArray 28)) := (Below.refl _ _).alloc (Nat.le_refl _) _
  have hA0 : At (w.alloc (.cells (hdL m d).toArray 28)) w.heap.size 28 (hdL m d) := At.new w _ _
  have hln := hf.len
  have hrt := fun W (h : HFits W P m d tok) => hright_any P m d tok W h
  have hrr := fun W (h : HFits W P m d tok) => rhright_any P m d tok W h
  have hsz := fun W (h : HFits W P m d tok) => hsize_any P m d tok W h
  rw [hln] at hrt hrr
  have hF0 := hf.below hB0
  have hg : w.heap.size < (w.alloc (.cells (hdL m d).toArray 28)).heap.size := hA0.lt
  have hw20 := fun W (h : HFits W P m d tok) => rhenc_any P m d tok 20 W h hr (by decide) (by decide)
  obtain ⟨r1, r2, r3, r4, r5, r6, r7, r8⟩ := hright_parts _ _ hr
  have hzz : hsizeS m tok = ((hencS m tok 20).length : Int) := by unfold hsizeS; rw [hr, if_pos rfl, henc_len m tok m.w 20]
  obtain ⟨NN, hNN⟩ : ∃ x, (hencS m tok 20).length = x := ⟨_, rfl⟩
  rw [hzz, hNN] at hsz
  have HNN := Lib.hid hNN
  have hen := fun W (h : HFits W P m d tok) => henc_yes P m d tok n W h hr hn0 hn1
  have hwn := fun W (h : HFits W P m d tok) => rhenc_any P m d tok n W h hr (by omega) hn1
  obtain ⟨L, hL⟩ : ∃ L, hdL m d = L := ⟨_, rfl⟩
  have hLl : L.length = 20 := by rw [← hL]; rfl
  have hfv : hdV m d = .agg L.toArray := by rw [← hL]; rfl
  have hl18 : L[18]? = some (.int .i64 m.w) := by rw [← hL]; rfl
  rw [hL] at hA0 hB0 hF0 hg
  rw [hfv] at hrt hrr hsz hen hw20 hwn ⊢
  rw [hr] at hrt hrr
  have HLl := Lib.hid hLl
  have HRT := Lib.hid hrt
  have HRR := Lib.hid hrr
  have HSZ := Lib.hid hsz
  have HL18 := Lib.hid hl18
  clear hL hfv hLl hrt hrr hsz hl18 hln
  have HEN := Lib.hid hen
  have HW20 := Lib.hid hw20
  have HWN := Lib.hid hwn
  clear hen hw20 hwn hzz hNN hr r1 r2 r5 r6 r7 r8
  obtain ⟨wd, hwd⟩ : ∃ x, m.w = x := ⟨_, rfl⟩
  rw [hwd] at hn0 r3 r4 HL18
  clear hwd
  obtain ⟨E, hE⟩ : ∃ x, hencS m tok n = x := ⟨_, rfl⟩
  rw [hE] at HEN HWN
  clear hE
  obtain ⟨TX, hTX⟩ : ∃ x, strOfNums E = x := ⟨_, rfl⟩
  have HTX := Lib.hid hTX
  have hTT : (TX == TX) = true := bb_refl TX
  clear hTX
  go_enter Try.func10, Try.ntmps10
  go_wp2_with (first | ((with_reducible refine at_ldh ?_); refine ld_hd _ _ (by rfl) hA0 HLl.out ?_) | fail)
  refine (HEN.out _ hF0).mono ?_
  rintro e w1 ⟨v1, rfl, hown1, hb1⟩
  have hA1 := hA0.below hb1 hg
  have hF1 := hF0.below hb1
  have hB1 := hB0.trans (hb1.mono hB0.size)
  obtain ⟨nE, hnE⟩ : ∃ x, E.length = x := ⟨_, rfl⟩
  obtain ⟨A1, c1, rfl, z1, z2, hb⟩ := hown1.open_n nE hnE
  have HNE := Lib.hid hnE
  have hbd : Rd w1 w1.drew.heap.size A1 nE E := hb
  clear hb1 hA0 hF0 hB0 hnE hown1
  go_wp2_with fail
  have hA2 := hA1.drew
  have hF2 : HFits w1.drew P m d tok := hF1.kept ((Kept.refl (fun _ => False) w1).drewN 1) (fun _ _ h => h)
  have hB2 : Below w.heap.size w w1.drew := belowN hB1 1
  have hk2 : Below w1.heap.size w1 w1.drew := belowN (Below.refl _ _) 1
  refine wp_region_held_drew (S := (fun w' => w'.rangeAt w.heap.size 0 L)) (by kernel_rfl) (hA2.rangeAt) (fun hHeld => ?_)
  refine tk_dst (i := 0) (dst := some 14) rfl rfl (by kernel_rfl) (by kernel_rfl) (by kernel_rfl) (fun _ _ _ h => h) (v := ?_) ?_ (by assumption) ?_
  rotate_left
  · refine yl_any 28 ?ylx0 ?ylo0 ?ylb0 ?ylq0 ?ylp0 L _ ?ylS0 Try.underlying28 rfl ?yli0 ?ylw0
    case ylo0 => rfl
    case ylp0 => rfl
    case ylS0 => intro w hSw; exact hSw
    case yli0 => rw [HLl.out]; exact hd_info
    case ylw0 => rfl
  simp only [Act.put, List.setIfInBounds_toArray, List.set_cons_zero, List.set_cons_succ]
  refine tk_dst (i := 2) (dst := some 16) rfl rfl (by kernel_rfl) (by kernel_rfl) (by kernel_rfl) (fun _ _ _ h => h) (v := ?_) ?_ (by assumption) ?_
  rotate_left
  · refine yl_any 28 ?ylx2 ?ylo2 ?ylb2 ?ylq2 ?ylp2 L _ ?ylS2 Try.underlying28 rfl ?yli2 ?ylw2
    case ylo2 => rfl
    case ylp2 => rfl
    case ylS2 => intro w hSw; exact hSw
    case yli2 => rw [HLl.out]; exact hd_info
    case ylw2 => rfl
  simp only [Act.put, List.setIfInBounds_toArray, List.set_cons_zero, List.set_cons_succ]
  refine wpAnyH_ready (rs := [1]) (by kernel_rfl) (by simp) ?_
  refine AllReadyH.cons rfl (fun K hK => ?_) AllReadyH.nil
  go_simp
  go_wp2_with ((go_at_call 19; refine (HRT.out _ hF2).mono ?_; rintro e w3 ⟨rfl, hb3⟩; have hA3 := hA2.below hb3 hA2.lt; have hF3 := hF2.below hb3; have hB3 := hB2.trans (hb3.mono hB2.size); have hk3 := hk2.trans (hb3.mono hk2.size)))
  refine hK.out _ _ (hA3.rangeAt) (fun hHeld => ?_)
  clear hK K
  refine wpAnyH_ready (rs := [3]) (by kernel_rfl) (by simp) ?_
  refine AllReadyH.cons rfl (fun K hK => ?_) AllReadyH.nil
  go_simp
  go_wp2_with ((go_at_call 20; refine (HRR.out _ hF3).mono ?_; rintro e w4 ⟨rfl, hb4⟩; have hA4 := hA3.below hb4 hA3.lt; have hF4 := hF3.below hb4; have hB4 := hB3.trans (hb4.mono hB3.size); have hk4 := hk3.trans (hb4.mono hk3.size)))
  refine hK.out _ _ (hA4.rangeAt) (fun hHeld => ?_)
  clear hK K
  refine tk_dst (i := 4) (dst := some 18) rfl rfl (by kernel_rfl) (by kernel_rfl) (by kernel_rfl) (fun _ _ _ h => h) (v := ?_) (Or.inl ⟨by rfl, ?_⟩) (by assumption) ?_
  rotate_left
  · intro w hSw; (try dsimp only at hSw); go_simp; first | done | (with_reducible rfl)
  simp only [Act.put, List.setIfInBounds_toArray, List.set_cons_zero, List.set_cons_succ]
  refine wpAnyH_done (by kernel_rfl) ?_ _
  clear hA2 hF2 hB2 hA3 hF3 hB3 hb3 hb4 hA1 hF1 hB1
  go_wp2_with (first | ((with_reducible refine at_ldh ?_); refine ld_off_g w.heap.size 0 L _ (by rfl) (by rfl) hA4.rangeAt Try.underlying28 rfl (by rw [HLl.out]; exact hd_info) ?_) | fail)
  refine (HRR.out _ hF4).mono ?_
  rintro e w5 ⟨rfl, hb5⟩
  have hA5 := hA4.below hb5 hA4.lt
  have hF5 := hF4.below hb5
  have hB5 := hB4.trans (hb5.mono hB4.size)
  have hk5 := hk4.trans (hb5.mono hk4.size)
  clear hA4 hF4 hB4
  go_wp2_with (first | ((with_reducible refine at_ldh ?_); refine ld_off_g w.heap.size 0 L _ (by rfl) (by rfl) hA5.rangeAt Try.underlying28 rfl (by rw [HLl.out]; exact hd_info) ?_) | fail)
  refine (HW20.out _ hF5).mono ?_
  rintro e w6 ⟨v6, rfl, hown6, hb6⟩
  have hA6 := hA5.below hb6 hA5.lt
  have hF6 := hF5.below hb6
  have hB6 := hB5.trans (hb6.mono hB5.size)
  have hk6 := hk5.trans (hb6.mono hk5.size)
  obtain ⟨A6, c6, rfl, u1, u2, u3⟩ := hown6.open_n NN HNN.out
  clear hA5 hF5 hB5 u3
  go_wp2_with (first | ((with_reducible refine at_ldh ?_); refine ld_off_g w.heap.size 0 L _ (by rfl) (by rfl) hA6.rangeAt Try.underlying28 rfl (by rw [HLl.out]; exact hd_info) ?_) | fail)
  refine (HSZ.out _ hF6).mono ?_
  rintro e w7 ⟨rfl, hb7⟩
  have hA7 := hA6.below hb7 hA6.lt
  have hF7 := hF6.below hb7
  have hB7 := hB6.trans (hb7.mono hB6.size)
  have hk7 := hk6.trans (hb7.mono hk6.size)
  have e18 := (hA7.cell 18).trans HL18.out
  clear hA6 hF6 hB6
  go_wp2_with fail
  have hb7' : Rd w7 w7.heap.size A1 nE E := (hb.below hk7).more hk7.size
  have hA8 := hA7.drew
  have hF8 : HFits w7.drew P m d tok := hF7.kept ((Kept.refl (fun _ => False) w7).drewN 1) (fun _ _ h => h)
  have hB8 : Below w.heap.size w w7.drew := belowN hB7 1
  have t8 := run_text (P := Try.prog) (c := c1) hb7'.drew 22 5 9 Try.underlying22 Try.underlying5 Try.underlying9
  rw [HTX.out] at t8
  refine wp_region_held_drew (S := (fun w' => w'.rangeAt w.heap.size 0 L ∧ (convert 22 9 (.slice A1 nE c1)).run Try.prog w' = .ok (.string TX) w')) (by kernel_rfl) (⟨hA8.rangeAt, t8⟩) (fun hHeld => ?_)
  refine tk_dst (i := 0) (dst := some 56) rfl rfl (by kernel_rfl) (by kernel_rfl) (by kernel_rfl) (fun _ _ _ h => h) (v := ?_) (Or.inl ⟨by rfl, ?_⟩) (by assumption) ?_
  rotate_left
  · intro w hSw; (try dsimp only at hSw); go_simp; first | done | (with_reducible rfl)
  simp only [Act.put, List.setIfInBounds_toArray, List.set_cons_zero, List.set_cons_succ]
  refine tk_dst (i := 1) (dst := some 57) rfl rfl (by kernel_rfl) (by kernel_rfl) (by kernel_rfl) (fun _ _ _ h => h) (v := ?_) (Or.inl ⟨by rfl, ?_⟩) (by assumption) ?_
  rotate_left
  · intro w hSw; (try dsimp only at hSw); go_simp; first | done | (with_reducible rfl)
  simp only [Act.put, List.setIfInBounds_toArray, List.set_cons_zero, List.set_cons_succ]
  refine tk_dst (i := 2) (dst := some 58) rfl rfl (by kernel_rfl) (by kernel_rfl) (by kernel_rfl) (fun _ _ _ h => h) (v := ?_) (Or.inl ⟨by rfl, ?_⟩) (by assumption) ?_
  rotate_left
  · intro w hSw; (try dsimp only at hSw); go_simp; first | done | (with_reducible rfl)
  simp only [Act.put, List.setIfInBounds_toArray, List.set_cons_zero, List.set_cons_succ]
  refine tk_dst (i := 3) (dst := some 59) rfl rfl (by kernel_rfl) (by kernel_rfl) (by kernel_rfl) (fun _ _ _ h => h) (v := ?_) (Or.inl ⟨by rfl, ?_⟩) (by assumption) ?_
  rotate_left
  · intro w hSw; (try dsimp only at hSw); go_simp; first | done | (with_reducible rfl)
  simp only [Act.put, List.setIfInBounds_toArray, List.set_cons_zero, List.set_cons_succ]
  refine tk_dst (i := 4) (dst := some 60) rfl rfl (by kernel_rfl) (by kernel_rfl) (by kernel_rfl) (fun _ _ _ h => h) (v := ?_) (Or.inl ⟨by rfl, ?_⟩) (by assumption) ?_
  rotate_left
  · intro w hSw; (try dsimp only at hSw); go_simp; first | done | (with_reducible rfl)
  simp only [Act.put, List.setIfInBounds_toArray, List.set_cons_zero, List.set_cons_succ]
  refine tk_dst (i := 5) (dst := some 61) rfl rfl (by kernel_rfl) (by kernel_rfl) (by kernel_rfl) (fun _ _ _ h => h) (v := ?_) ?_ (by assumption) ?_
  rotate_left
  · refine yl_any 28 ?ylx5 ?ylo5 ?ylb5 ?ylq5 ?ylp5 L _ ?ylS5 Try.underlying28 rfl ?yli5 ?ylw5
    case ylo5 => rfl
    case ylp5 => rfl
    case ylS5 => intro w hSw; exact hSw.1
    case yli5 => rw [HLl.out]; exact hd_info
    case ylw5 => rfl
  simp only [Act.put, List.setIfInBounds_toArray, List.set_cons_zero, List.set_cons_succ]
  refine tk_dst (i := 6) (dst := some 62) rfl rfl (by kernel_rfl) (by kernel_rfl) (by kernel_rfl) (fun _ _ _ h => h) (v := ?_) (Or.inl ⟨by rfl, ?_⟩) (by assumption) ?_
  rotate_left
  · intro w hSw; (try dsimp only at hSw); go_simp; first | done | (with_reducible rfl)
  simp only [Act.put, List.setIfInBounds_toArray, List.set_cons_zero, List.set_cons_succ]
  refine wpAnyH_ready (rs := [7]) (by kernel_rfl) (by simp) ?_
  refine AllReadyH.cons rfl (fun K hK => ?_) AllReadyH.nil
  go_simp
  go_wp2_with ((go_at_call 9; refine (HWN.out _ hF8).mono ?_; rintro e w9 ⟨v9, rfl, hown9, hb9⟩; obtain ⟨A9, c9, rfl, s1, s2, s3⟩ := hown9.open_n nE HNE.out; have hB9 := hB8.trans (hb9.mono hB8.size); have hA9 := hA8.below hb9 hA8.lt; have hb9' := (hb7'.drew.below hb9).more hb9.size; have t9 := run_text (P := Try.prog) (c := c9) s3 22 5 9 Try.underlying22 Try.underlying5 Try.underlying9; have t9a := run_text (P := Try.prog) (c := c1) hb9' 22 5 9 Try.underlying22 Try.underlying5 Try.underlying9; rw [HTX.out] at t9 t9a))
  refine hK.out _ _ (⟨hA9.rangeAt, t9a⟩) (fun hHeld => ?_)
  clear hK K
  refine wpAnyH_ready (rs := [8]) (by kernel_rfl) (by simp) ?_
  refine AllReadyH.cons rfl (fun K hK => ?_) AllReadyH.nil
  go_simp
  refine hK.out _ _ ⟨hA9.rangeAt, t9a⟩ (fun hHeld => ?_)
  clear hK K
  refine tk_dst (i := 9) (dst := some 65) rfl rfl (by kernel_rfl) (by kernel_rfl) (by kernel_rfl) (fun _ _ _ h => h) (v := ?_) (Or.inl ⟨by rfl, ?_⟩) (by assumption) ?_
  rotate_left
  · intro w hSw; (try dsimp only at hSw); go_simp; first | done | (with_reducible rfl)
  simp only [Act.put, List.setIfInBounds_toArray, List.set_cons_zero, List.set_cons_succ]
  refine tk_dst (i := 10) (dst := some 66) rfl rfl (by kernel_rfl) (by kernel_rfl) (by kernel_rfl) (fun _ _ _ h => h) (v := ?_) (Or.inl ⟨by rfl, ?_⟩) (by assumption) ?_
  rotate_left
  · intro w hSw; (try dsimp only at hSw); go_simp; first | done | (with_reducible rfl)
  simp only [Act.put, List.setIfInBounds_toArray, List.set_cons_zero, List.set_cons_succ]
  refine tk_dst (i := 11) (dst := some 4) rfl rfl (by kernel_rfl) (by kernel_rfl) (by kernel_rfl) (fun _ _ _ h => h) (v := ?_) (Or.inl ⟨by rfl, ?_⟩) (by assumption) ?_
  rotate_left
  · intro w hSw; (try dsimp only at hSw); go_simp; first | done | (with_reducible rfl)
  simp only [Act.put, List.setIfInBounds_toArray, List.set_cons_zero, List.set_cons_succ]
  refine wpAnyH_done (by kernel_rfl) ?_ _
  go_wp2_with fail
  go_ret
  exact ⟨rfl, hB9⟩
theorem hencs_any (P : Nat → Prop) (m : HN) (d : Sl) (tok : List Int) (n : Int) (w : World) (hf : HFits w P m d tok) :
    Calls Try.prog 10 #[hdV m d, .int .i64 n] w (FrPost (.bool true) w) := by
  cases hr : hrightB m tok.length with
  | false => exact hencs_no P m d tok n w hf hr
  | true =>
    by_cases hn : n < m.w ∨ 16383 < n
    · exact hencs_out P m d tok n w hf hr hn
    · exact hencs_in P m d tok n w hf hr (by omega) (by omega)
theorem b_xor (a b : Int) (h0 : 0 ≤ a) (h1 : a < 256) (k0 : 0 ≤ b) (k1 : b < 256) : 0 ≤ bits BinOp.xor IntKind.u8 a b ∧ bits BinOp.xor IntKind.u8 a b < 256 := by
  rw [u8_xor _ _ h0 h1 k0 k1]
  have := Nat.xor_lt_two_pow (n := 8) (x := a.toNat) (y := b.toNat) (by omega) (by omega)
  omega
theorem InRow.inDl {w : World} {A : Option Addr} {n c : Nat} {bs : List Int} (h : InRow w A n c bs) : InD w (fun b => b < w.heap.size) ⟨A, n, c⟩ bs :=
  ⟨⟨h.1, fun b off hn' e => by obtain ⟨b', off', e', hb', _⟩ := h.1.2.2 hn'; simp only at e; rw [e] at e'; injection e' with e'; injection e' with e1 e2; omega⟩, h.2.1, h.2.2.1, h.2.2.2⟩
theorem InD.cutTo_ {w : World} {P : Nat → Prop} {A : Option Addr} {n c : Nat} {bs : List Int} (h : InD w P ⟨A, n, c⟩ bs) (k : Nat) : InD w P ⟨A, min n k, c⟩ (bs.take (min n k)) :=
  ⟨h.rd.cutTo (Nat.min_le_left n k), Nat.le_trans (Nat.min_le_left n k) h.lc, h.cm, h.nil⟩
set_option maxRecDepth 100000 in
set_option maxHeartbeats 4000000 in
theorem htells_walk (S T F W : Int) (tA : Option Addr) (tn tc : Nat) (bs0 : List Int) (ph : Bool) (m1 : HN) (A1 : Option Addr) (n1 c1 : Nat) (bs1 : List Int) (n : Int) (A3 : Option Addr) (n3 c3 : Nat) (bs3 : List Int) (aat turn : Int) (w : World)
    (hS : -9223372036854775808 ≤ S ∧ S ≤ 9223372036854775807) (hT : -9223372036854775808 ≤ T ∧ T ≤ 9223372036854775807) (hF : -9223372036854775808 ≤ F ∧ F ≤ 9223372036854775807) (hW : -9223372036854775808 ≤ W ∧ W ≤ 9223372036854775807) (ht : InRow w tA tn tc bs0)
    (hm1 : m1.wf) (hr1 : InRow w A1 n1 c1 bs1) (hn : -9223372036854775808 ≤ n ∧ n ≤ 9223372036854775807) (hr3 : InRow w A3 n3 c3 bs3) (hat : -9223372036854775808 ≤ aat ∧ aat ≤ 9223372036854775807) (htu : 0 ≤ turn ∧ turn < 256) :
    Calls Try.prog 3 #[.agg (xL S T F W ⟨tA, tn, tc⟩ ph).toArray, .agg (hdL m1 ⟨A1, n1, c1⟩).toArray, .int .i64 n, .slice A3 n3 c3, .int .i64 aat, .int .u8 turn] w fun e w'' => e = .returned (.bool true) ∧ Below w.heap.size w w'' := by
  obtain ⟨i0, hi, hz0, hz1, hz2⟩ := info_parts u8_info
  have HKH := Lib.hid (fun W' h => khead_any (fun b => b < w.heap.size) S T F W ⟨tA, tn, tc⟩ ph bs0 W' h hS hT hF hW)
  have HWI := Lib.hid (fun W' => within_any n 4 300 W' hn.1 hn.2 (by decide) (by decide) (by decide))
  have hkb := withinS_bd n 4 300 (by decide)
  obtain ⟨kk, hkk⟩ : ∃ k, withinS n 4 300 = k := ⟨_, rfl⟩
  rw [hkk] at HWI hkb
  obtain ⟨k, rfl⟩ := Int.eq_ofNat_of_zero_le (show 0 ≤ kk by omega)
  have hk4 : 4 ≤ k := by omega
  have hk300 : k ≤ 300 := by omega
  have HCW := Lib.hid (fun (hi : Int) (h0 : 0 ≤ hi) (h1 : hi ≤ 4611686018427387902) W' => within_any aat 0 hi W' hat.1 hat.2 (by decide) h0 h1)
  have hB0 : Below w.heap.size w ((w.alloc (.cells (xL S T F W ⟨tA, tn, tc⟩ ph).toArray 24)).alloc (.cells (hdL m1 ⟨A1, n1, c1⟩).toArray 28)) := ((Below.refl _ _).alloc (Nat.le_refl _) _).alloc (by simp) _
  have hX : At ((w.alloc (.cells (xL S T F W ⟨tA, tn, tc⟩ ph).toArray 24)).alloc (.cells (hdL m1 ⟨A1, n1, c1⟩).toArray 28)) w.heap.size 24 (xL S T F W ⟨tA, tn, tc⟩ ph) := (At.new w _ _).alloc _
  have hY : At ((w.alloc (.cells (xL S T F W ⟨tA, tn, tc⟩ ph).toArray 24)).alloc (.cells (hdL m1 ⟨A1, n1, c1⟩).toArray 28)) (w.heap.size + 1) 28 (hdL m1 ⟨A1, n1, c1⟩) := At.new_ _ _ _ (by simp)
  have HT0 := Lib.hid (ht.inDl.below_ hB0)
  have hD1 := hr1.inDl.below_ hB0
  have hD3 := hr3.inDl.below_ hB0
  have KN := Lib.hid hknown_any
  clear hkk hkb hS hT hF hW hn ht hat hr1 hr3
  go_enter Try.func3, Try.ntmps3
  go_wp2_with (first | ((with_reducible refine at_ldx ?_); refine wpList_load_at w.heap.size _ (xL S T F W ⟨tA, tn, tc⟩ ph) _ (by rfl) hX Try.underlying24 rfl x_info ?_) | fail)
  refine (HKH.out _ HT0.out).mono ?_
  rintro e w1 ⟨m, d, tok, rfl, hfit, hrt, hb1⟩
  have hB1 := hB0.trans (hb1.mono hB0.size)
  have hY1 := hY.of_below hb1
  have hD1 := hD1.below_ hb1
  have hD3 := hD3.below_ hb1
  have hzg1 := hY1.lt
  clear hb1 hB0 hX hY HT0 HKH
  have hb12 : Below w1.heap.size w1 (w1.alloc (.cells (hdL m d).toArray 28)) := (Below.refl _ _).alloc (Nat.le_refl _) _
  have hG2 := At.new w1 28 (hdL m d)
  obtain ⟨w2, hw2⟩ : ∃ x, w1.alloc (.cells (hdL m d).toArray 28) = x := ⟨_, rfl⟩
  rw [hw2] at hb12 hG2
  have hB2 := hB1.trans (hb12.mono hB1.size)
  have hY2 := hY1.of_below hb12
  have hf2 := hfit.below hb12
  have hD1 := hD1.below_ hb12
  have hD3 := hD3.below_ hb12
  have hz2' := hb12.size
  have hz2'' := hG2.lt
  have y17 : w2.cell? ⟨w.heap.size + 1, 17, none⟩ = some (.slice A1 n1 c1) := hY2.cell 17
  have fy17 := hY2.frozen 17
  clear hB1 hY1 hfit hb12
  go_wp2_with (first | ((with_reducible refine at_sth ?_); refine wpList_store_top w1 28 (hdL HN.zero Sl.nil) (hdL m d) (by rfl) _ (by rfl) (by rfl) (by rfl) (by rfl) hd_info (by rfl) ?_; rw [hw2]; clear hw2) | fail)
  obtain ⟨g13, hg13⟩ : ∃ g, w1.heap.size = g := ⟨_, rfl⟩
  rw [hg13] at hG2 hzg1 hz2'' ⊢
  clear hg13
  refine (cut_any A1 n1 c1 40 w2 hD1.lc hD1.cm (by decide) (fun h e => by have h1 : n1 ≤ c1 := hD1.lc; have h2 : c1 = 0 := hD1.nil e; omega)).mono ?_
  rintro e w' ⟨rfl, rfl⟩
  have hk1 : Kept (· = w.heap.size + 1) w2 (w2.setCell ⟨w.heap.size + 1, 17, none⟩ (.slice A1 (min n1 40) c1)) := (Kept.refl _ _).setAt _ _
  have hY3 : At (w2.setCell ⟨w.heap.size + 1, 17, none⟩ (.slice A1 (min n1 40) c1)) (w.heap.size + 1) 28 (hdL m1 ⟨A1, min n1 40, c1⟩) := hY2.set 17 _
  have hG3 := hG2.kept hk1 (by omega)
  have hB3 := hk1.below hB2 (by have := hB2.size; omega) (fun j hj => by omega)
  have hf3 := hf2.kept hk1 (fun b hb e => by omega)
  have hD1 := ((hD1.kept hk1 (fun b hb e => by omega)).cutTo_ 40)
  have hD3 := hD3.kept hk1 (fun b hb e => by omega)
  have hs3 := hk1.size
  obtain ⟨qn, hqn⟩ : ∃ x, min n1 40 = x := ⟨_, rfl⟩
  rw [hqn] at hk1 hY3 hG3 hB3 hf3 hD1 hD3 hs3 ⊢
  have hB2s := hB2.size
  clear hB2 hY2 hf2 hG2 hk1 hqn
  go_wp2_with fail
  obtain ⟨w3, hw3⟩ : ∃ x, w2.setCell ⟨w.heap.size + 1, 17, none⟩ (.slice A1 qn c1) = x := ⟨_, rfl⟩
  rw [hw3] at hY3 hG3 hB3 hf3 hD1 hD3 hs3 ⊢
  clear hw3 y17 fy17
  refine (HWI.out _).mono ?_
  rintro e w' ⟨rfl, rfl⟩
  go_wp2_with (first | ((with_reducible refine at_ldh ?_); refine ld_hd _ (hdL m d) (by rfl) hG3 (by rfl) ?_) | fail)
  obtain ⟨_, _, _, _, r5, _⟩ := hright_parts _ _ hrt
  have hne := henc_bd m tok k r5
  refine (rhenc_any _ m d tok k w3 hf3 hrt (by omega) (by omega)).mono ?_
  rintro e w4 ⟨v4, rfl, hown4, hb4⟩
  have hs4 := hb4.size
  obtain ⟨E, hE⟩ : ∃ E, hencS m tok k = E := ⟨_, rfl⟩
  rw [hE] at hne hown4
  obtain ⟨nE, hnE⟩ : ∃ x, E.length = x := ⟨_, rfl⟩
  rw [hnE] at hne
  have HNE := Lib.hid hnE
  clear hE hnE r5
  go_wp2_with (first
    | (at_builtin; refine wpList_append_zeros_own rfl (.tmp 26) (.tmp 27) 22 3 rfl w3.heap.size 5 i0 .i64 .i64 Try.underlying22 Try.underlying3 hi hz0 hz1 hz2 _ k _ rfl hown4 (by rw [HNE.out]; omega) rfl (by omega) (by rw [HNE.out]; omega) w3 hb4 hs4 ?_; intro v5 w5 hown5 hb5; have hl5 : (E ++ List.replicate k 0).length = nE + k := (by rw [List.length_append, HNE.out, List.length_replicate]); have hs5 := hb5.size; obtain ⟨g15, c15, l15, rfl, hA15, hl15, htk15, hbg15, hnc15, hcm15⟩ := hown5.place (by rw [hl5]; omega); rw [hl5] at hnc15 ⊢; have hc15 := hcm15; unfold maxLen at hc15)
    | fail)
  obtain ⟨full, hfu⟩ : ∃ x, E ++ List.replicate k 0 = x := ⟨_, rfl⟩
  rw [hfu] at hown5 htk15 hl5
  clear hfu hown4 hb4
  have hB5 := hB3.trans (hb5.mono hB3.size)
  have hG5 := hG3.of_below hb5
  have hY5 := hY3.of_below hb5
  have hf5 := hf3.below hb5
  have hD15 := hD1.below_ hb5
  have hD35 := hD3.below_ hb5
  have hz5 := hG5.lt
  have hz5' := hG3.lt
  have hz5'' := hY3.lt
  clear hB3 hG3 hY3 hf3 hD1 hD3 hb5
  have hwin := withinS_bd aat 0 ((nE + k : Nat) - 1 : Int) (by omega)
  obtain ⟨qq, hqq⟩ : ∃ q, withinS aat 0 ((nE + k : Nat) - 1 : Int) = q := ⟨_, rfl⟩
  have HC2 := Lib.hid (fun W' => HCW.out ((nE + k : Nat) - 1 : Int) (by omega) (by omega) W')
  rw [hqq] at HC2 hwin
  obtain ⟨q, rfl⟩ := Int.eq_ofNat_of_zero_le (show 0 ≤ qq by omega)
  have hq : q < nE + k := by omega
  have hby := hown5.byt
  obtain ⟨xq, hxq⟩ : ∃ x, full[q]? = some x := ⟨_, List.getElem?_eq_getElem (by rw [hl5]; exact hq)⟩
  have hxb := hby xq (List.mem_of_getElem? hxq)
  obtain ⟨z0, z1⟩ := b_xor xq turn hxb.1 hxb.2 htu.1 htu.2
  obtain ⟨Z, hZ⟩ : ∃ z, bits BinOp.xor IntKind.u8 xq turn = z := ⟨_, rfl⟩
  rw [hZ] at z0 z1
  have y0 := place_cell hA15 htk15 q xq hxq
  have fy := hA15.frozen q
  have hwrap : IntKind.i64.wrap (((nE + k : Nat) : Int) - 1) = ((nE + k : Nat) : Int) - 1 := IntWalk.i64_in _ (by omega)
  have hYo := place_set hA15 hl15 htk15 hby hbg15 (by rw [hl5]; exact hnc15) hcm15 q Z ⟨z0, z1⟩
  have hk6 : Kept (· = g15) w5 (w5.setCell ⟨g15, q, none⟩ (.int .u8 Z)) := (Kept.refl _ _).setAt _ _
  have hB5s := hB5.size
  have hG6 := hG5.kept hk6 (by omega)
  have hY6 := hY5.kept hk6 (by omega)
  have hf6 := hf5.kept hk6 (fun b hb e => by omega)
  have hD16 := hD15.kept hk6 (fun b hb e => by omega)
  have hD36 := hD35.kept hk6 (fun b hb e => by omega)
  have hB6 := hk6.below hB5 hB5.size (fun j hj => by omega)
  clear hwin hqq HCW hB5 hG5 hY5 hf5 hD15 hD35 hk6
  go_wp2_with fail
  refine (HC2.out _).mono ?_
  rintro e w' ⟨rfl, rfl⟩
  obtain ⟨w6, hw6⟩ : ∃ x, w5.setCell ⟨g15, q, none⟩ (.int .u8 Z) = x := ⟨_, rfl⟩
  rw [hw6] at hYo hG6 hY6 hf6 hD16 hD36 hB6
  obtain ⟨_, _, ey, _, _, hry⟩ := hYo.open_n (nE + k) (by rw [List.length_set]; exact hl5)
  injection ey with eya eyb eyc
  subst eya; subst eyc
  clear hYo
  go_wp2_with (first | ((with_reducible refine at_ldh (x := .tmp 13) ?_); refine ld_hd _ (hdL m d) (by rfl) hG6 (by rfl) ?_) | fail)
  refine (hencs_any _ m d tok n w6 hf6).mono ?_
  rintro e w7 ⟨rfl, hb7⟩
  have hB7 := hB6.trans (hb7.mono hB6.size)
  have hY7 := hY6.of_below hb7
  have hD17 := hD16.below_ hb7
  have hD37 := hD36.below_ hb7
  have hry7 := (hry.below hb7).more hb7.size
  clear hB6 hG6 hY6 hf6 hD16 hD36 hb7 hry
  go_wp2_with (first | ((with_reducible refine at_ldh (x := .tmp 7) ?_); refine ld_off_g (w.heap.size + 1) 0 (hdL m1 ⟨A1, qn, c1⟩) _ (by rfl) (by rfl) hY7.rangeAt Try.underlying28 rfl hd_info ?_) | fail)
  refine (hencs_any _ m1 ⟨A1, qn, c1⟩ _ n w7 ⟨hm1, hD17⟩).mono ?_
  rintro e w8 ⟨rfl, hb8⟩
  have hB8 := hB7.trans (hb8.mono hB7.size)
  have hY8 := hY7.of_below hb8
  have hD18 := hD17.below_ hb8
  have hD38 := hD37.below_ hb8
  have hry8 := (hry7.below hb8).more hb8.size
  clear hB7 hY7 hD17 hD37 hry7 hb8
  go_wp2_with (first | ((with_reducible refine at_ldh (x := .tmp 7) ?_); refine ld_off_g (w.heap.size + 1) 0 (hdL m1 ⟨A1, qn, c1⟩) _ (by rfl) (by rfl) hY8.rangeAt Try.underlying28 rfl hd_info ?_) | fail)
  refine (hencs_any _ m1 ⟨A1, qn, c1⟩ _ k w8 ⟨hm1, hD18⟩).mono ?_
  rintro e w9 ⟨rfl, hb9⟩
  have hB9 := hB8.trans (hb9.mono hB8.size)
  have hD39 := hD38.below_ hb9
  have hry9 := (hry8.below hb9).more hb9.size
  clear hB8 hY8 hD18 hD38 hry8 hb9
  go_wp2_with fail
  refine (hparses_any _ (nE + k) _ _ w9 hry9 (by omega) (by omega) hcm15 (fun h => by cases h)).mono ?_
  rintro e w10 ⟨rfl, hb10⟩
  have hB10 := hB9.trans (hb10.mono hB9.size)
  have hD310 := hD39.below_ hb10
  clear hB9 hD39 hry9 hb10
  go_wp2_with fail
  refine (cut_any A3 n3 c3 80 w10 hD310.lc hD310.cm (by decide) (fun h e => by have h1 : n3 ≤ c3 := hD310.lc; have h2 : c3 = 0 := hD310.nil e; omega)).mono ?_
  rintro e w' ⟨rfl, rfl⟩
  have hcut := hD310.cutTo_ 80
  have hm80 : min n3 80 ≤ 80 := Nat.min_le_right _ _
  obtain ⟨rn, hrn⟩ : ∃ x, min n3 80 = x := ⟨_, rfl⟩
  rw [hrn] at hcut hm80 ⊢
  clear hrn
  go_wp2_with fail
  refine (hparses_any A3 rn c3 _ w10 hcut.rd.1 (by omega) hcut.lc hcut.cm hcut.nil).mono ?_
  rintro e w11 ⟨rfl, hb11⟩
  have hB11 := hB10.trans (hb11.mono hB10.size)
  go_wp2_with fail
  refine (KN.out _).mono ?_
  rintro e w12 ⟨rfl, hb12⟩
  go_wp2_with fail
  go_ret
  exact ⟨rfl, hB11.trans (hb12.mono hB11.size)⟩
theorem htells_law (S T F W : Int) (tA : Option Addr) (tn tc : Nat) (bs0 : List Int) (ph : Bool) (m1 : HN) (A1 : Option Addr) (n1 c1 : Nat) (bs1 : List Int) (n : Int) (A3 : Option Addr) (n3 c3 : Nat) (bs3 : List Int) (aat turn : Int) (w : World)
    (hx : XIn w S T F W tA tn tc bs0) (h1 : HdIn w m1 A1 n1 c1 bs1) (hn : (Lit.int .i64 n).wf = true) (h3 : InRow w A3 n3 c3 bs3) (ha : (Lit.int .i64 aat).wf = true) (ht : (Lit.int .u8 turn).wf = true) :
    Calls Try.prog 3 #[.agg (xL S T F W ⟨tA, tn, tc⟩ ph).toArray, .agg (hdL m1 ⟨A1, n1, c1⟩).toArray, .int .i64 n, .slice A3 n3 c3, .int .i64 aat, .int .u8 turn] w fun e w'' => e = .returned (.bool true) ∧ Below w.heap.size w w'' :=
  htells_walk S T F W tA tn tc bs0 ph m1 A1 n1 c1 bs1 n A3 n3 c3 bs3 aat turn w hx.sa hx.ta hx.fa hx.wa hx.row h1.wf h1.row (bounds_i64 hn) h3 (bounds_i64 ha) (by have := bounds_u8 ht; omega)
end Go.Proofs.Ytbioajgmceodhaa
