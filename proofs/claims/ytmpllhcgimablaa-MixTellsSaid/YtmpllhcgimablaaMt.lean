/-
  MixTells returns true at every input: its walk.
-/
import Derived.Test.YtmpllhcgimablaaMs
import Derived.Test.YtmpllhcgimablaaRoom
import Derived.Test.YtmpllhcgimablaaInRow
namespace Go.Proofs.Ytmpllhcgimablaa
set_option linter.unusedVariables false
set_option linter.unusedSimpArgs false
open Go.RowKit Go.ChangeShapes Go.WideShapes Go.Deep
set_option maxRecDepth 100000 in
set_option maxHeartbeats 4000000 in
theorem mtells_walk (key : Int) (A : Option Addr) (n c : Nat) (bs : List Int) (m : N8) (w : World) (k0 : 0 ≤ key) (k1 : key < 18446744073709551616) (hin : InRow w A n c bs) (hmb : Byt m.l) :
    Calls Try.prog 4 #[.int .u64 key, .slice A n c, m.v] w fun e w' => e = .returned (.bool true) ∧ Below w.heap.size w w' := by
  obtain ⟨hr, hnc, hcm, hA0⟩ := hin
  have hA : 200 < n → A ≠ none := fun h e => by have := hA0 e; omega
  clear hA0
  have hbx : Below w.heap.size w (w.alloc (.cells (m.l.map (Value.int .u8)).toArray 29)) := (Below.refl _ _).alloc (Nat.le_refl _) _
  have hG0 := At.new w 29 (m.l.map (Value.int .u8))
  have hcut := (hr.cut (m := min n 200) (Nat.min_le_left _ _)).below hbx
  obtain ⟨l, hl⟩ : ∃ l, bs.take (min n 200) = l := ⟨_, rfl⟩
  rw [hl] at hcut
  clear hl hr
  have hm12 : min n 200 ≤ 200 := Nat.min_le_right _ _
  have hmn : min n 200 ≤ n := Nat.min_le_left _ _
  obtain ⟨mm, hm⟩ : ∃ m, min n 200 = m := ⟨_, rfl⟩
  rw [hm] at hcut hm12 hmn
  have HM := Lib.hid hm; clear hm
  obtain ⟨g, hg⟩ : ∃ x, w.heap.size = x := ⟨_, rfl⟩
  rw [hg] at hG0 hcut hbx
  have hNb := numS_bd m hmb
  have hBN := bytes_num m hmb
  have hNu := fun W => number_any m W hmb
  obtain ⟨NV, hNV⟩ : ∃ x, numS m.l = x := ⟨_, rfl⟩
  rw [hNV] at hNb hBN hNu
  obtain ⟨hNb0, hNb1⟩ := hNb
  have HNU := Lib.hid hNu
  have HNV := Lib.hid hNV
  have hBY := fun W => mbytes_any NV W hNb0 hNb1
  rw [hBN] at hBY
  have HBY := Lib.hid hBY
  have hq := fun W => run_a8 W m m
  rw [n8B_refl m] at hq
  clear hNu hNV hBN hBY
  have hvv : m.v = .agg #[.int .u8 m.a0, .int .u8 m.a1, .int .u8 m.a2, .int .u8 m.a3, .int .u8 m.a4, .int .u8 m.a5, .int .u8 m.a6, .int .u8 m.a7] := rfl
  rw [hvv]
  clear hvv
  obtain ⟨w0, hw0⟩ : ∃ x, w.alloc (.cells (m.l.map (Value.int .u8)).toArray 29) = x := ⟨_, rfl⟩
  rw [hw0] at hG0 hcut hbx
  have hcut0 : Rd w0 w0.heap.size A mm l := hcut.more (by have := hbx.size; omega)
  clear hcut
  go_enter Try.func4, Try.ntmps4
  go_wp2_with fail
  rw [show (w.alloc (.cells #[.int .u8 m.a0, .int .u8 m.a1, .int .u8 m.a2, .int .u8 m.a3, .int .u8 m.a4, .int .u8 m.a5, .int .u8 m.a6, .int .u8 m.a7] 29)) = w0 from hw0]
  clear hw0
  refine (cut_any A n c 200 w0 hnc hcm (by omega) hA).mono ?_
  rintro e w' ⟨rfl, rfl⟩
  rw [HM.out]
  go_wp2_with fail
  refine (roomy_any A mm c l 165 w0 hcut0 (by omega) (by omega) (by omega)).mono ?_
  rintro e w1 ⟨v1, rfl, ho1, hb1⟩
  have hL := hcut0.1
  obtain ⟨Af, cf, rfl, hf1, hf2, hrf⟩ := ho1.open_n (mm + 80) (by rw [List.length_append, hL]; simp)
  obtain ⟨gf, off, rfl, hgf, hcell⟩ := hrf.2.2 (by omega)
  have hf3 := hf2
  unfold maxLen at hf3
  clear hcell ho1
  have hrc : Rd w1 w1.heap.size (some ⟨gf, off, none⟩) mm l := by
    have := hrf.cut (m := mm) (by omega)
    rw [List.take_append_of_le_length (by omega), List.take_of_length_le (by omega)] at this
    exact this
  clear hL
  have hB1 : Below w.heap.size w w1 := by
    rw [← hg] at hbx
    exact hbx.trans (hb1.mono hbx.size)
  have hG1 := hG0.below hb1 hG0.lt
  have hrA := (hcut0.below hb1).more hb1.size
  clear hG0 hb1 hcut0 hbx
  go_wp2_with fail
  have hB2 : Below w.heap.size w w1.drew := belowN hB1 1
  have hG2 := hG1.drew
  have hrc2 : Rd w1.drew w1.drew.heap.size _ _ _ := hrc.drew
  have hrf2 : Rd w1.drew w1.drew.heap.size _ _ _ := hrf.drew
  have hrA2 : Rd w1.drew w1.drew.heap.size _ _ _ := hrA.drew
  clear hB1 hG1 hrc hrf hrA
  have hmc : mm ≤ cf := by omega
  refine wp_region_held_drew (S := (fun w' => w'.rangeAt g 0 (m.l.map (Value.int .u8)))) (by kernel_rfl) (hG2.rangeAt) (fun hHeld => ?_)
  refine tk_dst (i := 0) (dst := some 12) rfl rfl (by kernel_rfl) (by kernel_rfl) (by kernel_rfl) (fun _ _ _ h => h) (v := ?_) (Or.inl ⟨by rfl, ?_⟩) (by assumption) ?_
  rotate_left
  · intro w hSw; (try dsimp only at hSw); go_simp; first | done | (with_reducible rfl)
  simp only [Act.put, List.setIfInBounds_toArray, List.set_cons_zero, List.set_cons_succ]
  refine tk_dst (i := 1) (dst := some 13) rfl rfl (by kernel_rfl) (by kernel_rfl) (by kernel_rfl) (fun _ _ _ h => h) (v := ?_) (Or.inl ⟨by rfl, ?_⟩) (by assumption) ?_
  rotate_left
  · intro w hSw; (try dsimp only at hSw); go_simp; first | done | (with_reducible rfl)
  simp only [Act.put, List.setIfInBounds_toArray, List.set_cons_zero, List.set_cons_succ]
  refine tk_dst (i := 2) (dst := some 14) rfl rfl (by kernel_rfl) (by kernel_rfl) (by kernel_rfl) (fun _ _ _ h => h) (v := ?_) (Or.inl ⟨by rfl, ?_⟩) (by assumption) ?_
  rotate_left
  · intro w hSw; (try dsimp only at hSw); go_simp; first | done | (with_reducible rfl)
  simp only [Act.put, List.setIfInBounds_toArray, List.set_cons_zero, List.set_cons_succ]
  refine tk_dst (i := 3) (dst := some 15) rfl rfl (by kernel_rfl) (by kernel_rfl) (by kernel_rfl) (fun _ _ _ h => h) (v := ?_) (Or.inl ⟨by rfl, ?_⟩) (by assumption) ?_
  rotate_left
  · intro w hSw; (try dsimp only at hSw); go_simp; first | done | (with_reducible rfl)
  simp only [Act.put, List.setIfInBounds_toArray, List.set_cons_zero, List.set_cons_succ]
  refine tk_dst (i := 4) (dst := some 16) rfl rfl (by kernel_rfl) (by kernel_rfl) (by kernel_rfl) (fun _ _ _ h => h) (v := ?_) (Or.inl ⟨by rfl, ?_⟩) (by assumption) ?_
  rotate_left
  · intro w hSw; (try dsimp only at hSw); go_simp; first | done | (with_reducible rfl)
  simp only [Act.put, List.setIfInBounds_toArray, List.set_cons_zero, List.set_cons_succ]
  refine wpAnyH_ready (rs := [5]) (by kernel_rfl) (by simp) ?_
  refine AllReadyH.cons rfl (fun K hK => ?_) AllReadyH.nil
  go_simp
  go_wp2_with ((go_at_call 5; refine (msame_any key (some ⟨gf, off, none⟩) mm cf l _ hrc2 (by omega) hf2 k0 k1).mono ?_; rintro e w3 ⟨rfl, hb3⟩; have hG3 := hG2.below hb3 hG2.lt; have hB3 := hB2.trans (hb3.mono hB2.size); have hrf3 := (hrf2.below hb3).more hb3.size; have hrA3 := (hrA2.below hb3).more hb3.size))
  refine hK.out _ _ (hG3.rangeAt) (fun hHeld => ?_)
  clear hK K
  refine tk_dst (i := 6) (dst := some 18) rfl rfl (by kernel_rfl) (by kernel_rfl) (by kernel_rfl) (fun _ _ _ h => h) (v := ?_) (Or.inl ⟨by rfl, ?_⟩) (by assumption) ?_
  rotate_left
  · intro w hSw; (try dsimp only at hSw); go_simp; first | done | (with_reducible rfl)
  simp only [Act.put, List.setIfInBounds_toArray, List.set_cons_zero, List.set_cons_succ]
  refine tk_dst (i := 7) (dst := some 19) rfl rfl (by kernel_rfl) (by kernel_rfl) (by kernel_rfl) (fun _ _ _ h => h) (v := ?_) ?_ (by assumption) ?_
  rotate_left
  · refine yl_any 29 ?ylx7 ?ylo7 ?ylb7 ?ylq7 ?ylp7 (m.l.map (Value.int .u8)) _ ?ylS7 Try.underlying29 rfl ?yli7 ?ylw7
    case ylo7 => rfl
    case ylp7 => rfl
    case ylS7 => intro w hSw; exact hSw
    case yli7 => exact a8_info
    case ylw7 => rfl
  simp only [Act.put, List.setIfInBounds_toArray, List.set_cons_zero, List.set_cons_succ]
  refine tk_dst (i := 10) (dst := some 22) rfl rfl (by kernel_rfl) (by kernel_rfl) (by kernel_rfl) (fun _ _ _ h => h) (v := ?_) ?_ (by assumption) ?_
  rotate_left
  · refine yl_any 29 ?ylx10 ?ylo10 ?ylb10 ?ylq10 ?ylp10 (m.l.map (Value.int .u8)) _ ?ylS10 Try.underlying29 rfl ?yli10 ?ylw10
    case ylo10 => rfl
    case ylp10 => rfl
    case ylS10 => intro w hSw; exact hSw
    case yli10 => exact a8_info
    case ylw10 => rfl
  simp only [Act.put, List.setIfInBounds_toArray, List.set_cons_zero, List.set_cons_succ]
  refine wpAnyH_ready (rs := [8]) (by kernel_rfl) (by simp) ?_
  refine AllReadyH.cons rfl (fun K hK => ?_) AllReadyH.nil
  go_simp
  go_wp2_with ((go_at_call 12; refine (HNU.out _).mono ?_; rintro e w4 ⟨rfl, hb4⟩; have hG4 := hG3.below hb4 hG3.lt; have hB4 := hB3.trans (hb4.mono hB3.size); have hrf4 := (hrf3.below hb4).more hb4.size; have hrA4 := (hrA3.below hb4).more hb4.size))
  refine hK.out _ _ (hG4.rangeAt) (fun hHeld => ?_)
  clear hK K
  refine wpAnyH_ready (rs := [9]) (by kernel_rfl) (by simp) ?_
  refine AllReadyH.cons rfl (fun K hK => ?_) AllReadyH.nil
  go_simp
  go_wp2_with ((go_at_call 11; refine (HBY.out _).mono ?_; rintro e w5 ⟨rfl, hb5⟩; have hG5 := hG4.below hb5 hG4.lt; have hB5 := hB4.trans (hb5.mono hB4.size); have hrf5 := (hrf4.below hb5).more hb5.size; have hrA5 := (hrA4.below hb5).more hb5.size))
  refine hK.out _ _ (hG5.rangeAt) (fun hHeld => ?_)
  clear hK K
  refine tk_dst (i := 11) (dst := some 23) rfl rfl (by kernel_rfl) (by kernel_rfl) (by kernel_rfl) (fun _ _ _ h => h) (v := .bool true) ?_ (by assumption) ?_
  · exact yl_eq8 _ _ _ rfl m m true (n8B_refl m) (by rfl) (by rfl) (by rfl)
  simp only [Act.put, List.setIfInBounds_toArray, List.set_cons_zero, List.set_cons_succ]
  refine tk_dst (i := 12) (dst := some 24) rfl rfl (by kernel_rfl) (by kernel_rfl) (by kernel_rfl) (fun _ _ _ h => h) (v := ?_) (Or.inl ⟨by rfl, ?_⟩) (by assumption) ?_
  rotate_left
  · intro w hSw; (try dsimp only at hSw); go_simp; first | done | (with_reducible rfl)
  simp only [Act.put, List.setIfInBounds_toArray, List.set_cons_zero, List.set_cons_succ]
  refine tk_dst (i := 13) (dst := some 25) rfl rfl (by kernel_rfl) (by kernel_rfl) (by kernel_rfl) (fun _ _ _ h => h) (v := ?_) (Or.inl ⟨by rfl, ?_⟩) (by assumption) ?_
  rotate_left
  · intro w hSw; (try dsimp only at hSw); go_simp; first | done | (with_reducible rfl)
  simp only [Act.put, List.setIfInBounds_toArray, List.set_cons_zero, List.set_cons_succ]
  refine tk_dst (i := 14) (dst := some 26) rfl rfl (by kernel_rfl) (by kernel_rfl) (by kernel_rfl) (fun _ _ _ h => h) (v := ?_) ?_ (by assumption) ?_
  rotate_left
  · refine yl_any 29 ?ylx14 ?ylo14 ?ylb14 ?ylq14 ?ylp14 (m.l.map (Value.int .u8)) _ ?ylS14 Try.underlying29 rfl ?yli14 ?ylw14
    case ylo14 => rfl
    case ylp14 => rfl
    case ylS14 => intro w hSw; exact hSw
    case yli14 => exact a8_info
    case ylw14 => rfl
  simp only [Act.put, List.setIfInBounds_toArray, List.set_cons_zero, List.set_cons_succ]
  refine tk_dst (i := 16) (dst := some 28) rfl rfl (by kernel_rfl) (by kernel_rfl) (by kernel_rfl) (fun _ _ _ h => h) (v := ?_) (Or.inl ⟨by rfl, ?_⟩) (by assumption) ?_
  rotate_left
  · intro w hSw; (try dsimp only at hSw); go_simp; first | done | (with_reducible rfl)
  simp only [Act.put, List.setIfInBounds_toArray, List.set_cons_zero, List.set_cons_succ]
  refine wpAnyH_ready (rs := [15]) (by kernel_rfl) (by simp) ?_
  refine AllReadyH.cons rfl (fun K hK => ?_) AllReadyH.nil
  go_simp
  go_wp2_with ((go_at_call 12; refine (HNU.out _).mono ?_; rintro e w6 ⟨rfl, hb6⟩; have hG6 := hG5.below hb6 hG5.lt; have hB6 := hB5.trans (hb6.mono hB5.size); have hrf6 := (hrf5.below hb6).more hb6.size; have hrA6 := (hrA5.below hb6).more hb6.size))
  refine hK.out _ _ (hG6.rangeAt) (fun hHeld => ?_)
  clear hK K
  refine wpAnyH_ready (rs := [17]) (by kernel_rfl) (by simp) ?_
  refine AllReadyH.cons rfl (fun K hK => ?_) AllReadyH.nil
  go_simp
  go_wp2_with ((go_at_call 13; refine (rnumber_any (some ⟨g, 0, none⟩) 8 8 m.l _ _ (hG6.rd8 hmb) (by omega) (by unfold maxLen; omega)).mono ?_; rw [HNV.out]; rintro e w' ⟨rfl, rfl⟩))
  refine hK.out _ _ (hG6.rangeAt) (fun hHeld => ?_)
  clear hK K
  refine tk_dst (i := 18) (dst := some 30) rfl rfl (by kernel_rfl) (by kernel_rfl) (by kernel_rfl) (fun _ _ _ h => h) (v := ?_) (Or.inl ⟨by rfl, ?_⟩) (by assumption) ?_
  rotate_left
  · intro w hSw; (try dsimp only at hSw); go_simp; first | done | (with_reducible rfl)
  simp only [Act.put, List.setIfInBounds_toArray, List.set_cons_zero, List.set_cons_succ]
  refine tk_dst (i := 19) (dst := some 31) rfl rfl (by kernel_rfl) (by kernel_rfl) (by kernel_rfl) (fun _ _ _ h => h) (v := ?_) (Or.inl ⟨by rfl, ?_⟩) (by assumption) ?_
  rotate_left
  · intro w hSw; (try dsimp only at hSw); go_simp; first | done | (with_reducible rfl)
  simp only [Act.put, List.setIfInBounds_toArray, List.set_cons_zero, List.set_cons_succ]
  refine tk_dst (i := 20) (dst := some 32) rfl rfl (by kernel_rfl) (by kernel_rfl) (by kernel_rfl) (fun _ _ _ h => h) (v := ?_) (Or.inl ⟨by rfl, ?_⟩) (by assumption) ?_
  rotate_left
  · intro w hSw; (try dsimp only at hSw); go_simp; first | done | (with_reducible rfl)
  simp only [Act.put, List.setIfInBounds_toArray, List.set_cons_zero, List.set_cons_succ]
  refine tk_dst (i := 21) (dst := some 33) rfl rfl (by kernel_rfl) (by kernel_rfl) (by kernel_rfl) (fun _ _ _ h => h) (v := ?_) (Or.inl ⟨by rfl, ?_⟩) (by assumption) ?_
  rotate_left
  · intro w hSw; (try dsimp only at hSw); go_simp; first | done | (with_reducible rfl)
  simp only [Act.put, List.setIfInBounds_toArray, List.set_cons_zero, List.set_cons_succ]
  refine tk_dst (i := 22) (dst := some 34) rfl rfl (by kernel_rfl) (by kernel_rfl) (by kernel_rfl) (fun _ _ _ h => h) (v := ?_) (Or.inl ⟨by rfl, ?_⟩) (by assumption) ?_
  rotate_left
  · intro w hSw; (try dsimp only at hSw); go_simp; first | done | (with_reducible rfl)
  simp only [Act.put, List.setIfInBounds_toArray, List.set_cons_zero, List.set_cons_succ]
  refine wpAnyH_ready (rs := [23]) (by kernel_rfl) (by simp) ?_
  refine AllReadyH.cons rfl (fun K hK => ?_) AllReadyH.nil
  go_simp
  go_wp2_with ((go_at_call 14; refine (intact_any (some ⟨gf, off, none⟩) A mm cf c l 165 _ _ _ hrf6 hrA6 hf1 hf2 (by omega)).mono ?_; rintro e w7 ⟨rfl, d, rfl⟩))
  refine hK.out _ _ (hG6.drewN d |>.rangeAt) (fun hHeld => ?_)
  clear hK K
  refine tk_dst (i := 24) (dst := some 36) rfl rfl (by kernel_rfl) (by kernel_rfl) (by kernel_rfl) (fun _ _ _ h => h) (v := ?_) (Or.inl ⟨by rfl, ?_⟩) (by assumption) ?_
  rotate_left
  · intro w hSw; (try dsimp only at hSw); go_simp; first | done | (with_reducible rfl)
  simp only [Act.put, List.setIfInBounds_toArray, List.set_cons_zero, List.set_cons_succ]
  refine tk_dst (i := 25) (dst := some 37) rfl rfl (by kernel_rfl) (by kernel_rfl) (by kernel_rfl) (fun _ _ _ h => h) (v := ?_) (Or.inl ⟨by rfl, ?_⟩) (by assumption) ?_
  rotate_left
  · intro w hSw; (try dsimp only at hSw); go_simp; first | done | (with_reducible rfl)
  simp only [Act.put, List.setIfInBounds_toArray, List.set_cons_zero, List.set_cons_succ]
  refine wpAnyH_ready (rs := [26]) (by kernel_rfl) (by simp) ?_
  refine AllReadyH.cons rfl (fun K hK => ?_) AllReadyH.nil
  go_simp
  go_wp2_with ((go_at_call 8; refine (mknown_any _).mono ?_; rintro e w8 ⟨rfl, hb8⟩; have hB7 := belowN hB6 d; have hG8 := (hG6.drewN d).below hb8 (hG6.drewN d).lt; have hB8 := hB7.trans (hb8.mono hB7.size)))
  refine hK.out _ _ (hG8.rangeAt) (fun hHeld => ?_)
  clear hK K
  refine tk_dst (i := 27) (dst := some 39) rfl rfl (by kernel_rfl) (by kernel_rfl) (by kernel_rfl) (fun _ _ _ h => h) (v := ?_) (Or.inl ⟨by rfl, ?_⟩) (by assumption) ?_
  rotate_left
  · intro w hSw; (try dsimp only at hSw); go_simp; first | done | (with_reducible rfl)
  simp only [Act.put, List.setIfInBounds_toArray, List.set_cons_zero, List.set_cons_succ]
  refine tk_dst (i := 28) (dst := some 6) rfl rfl (by kernel_rfl) (by kernel_rfl) (by kernel_rfl) (fun _ _ _ h => h) (v := ?_) (Or.inl ⟨by rfl, ?_⟩) (by assumption) ?_
  rotate_left
  · intro w hSw; (try dsimp only at hSw); go_simp; first | done | (with_reducible rfl)
  simp only [Act.put, List.setIfInBounds_toArray, List.set_cons_zero, List.set_cons_succ]
  refine wpAnyH_done (by kernel_rfl) ?_ _
  go_wp2_with fail
  go_ret
  exact ⟨rfl, hB8⟩
theorem mtells_law (a : Int) (A : Option Addr) (n c : Nat) (bs : List Int) (m : N8) (w : World) (w0 : (Lit.int .u64 a).wf = true) (w1 : InRow w A n c bs) (w2 : Byt m.l) :
    Calls Try.prog 4 #[.int .u64 a, .slice A n c, m.v] w fun e w' => e = .returned (.bool true) ∧ Below w.heap.size w w' := by
  have h0 := bounds_u64 w0
  exact mtells_walk a A n c bs m w h0.1 (by omega) w1 w2
end Go.Proofs.Ytmpllhcgimablaa
