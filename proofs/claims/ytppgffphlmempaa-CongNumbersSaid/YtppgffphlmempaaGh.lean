/-
  CongGrows: its walk.
-/
import Derived.Test.YtppgffphlmempaaGe
import Derived.Test.YtppgffphlmempaaInN
import Derived.Test.YtppgffphlmempaaRefInts
namespace Go.Proofs.Ytppgffphlmempaa
set_option linter.unusedVariables false
set_option linter.unusedSimpArgs false
open Go.RowKit Go.ChangeShapes Go.WideShapes Go.Deep
theorem ack_slow (z n i : Int) (h0 : 5120 ≤ z) (h1 : z ≤ 100000) (hn0 : 0 ≤ n) (hn1 : n ≤ 512) (hi : 0 ≤ i) : ackS ⟨z, 1073741824, -1⟩ n i = ⟨z + n, 1073741824, -1⟩ := by
  unfold ackS moreS clN
  rw [if_neg (by simp only; omega), if_pos (by simp only; omega)]
  congr 1
  simp only
  omega
theorem div_bd (H z : Int) (h0 : 2560 ≤ H) (hz : H ≤ z) (hz1 : z ≤ 20000) : 0 < 262144 / z ∧ 262144 / z ≤ 262144 / H := by
  constructor
  · have : (1 : Int) ≤ 262144 / z := (Int.le_ediv_iff_mul_le (by omega)).2 (by omega)
    omega
  · refine (Int.le_ediv_iff_mul_le (by omega)).2 ?_
    have h1 : 262144 / z * z ≤ 262144 := Int.ediv_mul_le _ (by omega)
    have h2 : 0 ≤ 262144 / z := Int.ediv_nonneg (by omega) (by omega)
    have h3 := Int.mul_le_mul_of_nonneg_left hz h2
    omega
theorem gr_jq (H j : Int) (h0 : 2560 ≤ H) (hj0 : 0 ≤ j) (hj : 512 * j ≤ H + 511) : j * (262144 / H) ≤ 620 := by
  have hq0 : 0 ≤ 262144 / H := Int.ediv_nonneg (by omega) (by omega)
  have h1 : 262144 / H * H ≤ 262144 := Int.ediv_mul_le _ (by omega)
  obtain ⟨q, hq⟩ : ∃ q, 262144 / H = q := ⟨_, rfl⟩
  rw [hq] at hq0 h1 ⊢
  have h2 := Int.mul_le_mul_of_nonneg_left h0 hq0
  have h3 := Int.mul_le_mul_of_nonneg_right hj hq0
  have e3 : 512 * j * q = 512 * (j * q) := Int.mul_assoc _ _ _
  have e4 : (H + 511) * q = q * H + 511 * q := by rw [Int.add_mul, Int.mul_comm H]
  rw [e3, e4] at h3
  obtain ⟨r, hr⟩ : ∃ r, j * q = r := ⟨_, rfl⟩
  rw [hr] at h3 ⊢
  obtain ⟨m, hm⟩ : ∃ m, q * H = m := ⟨_, rfl⟩
  rw [hm] at h3 h1 h2
  omega
/-- A window behind a loss, so many datagrams later. -/
structure Gr (H : Int) (j : Nat) (z : Int) : Prop where
  lo : H ≤ z
  hi : z ≤ H + j * (262144 / H)
  up : 0 < j → H < z
theorem Gr.next {H z : Int} {j : Nat} (h : Gr H j z) (h0 : 2560 ≤ H) (h1 : H ≤ 16000) (hj : 512 * (j : Int) < H) : Gr H (j + 1) (z + 262144 / z) ∧ z ≤ 20000 := by
  have hb := gr_jq H j h0 (by omega) (by omega)
  have hz : z ≤ 20000 := by have := h.hi; omega
  have hd := div_bd H z h0 h.lo hz
  have hlo := h.lo
  have hhi := h.hi
  have e : ((j + 1 : Nat) : Int) * (262144 / H) = j * (262144 / H) + 262144 / H := by
    rw [Int.natCast_add, Int.add_mul]
    simp
  exact ⟨⟨by omega, by rw [e]; omega, fun _ => by omega⟩, hz⟩
theorem ack_fast (z H y : Int) (h0 : 2560 ≤ H) (hz : H ≤ z) (hz1 : z ≤ 20000) : ackS ⟨z, H, y⟩ 512 (y + 1) = ⟨z + 262144 / z, H, y⟩ := by
  have hd := div_bd z z (by omega) (Int.le_refl _) hz1
  have hd2 : 262144 / z ≤ 512 := by
    have := moreS_bd (s := ⟨z, 1024, 0⟩) ⟨by simp only; omega, by simp only; omega, by simp only; omega, by simp only; omega⟩ 512
    unfold moreS clN at this
    rw [if_neg (by simp only; omega)] at this
    rw [show (512 : Int) * min (max 512 0) 512 = 262144 by decide] at this
    exact this.2
  unfold ackS moreS clN
  rw [if_neg (by simp only; omega), if_neg (by simp only; omega)]
  have e : (512 : Int) * min (max 512 0) 512 = 262144 := by decide
  simp only [e]
  congr 1
  omega
theorem lost_half (z y : Int) (h0 : 5120 ≤ z) (hy : 100 ≤ y) : lostS ⟨z, 1073741824, -1⟩ (y - 1) y = ⟨z / 2, z / 2, y⟩ := by
  unfold lostS
  rw [if_neg (by simp only; omega)]
  have e : max (z / 2) 1024 = z / 2 := by omega
  simp only [e]
theorem ack_none (z H y : Int) : ackS ⟨z, H, y⟩ 512 y = ⟨z, H, y⟩ := by
  unfold ackS
  rw [if_pos (by simp only; omega)]
set_option maxRecDepth 100000 in
set_option maxHeartbeats 8000000 in
theorem ggrows_law (A : Option Addr) (n c : Nat) (xs : List Int) (k : Int) (w : World) (hu : InN w A n xs) (hnc : n ≤ c) (hcm : c ≤ maxLen) (hc8 : c * 8 ≤ 140737488351232) (hk : (Lit.int .i64 k).wf = true) :
    Calls Try.prog 6 #[.slice A n c, .int .i64 k] w fun e w' => e = .returned (.bool true) ∧ Below w.heap.size w w' := by
  have hkb := bounds_i64 hk
  have HU := Lib.hid hu
  unfold maxLen at hcm
  have hyb := withinS_bd k 100 1000 (by decide)
  have HW := Lib.hid (fun W => within_any k 100 1000 W hkb.1 hkb.2 (by decide) (by decide) (by decide))
  obtain ⟨y, hy⟩ : ∃ y, withinS k 100 1000 = y := ⟨_, rfl⟩
  rw [hy] at HW hyb
  obtain ⟨hy0, hy1⟩ := hyb
  clear hu hk hkb hy
  go_enter Try.func6, Try.ntmps6
  go_wp2_with (go_at_call 7; refine (gnew_any _).mono ?_; rintro e w1 ⟨rfl, hA1, hB1⟩)
  obtain ⟨p, hp⟩ : ∃ p, w.heap.size = p := ⟨_, rfl⟩
  rw [hp] at hA1 ⊢
  have HT : Hid (Og w w1 p ⟨5120, 1073741824, -1⟩) := Lib.hid ⟨cs0_ok, hA1, hB1, Nat.le_of_eq hp⟩
  clear hp hA1 hB1
  have HSZ := Lib.hid (fun (s : CS) (W : World) (a : At W p 36 s.l) => gsize_any a)
  go_wp2
  go_loopg [6, 7, 8] 50 (fun kx s6 s7 s8 wr => ∃ (i : Nat) (z : Int), s6 = .int .i64 z ∧ s7 = .int .i64 i ∧ i ≤ n ∧ i ≤ 50 ∧ 50 - i ≤ kx ∧ 5120 ≤ z ∧ z ≤ 5120 + 512 * i ∧ Hid (Og w wr p ⟨z, 1073741824, -1⟩))
  case atStart => exact ⟨0, _, rfl, rfl, Nat.zero_le _, by omega, by omega, by omega, by omega, HT⟩
  case round =>
    clear HT
    obtain ⟨i, z, rfl, rfl, hin, hi50, hkx, hz0, hz1, hT⟩ := hrel
    by_cases hgo : i < n ∧ i < 50
    · obtain ⟨g1, g2⟩ := hgo
      obtain ⟨b, off, rfl, hb, hc⟩ := (HU.out.below hT.out.bl).at_ (by omega)
      obtain ⟨x, hx⟩ : ∃ x, xs[i]? = some x := ⟨_, List.getElem?_eq_getElem (by rw [HU.out.len]; exact g1)⟩
      have hxb := HU.out.wd x (List.mem_of_getElem? hx)
      have cx := hc i x hx
      clear hc hb hx
      have hiz : (i : Int) < (n : Int) := by omega
      have hi6 : (i : Int) < 50 := by omega
      obtain ⟨hm0, hm1⟩ := withinS_bd x 0 512 (by decide)
      have HWX := Lib.hid (fun W => within_any x 0 512 W hxb.1 (by omega) (by decide) (by decide) (by decide))
      obtain ⟨m, hm⟩ : ∃ m, withinS x 0 512 = m := ⟨_, rfl⟩
      rw [hm] at HWX hm0 hm1
      clear hm
      have HL := Lib.hid (fun (W : World) (a : Og w W p ⟨z, 1073741824, -1⟩) => gack_any a.ap a.ok m i (by omega))
      have HN := Lib.hid (fun (w1 w2 : World) (h : Og w w1 p ⟨z, 1073741824, -1⟩) a k => (Og.next (w1 := w2) h (ackS_ok hT.out.ok m i) a k))
      rw [ack_slow z m i hz0 (by omega) hm0 hm1 (by omega)] at HL HN
      have HSZ2 := Lib.hid (fun (W : World) (a : At W p 36 (CS.l ⟨z + m, 1073741824, -1⟩)) => gsize_any a)
      simp only at HSZ2
      go_wp2_with (first
        | (go_at_call 12; refine (HWX.out _).mono ?_; rintro e w6 ⟨rfl, rfl⟩)
        | (go_at_call 8; (with_reducible refine (HL.out _ hT.out).mono ?_); rintro e w3 ⟨rfl, hA3, hk3⟩; have H3 := Lib.hid (HN.out _ _ hT.out hA3 hk3); clear hA3 hk3)
        | (go_at_call 9; (with_reducible refine (HSZ2.out _ H3.out.ap).mono ?_); rintro e w5 ⟨rfl, rfl⟩))
      go_roundg (50 - (i + 1))
      case measure => omega
      case rel => exact ⟨i + 1, _, rfl, by simp, by omega, by omega, by omega, by omega, by omega, H3⟩
    · have hgo2 : (i = n ∧ ¬ (i : Int) < (n : Int)) ∨ ((50 : Int) < (n : Int) ∧ i = 50) := by omega
      clear hgo
      have hzt : z ≤ 30720 := by omega
      have HL := Lib.hid (fun (W : World) (a : Og w W p ⟨z, 1073741824, -1⟩) => glost_any a.ap a.ok (y - 1) y)
      have HN := Lib.hid (fun (w1 w2 : World) (h : Og w w1 p ⟨z, 1073741824, -1⟩) a k => (Og.next (w1 := w2) h (lostS_ok hT.out.ok (y - 1) y) a k))
      rw [lost_half z y hz0 hy0] at HL HN
      obtain ⟨H, hH⟩ : ∃ H, z / 2 = H := ⟨_, rfl⟩
      rw [hH] at HL HN
      have hH0 : 2560 ≤ H := by omega
      have hH1 : H ≤ 15360 := by omega
      have hq : (if z / 2 < 1024 then 1024 else z / 2) = H := by rw [hH, if_neg (by omega)]
      have HSH := Lib.hid (fun (W : World) (a : At W p 36 (CS.l ⟨H, H, y⟩)) => And.intro (gsize_any a) (gslow_any a))
      simp only [Int.lt_irrefl, decide_false] at HSH
      have HA2 := Lib.hid (fun (W : World) (a : Og w W p ⟨H, H, y⟩) => gack_any a.ap a.ok 512 y (by decide))
      rw [ack_none] at HA2
      have HN2 := Lib.hid (fun (w1 w2 : World) (h : Og w w1 p ⟨H, H, y⟩) a k => (Og.next (w1 := w2) h h.ok a k))
      have HA3 := Lib.hid (fun (z2 : Int) (W : World) (a : Og w W p ⟨z2, H, y⟩) => gack_any a.ap a.ok 512 (y + 1) (by decide))
      have HN3 := Lib.hid (fun (z2 : Int) (w1 w2 : World) (h : Og w w1 p ⟨z2, H, y⟩) a k => (Og.next (w1 := w2) h (ackS_ok h.ok 512 (y + 1)) a k))
      rcases hgo2 with ⟨rfl, hgo2⟩ | ⟨hgo2, rfl⟩
      all_goals
        go_wp2_with (first
          | (go_at_call 12; refine (HW.out _).mono ?_; rintro e w6 ⟨rfl, rfl⟩)
          | (go_at_call 13; (with_reducible refine (HL.out _ hT.out).mono ?_); rintro e w3 ⟨rfl, hA3, hk3⟩; have H3 := Lib.hid (HN.out _ _ hT.out hA3 hk3); clear hA3 hk3)
          | (go_at_call 8; (with_reducible refine (HA2.out _ H3.out).mono ?_); rintro e w4 ⟨rfl, hA4, hk4⟩; have H4 := Lib.hid (HN2.out _ _ H3.out hA4 hk4); clear hA4 hk4)
          | (go_at_call 9; (with_reducible refine (HSH.out _ H3.out.ap).1.mono ?_); rintro e w5 ⟨rfl, rfl⟩)
          | (go_at_call 9; (with_reducible refine (HSH.out _ H4.out.ap).1.mono ?_); rintro e w5 ⟨rfl, rfl⟩)
          | (go_at_call 15; (with_reducible refine (HSH.out _ H4.out.ap).2.mono ?_); rintro e w5 ⟨rfl, d5, rfl⟩))
        have H5 := Lib.hid (H4.out.drewN d5)
        go_loopg [11] 31 (fun kx s11 wr2 => ∃ (j : Nat) (z2 : Int), s11 = .int .i64 (512 * (j : Int)) ∧ 31 - j ≤ kx ∧ 512 * (j : Int) < H + 512 ∧ Hid (Gr H j z2) ∧ Hid (Og w wr2 p ⟨z2, H, y⟩))
        case atStart => exact ⟨0, H, rfl, by omega, by omega, Lib.hid ⟨Int.le_refl _, by simp, fun h => absurd h (by omega)⟩, H5⟩
        case round =>
          clear H5
          obtain ⟨j, z2, rfl, hkx2, hj, hG, hO⟩ := hrel
          by_cases hjh : 512 * (j : Int) < H
          · have hN := hG.out.next hH0 (by omega) hjh
            have HG := Lib.hid hN.1
            have HX2 := Lib.hid (HA3.out z2 _ hO.out)
            have HX3 := Lib.hid (HN3.out z2)
            rw [ack_fast z2 H y hH0 hG.out.lo hN.2] at HX2 HX3
            clear hN
            go_wp2_with (go_at_call 8; (with_reducible refine HX2.out.mono ?_); rintro e w7 ⟨rfl, hA7, hk7⟩; have H7 := Lib.hid (HX3.out _ _ hO.out hA7 hk7); clear hA7 hk7)
            go_roundg (31 - (j + 1))
            case measure => omega
            case rel => exact ⟨j + 1, _, by congr 1, by omega, by omega, HG, H7⟩
          · have hb1 : j * (262144 / H) ≤ 620 := gr_jq H j hH0 (by omega) (by omega)
            have hz2a : H < z2 := hG.out.up (by omega)
            have hz2b : z2 ≤ H + 1024 := by have := hG.out.hi; omega
            have HSZ3 := Lib.hid (HSZ.out _ _ hO.out.ap)
            simp only at HSZ3
            have HK := Lib.hid (fun W => gknown_any W)
            clear hb1
            go_wp2_with (first
              | (go_at_call 9; (with_reducible refine HSZ3.out.mono ?_); rintro e w8 ⟨rfl, rfl⟩)
              | (go_at_call 11; refine (HK.out _).mono ?_; rintro e w9 ⟨rfl, hB9⟩))
            go_ret
            exact ⟨rfl, hO.out.bl.trans (hB9.mono hO.out.bl.size)⟩
end Go.Proofs.Ytppgffphlmempaa
