/-
  ParamBack: what was written is read; beginnings of it are not.
-/
import Derived.Test.YthpcfcnkpipmnaaPu
import Derived.Test.YthpcfcnkpipmnaaPz
namespace Go.Proofs.Ythpcfcnkpipmnaa
set_option linter.unusedVariables false
set_option linter.unusedSimpArgs false
open Go.RowKit Go.ChangeShapes Go.WideShapes Go.Deep
theorem penc_len (p : PN) : 0 < (pencS p).length ∧ (pencS p).length ≤ 200 := by
  have N1 := numB_le 1 p.i
  have N2 := numB_le 4 p.d
  have N3 := numB_le 5 p.s
  have N4 := numB_le 8 p.m
  have N5 : (putS 0 ++ textB p.c.l).length = 10 := rfl
  unfold pencS
  rw [List.length_append (bs := putS 0 ++ textB p.c.l), N5]
  simp only [List.length_append]
  omega
set_option maxRecDepth 100000 in
set_option maxHeartbeats 2000000 in
theorem pback_law (a b c d n cut : Int) (w : World) (ha : (Lit.int .u64 a).wf = true) (hb : (Lit.int .u64 b).wf = true) (hc : (Lit.int .u64 c).wf = true) (hd : (Lit.int .u64 d).wf = true) (hn : (Lit.int .i64 n).wf = true) (hcut : (Lit.int .i64 cut).wf = true) :
    Calls Try.prog 5 #[.int .u64 a, .int .u64 b, .int .u64 c, .int .u64 d, .int .i64 n, .int .i64 cut] w fun e w'' => e = .returned (.bool true) ∧ Below w.heap.size w w'' := by
  have ba := bounds_u64 ha
  have bb := bounds_u64 hb
  have bc := bounds_u64 hc
  have bd := bounds_u64 hd
  have bn := bounds_i64 hn
  have bk := bounds_i64 hcut
  have hkp := Lib.hid (kparams_any a b c d n w (by omega) (by omega) (by omega) (by omega) bn.1 bn.2)
  have hwf := kpS_wf a b c d n
  have hrt := kpS_right a b c d n
  obtain ⟨p, hp⟩ : ∃ x, kpS a b c d n = x := ⟨_, rfl⟩
  rw [hp] at hkp hwf hrt
  obtain ⟨l1, l2⟩ := penc_len p
  have hen := fun W => penc_yes p W hwf hrt
  have hdy := dec_enc p hwf hrt
  have hdn := dec_enc_cut p hwf hrt
  have hrf := fun W => run_pm W p
  obtain ⟨E, hE⟩ : ∃ x, pencS p = x := ⟨_, rfl⟩
  rw [hE] at l1 l2 hen hdy hdn
  obtain ⟨N, hN⟩ : ∃ x, E.length = x := ⟨_, rfl⟩
  rw [hN] at l1 l2 hdn
  obtain ⟨L, hL⟩ : ∃ L, pmL p = L := ⟨_, rfl⟩
  have hLl : L.length = 12 := by rw [← hL]; rfl
  have hLo : L.all (·.oneCell') = true := by rw [← hL]; rfl
  have hLv : pmV p = .agg L.toArray := by rw [← hL]; rfl
  have hpd : ∀ (W : World) (A : Option Addr) (c' : Nat), Rd W W.heap.size A N E → (A = none → c' = 0) → Calls Try.prog 16 #[.slice A N c'] W fun e w' => e = .returned (.tuple #[pmV p, .int .i64 0]) ∧ Below W.heap.size W w' := by
    intro W A c' hr hA
    refine (pdec_any A N c' E W hr (by omega) hA).mono ?_
    intro e w' h
    unfold PdecPost at h
    rw [hdy] at h
    exact h
  have hpn : ∀ (W : World) (A : Option Addr) (c' k : Nat), k < N → Rd W W.heap.size A N E → (A = none → c' = 0) → Calls Try.prog 16 #[.slice A k c'] W fun e w' => e = .returned (.tuple #[pmV .zero, .int .i64 12]) ∧ Below W.heap.size W w' := by
    intro W A c' k hk hr hA
    refine (pdec_any A k c' (E.take k) W (hr.cut (by omega)) (by omega) hA).mono ?_
    intro e w' h
    unfold PdecPost at h
    rw [hdn k hk] at h
    exact h
  rw [hLv] at hkp hen hrf hpd
  have hwb := withinS_bd cut 0 ((N : Int) - 1) (by omega)
  have hwi := fun W => within_any cut 0 ((N : Int) - 1) W bk.1 bk.2 (by omega) (by omega) (by omega)
  obtain ⟨k, hk⟩ : ∃ k : Nat, withinS cut 0 ((N : Int) - 1) = (k : Int) := ⟨(withinS cut 0 ((N : Int) - 1)).toNat, by omega⟩
  rw [hk] at hwb hwi
  have hkN : k < N := by omega
  have HLl := Lib.hid hLl
  have HLo := Lib.hid hLo
  have HEN := Lib.hid hen
  have HRF := Lib.hid hrf
  have HPD := Lib.hid hpd
  have HPN := Lib.hid hpn
  have HWI := Lib.hid hwi
  have HN := Lib.hid hN
  clear hp hE hN hL hLl hLo hLv hen hrf hpd hpn hwi hk hdy hdn hwf hrt ba bb bc bd bn bk ha hb hc hd hn hcut
  have hnz : ((N : Int) == 0) = false := by simp; omega
  go_enter Try.func5, Try.ntmps5
  go_wp2_with fail
  refine (hkp.out).mono ?_
  rintro e w1 ⟨rfl, hb1⟩
  have hA2 := At.new w1 26 L
  have hB2 := hb1.alloc hb1.size (.cells L.toArray 26)
  obtain ⟨w2, hw2⟩ : ∃ x, w1.alloc (.cells L.toArray 26) = x := ⟨_, rfl⟩
  rw [hw2] at hA2 hB2
  obtain ⟨g1, hg1⟩ : ∃ x, w1.heap.size = x := ⟨_, rfl⟩
  have hg1b : w.heap.size ≤ g1 := by rw [← hg1]; exact hb1.size
  rw [hg1] at hA2
  clear hb1 hkp
  go_wp2_with (first | ((with_reducible refine at_stp (x := .tmp 13) ?_); refine wpList_store_top w1 26 (pmL .zero) L (by rfl) _ (by rfl) hg1.symm (by rfl) (by rw [HLl.out]; rfl) (by rw [HLl.out]; exact pm_info) HLo.out ?_; rw [hw2]; clear hw2) | ((with_reducible refine at_ldp (x := .tmp 13) ?_); refine ld_pm_g (by rfl) g1 0 L (by rfl) hA2.rangeAt HLl.out ?_) | fail)
  refine (HEN.out _).mono ?_
  rintro e w3 ⟨v3, rfl, hown, hb3⟩
  obtain ⟨A3, c3, rfl, hc3, hm3, hr3⟩ := hown.open_n N HN.out
  obtain ⟨bk3, off3, rfl, _, _⟩ := hr3.2.2 (by omega)
  have hA3 := hA2.below hb3 hA2.lt
  have hB3 := hB2.trans (hb3.mono hB2.size)
  clear hA2 hB2 hb3 hown
  go_wp2_with fail
  refine (HPD.out _ _ _ hr3 (fun h => by cases h)).mono ?_
  rintro e w4 ⟨rfl, hb4⟩
  have hA4 := hA3.below hb4 hA3.lt
  have hB4 := hB3.trans (hb4.mono hB3.size)
  have hr4 := (hr3.below hb4).more hb4.size
  have hA5 := hA4.alloc (.cells L.toArray 26)
  have hC5 := At.new w4 26 L
  have hB5 := hB4.alloc hB4.size (.cells L.toArray 26)
  have hr5 := (hr4.alloc (Nat.le_refl _) (.cells L.toArray 26)).more (show w4.heap.size ≤ (w4.alloc (.cells L.toArray 26)).heap.size by simp)
  obtain ⟨w5, hw5⟩ : ∃ x, w4.alloc (.cells L.toArray 26) = x := ⟨_, rfl⟩
  rw [hw5] at hA5 hC5 hB5 hr5
  obtain ⟨g4, hg4⟩ : ∃ x, w4.heap.size = x := ⟨_, rfl⟩
  rw [hg4] at hC5
  have hrun := Lib.hid (HRF.out w5)
  clear hA3 hB3 hr3 hb4 hA4 hB4 hr4
  have hm3' := hm3
  unfold maxLen at hm3'
  go_wp2_with (first | ((with_reducible refine at_stp (x := .tmp 16) ?_); refine wpList_store_top w4 26 (pmL .zero) L (by rfl) _ (by rfl) hg4.symm (by rfl) (by rw [HLl.out]; rfl) (by rw [HLl.out]; exact pm_info) HLo.out ?_; rw [hw5]; clear hw5) | ((with_reducible refine at_ldp (x := .tmp 16) ?_); refine ld_pm_g (by rfl) g4 0 L (by rfl) hC5.rangeAt HLl.out ?_) | ((with_reducible refine at_ldp (x := .tmp 13) ?_); refine ld_pm_g (by rfl) g1 0 L (by rfl) hA5.rangeAt HLl.out ?_) | ((with_reducible refine at_nep ?_); refine wpList_neq_agg (by rfl) _ _ _ _ rfl L.toArray L.toArray (by rfl) (by rfl) pm_guard true hrun.out ?_) | fail)
  refine (HWI.out _).mono ?_
  rintro e w6 ⟨rfl, rfl⟩
  go_wp2_with fail
  refine (HPN.out _ _ _ k hkN hr5 (fun h => by cases h)).mono ?_
  rintro e w6 ⟨rfl, hb6⟩
  have hB6 := hB5.trans (hb6.mono hB5.size)
  have hB7 := hB6.alloc hB6.size (.cells (pmL .zero).toArray 26)
  obtain ⟨w7, hw7⟩ : ∃ x, w6.alloc (.cells (pmL .zero).toArray 26) = x := ⟨_, rfl⟩
  rw [hw7] at hB7
  go_wp2_with (first | ((with_reducible refine at_stp (x := .tmp 18) ?_); refine wpList_store_top w6 26 (pmL .zero) (pmL .zero) (by rfl) _ (by rfl) (by rfl) (by rfl) (by rfl) pm_info (by rfl) ?_; rw [hw7]; clear hw7) | fail)
  refine (paknown_any _).mono ?_
  rintro e w8 ⟨rfl, hb8⟩
  go_wp2_with fail
  go_ret
  exact ⟨rfl, hB7.trans (hb8.mono hB7.size)⟩
end Go.Proofs.Ythpcfcnkpipmnaa
