/-
  BitsSigns returns true at every pair of numbers: its walk.
-/
import Derived.Test.YtpegfmgbmfoiaaaKnown
namespace Go.Proofs.Ytpegfmgbmfoiaaa
set_option linter.unusedVariables false
open Go.RowKit
theorem emod_pow64 (c : Int) (K : Nat) (hK : K ≤ 64) : c % 18446744073709551616 % 2 ^ K = c % 2 ^ K := by
  apply Int.emod_emod_of_dvd
  rw [← p64]
  exact ⟨2 ^ (64 - K), by rw [← Int.pow_add]; congr 1; omega⟩
theorem pow_half (K : Nat) (h : 1 ≤ K) : (2 : Int) ^ K = 2 ^ (K - 1) * 2 := by rw [← Int.pow_succ]; congr 1; omega
theorem sign_back (c : Int) (K : Nat) (hK : 1 ≤ K) (h0 : -(2 ^ (K - 1)) ≤ c) (h1 : c < 2 ^ (K - 1)) : signS c K = c := by
  unfold signS
  have hh := pow_half K hK
  have hp := pow_pos' (K - 1)
  rcases Int.lt_or_le c 0 with h | h
  · have e : c % 2 ^ K = c + 2 ^ K := by
      rw [← Int.add_emod_right, Int.emod_eq_of_lt (by omega) (by omega)]
    rw [e, if_neg (by omega)]; omega
  · rw [Int.emod_eq_of_lt h (by omega), if_pos h1]
theorem sign_low (c J : Int) (h1 : 1 ≤ J) (h64 : J ≤ 64) (hc0 : -(2 ^ (J.toNat - 1)) ≤ c) (hc1 : c < 2 ^ (J.toNat - 1)) : extS (lowS (IntKind.u64.wrap c) J) J = c := by
  have hs := sign_back c J.toNat (by omega) hc0 hc1
  rw [extS, if_neg (by omega), show min J 64 = J by omega]
  have e : lowS (IntKind.u64.wrap c) J % 2 ^ J.toNat = c % 2 ^ J.toNat := by
    rw [lowS, if_neg (by omega), IntKind.wrap_u64]
    split
    · exact emod_pow64 c _ (by omega)
    · rw [Int.emod_emod_of_dvd _ (Int.dvd_refl _)]; exact emod_pow64 c _ (by omega)
  unfold signS at hs ⊢
  rw [e]; exact hs
theorem clampS_eq (n J : Int) (h1 : 1 ≤ J) (h64 : J ≤ 64) : clampS n J = max (-(2 ^ (J.toNat - 1))) (min n (2 ^ (J.toNat - 1) - 1)) := by
  unfold clampS; rw [show (min (max J 1) 64).toNat = J.toNat by omega]
theorem pow_le62 {a : Nat} (h : a ≤ 62) : (2 : Int) ^ a ≤ 4611686018427387904 := by
  have h1 : (2 : Nat) ^ a ≤ 2 ^ 62 := Nat.pow_le_pow_right (by decide) h
  have h2 : ((2 : Int) ^ a) = ((2 ^ a : Nat) : Int) := by simp
  rw [h2]; omega
set_option maxRecDepth 100000 in
set_option maxHeartbeats 2000000 in
theorem signs_walk (n k : Int) (w0 : (Lit.int .i64 n).wf = true) (w1 : (Lit.int .i64 k).wf = true) (w : World) :
    Calls Try.prog 6 #[.int .i64 n, .int .i64 k] w fun e w' => e = .returned (.bool true) ∧ Below w.heap.size w w' := by
  obtain ⟨hn0, hn1⟩ := bounds_i64 w0
  obtain ⟨hk0, hk1⟩ := bounds_i64 w1
  clear w0 w1
  obtain ⟨hJ1, hJ2⟩ := withinS_bd k 1 64 (by omega)
  obtain ⟨J, hJ⟩ : ∃ J, withinS k 1 64 = J := ⟨_, rfl⟩
  rw [hJ] at hJ1 hJ2
  have WJ := Lib.hid hJ; clear hJ
  have hcd := clampS_eq n J hJ1 hJ2
  have hp := pow_pos' (J.toNat - 1)
  have hc0 : -(2 ^ (J.toNat - 1)) ≤ clampS n J := by rw [hcd]; omega
  have hc1 : clampS n J < 2 ^ (J.toNat - 1) := by rw [hcd]; omega
  have hsl := sign_low _ J hJ1 hJ2 hc0 hc1
  have hcc : clampS (clampS n J) J = clampS n J := by
    have := clampS_eq (clampS n J) J hJ1 hJ2
    rw [this]; omega
  have hcn : -9223372036854775808 ≤ clampS n J ∧ clampS n J ≤ 9223372036854775807 := by
    have := pow_le64 (a := J.toNat - 1) (by omega)
    omega
  obtain ⟨c, hc⟩ : ∃ c, clampS n J = c := ⟨_, rfl⟩
  rw [hc] at hcd hc0 hc1 hsl hcc hcn
  obtain ⟨hcn0, hcn1⟩ := hcn
  have CN := Lib.hid hc; clear hc
  have CC := Lib.hid hcc; clear hcc
  have hu : 0 ≤ IntKind.u64.wrap c ∧ IntKind.u64.wrap c < 18446744073709551616 := by rw [IntKind.wrap_u64]; omega
  have hcu : 0 ≤ c → IntKind.u64.wrap c = c := fun h => by rw [IntKind.wrap_u64]; omega
  have hlb := lowS_bd (IntKind.u64.wrap c) J hu.1 hu.2
  have hlu : 0 ≤ c → lowS c J = lowS (IntKind.u64.wrap c) J := fun h => by rw [hcu h]
  obtain ⟨m, hm⟩ : ∃ m, lowS (IntKind.u64.wrap c) J = m := ⟨_, rfl⟩
  rw [hm] at hsl hlb hlu
  have LM := Lib.hid hm; clear hm
  have LU := Lib.hid hlu; clear hlu
  have EE := Lib.hid hsl; clear hsl
  clear hcu
  obtain ⟨hu0, hu1⟩ := hu
  obtain ⟨hm0, hm1⟩ := hlb
  by_cases h64 : J = 64
  · subst h64
    clear hcd hc0 hc1 hp
    go_enter Try.func6, Try.ntmps6
    go_wp2_with (first
      | (go_at_call 15; refine (within_any _ _ _ _ (by omega) (by omega) (by omega) (by omega) (by omega)).mono ?_; rintro e w' ⟨rfl, rfl⟩; rw [WJ.out])
      | (go_at_call 23; refine (clamp_any _ _ _ (by omega) (by omega) (by omega) (by omega)).mono ?_; rintro e w' ⟨rfl, rfl⟩; first | rw [CN.out] | rw [CC.out])
      | (go_at_call 25; refine (low_any _ _ _ (by omega) (by omega) (by omega) (by omega)).mono ?_; rintro e w' ⟨rfl, rfl⟩; first | rw [LM.out] | rw [LU.out (by omega)])
      | (go_at_call 24; refine (ext_any _ _ _ (by omega) (by omega) (by omega) (by omega)).mono ?_; rintro e w' ⟨rfl, rfl⟩; rw [EE.out])
      | (go_at_call 11; refine (known_any _).mono ?_; rintro e w9 ⟨rfl, hb9⟩))
    go_ret
    exact ⟨rfl, ((Below.refl _ _).drew.drew).trans hb9⟩
  · have hT0 : wrap64 (2 ^ (J.toNat - 1)) = 2 ^ (J.toNat - 1) := by
      have := pow_le62 (a := J.toNat - 1) (by omega); rw [wrapI]; omega
    have hT2 := pow_le62 (a := J.toNat - 1) (by omega)
    obtain ⟨T, hT⟩ : ∃ T, (2 : Int) ^ (J.toNat - 1) = T := ⟨_, rfl⟩
    have hJ3 : J ≤ 63 := by omega
    have hT1 := hT0.trans hT
    rw [hT] at hcd hp hc0 hc1 hT2
    clear hT h64 hT0
    rcases Int.lt_or_le n (-T) with hlo | hlo
    · obtain rfl : c = -T := by omega
      clear hcd
      have f1 : decide (-T < -T) = false := by simp
      have f2 : decide (T ≤ -T) = false := by simp; omega
      have f6 : (-T != -T) = false := by simp
      go_enter Try.func6, Try.ntmps6
      go_wp2_with (first
        | (go_at_call 15; refine (within_any _ _ _ _ (by omega) (by omega) (by omega) (by omega) (by omega)).mono ?_; rintro e w' ⟨rfl, rfl⟩; rw [WJ.out])
        | (go_at_call 23; refine (clamp_any _ _ _ (by omega) (by omega) (by omega) (by omega)).mono ?_; rintro e w' ⟨rfl, rfl⟩; first | rw [CN.out] | rw [CC.out])
        | (go_at_call 25; refine (low_any _ _ _ (by omega) (by omega) (by omega) (by omega)).mono ?_; rintro e w' ⟨rfl, rfl⟩; first | rw [LM.out] | rw [LU.out (by omega)])
        | (go_at_call 24; refine (ext_any _ _ _ (by omega) (by omega) (by omega) (by omega)).mono ?_; rintro e w' ⟨rfl, rfl⟩; rw [EE.out])
        | (go_at_call 11; refine (known_any _).mono ?_; rintro e w9 ⟨rfl, hb9⟩))
      go_ret
      exact ⟨rfl, ((Below.refl _ _).drew.drew).trans hb9⟩
    · rcases Int.lt_or_le n T with hhi | hhi
      · obtain ⟨hcv, hcv2⟩ : c ≤ n ∧ n ≤ c := by omega
        clear hcd
        go_enter Try.func6, Try.ntmps6
        go_wp2_with (first
          | (go_at_call 15; refine (within_any _ _ _ _ (by omega) (by omega) (by omega) (by omega) (by omega)).mono ?_; rintro e w' ⟨rfl, rfl⟩; rw [WJ.out])
          | (go_at_call 23; refine (clamp_any _ _ _ (by omega) (by omega) (by omega) (by omega)).mono ?_; rintro e w' ⟨rfl, rfl⟩; first | rw [CN.out] | rw [CC.out])
          | (go_at_call 25; refine (low_any _ _ _ (by omega) (by omega) (by omega) (by omega)).mono ?_; rintro e w' ⟨rfl, rfl⟩; first | rw [LM.out] | rw [LU.out (by omega)])
          | (go_at_call 24; refine (ext_any _ _ _ (by omega) (by omega) (by omega) (by omega)).mono ?_; rintro e w' ⟨rfl, rfl⟩; rw [EE.out])
          | (go_at_call 11; refine (known_any _).mono ?_; rintro e w9 ⟨rfl, hb9⟩))
        go_ret
        exact ⟨rfl, ((Below.refl _ _).drew.drew).trans hb9⟩
      · obtain ⟨hcv, hcv2⟩ : c ≤ T - 1 ∧ T - 1 ≤ c := by omega
        clear hcd
        go_enter Try.func6, Try.ntmps6
        go_wp2_with (first
          | (go_at_call 15; refine (within_any _ _ _ _ (by omega) (by omega) (by omega) (by omega) (by omega)).mono ?_; rintro e w' ⟨rfl, rfl⟩; rw [WJ.out])
          | (go_at_call 23; refine (clamp_any _ _ _ (by omega) (by omega) (by omega) (by omega)).mono ?_; rintro e w' ⟨rfl, rfl⟩; first | rw [CN.out] | rw [CC.out])
          | (go_at_call 25; refine (low_any _ _ _ (by omega) (by omega) (by omega) (by omega)).mono ?_; rintro e w' ⟨rfl, rfl⟩; first | rw [LM.out] | rw [LU.out (by omega)])
          | (go_at_call 24; refine (ext_any _ _ _ (by omega) (by omega) (by omega) (by omega)).mono ?_; rintro e w' ⟨rfl, rfl⟩; rw [EE.out])
          | (go_at_call 11; refine (known_any _).mono ?_; rintro e w9 ⟨rfl, hb9⟩))
        go_ret
        exact ⟨rfl, ((Below.refl _ _).drew.drew).trans hb9⟩
end Go.Proofs.Ytpegfmgbmfoiaaa
