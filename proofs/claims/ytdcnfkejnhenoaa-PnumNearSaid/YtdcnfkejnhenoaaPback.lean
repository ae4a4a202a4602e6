/-
  PnumBack returns true at every input: its walk.
-/
import Derived.Test.YtdcnfkejnhenoaaPtells
namespace Go.Proofs.Ytdcnfkejnhenoaa
set_option linter.unusedVariables false
open Go.RowKit
theorem pOf_four (d : Int) : (pOf d = 1 ∧ d ≤ 128) ∨ (pOf d = 2 ∧ d ≤ 32768) ∨ (pOf d = 3 ∧ d ≤ 8388608) ∨ (pOf d = 4 ∧ 8388608 < d) := by
  unfold pOf; (repeat' split) <;> omega
theorem back_math0 (k : Int) (h0 : 0 ≤ k) (h1 : k < 2147483647) : wholeS 0 false (cutS k (widthS k 0 false)) (widthS k 0 false) = k := by
  have hd : widthS k 0 false = pOf (k + 1) := by
    unfold widthS pDist; rw [if_neg (by simp)]; congr 1; omega
  rw [hd]
  have hf : follS 0 false = 0 := rfl
  unfold wholeS cutS
  rw [hf]
  rcases pOf_four (k + 1) with ⟨h, hb⟩ | ⟨h, hb⟩ | ⟨h, hb⟩ | ⟨h, hb⟩ <;> rw [h]
  · rw [win_vals.1]; unfold upS; (repeat' split) <;> omega
  · rw [win_vals.2.1]; unfold upS; (repeat' split) <;> omega
  · rw [win_vals.2.2.1]; unfold upS; (repeat' split) <;> omega
  · rw [win_vals.2.2.2]; unfold upS; (repeat' split) <;> omega
theorem back_math1 (k d m : Int) (h0 : 0 ≤ k) (h1 : k ≤ 4611686018427387903) (hd0 : 1 ≤ d) (hd1 : d ≤ 2147483647) (hdk : d ≤ k) (hm0 : k - d ≤ m) (hm1 : m < k) :
    wholeS m true (cutS k (widthS k (k - d) true)) (widthS k (k - d) true) = k := by
  have hd : widthS k (k - d) true = pOf d := by
    unfold widthS pDist; rw [if_pos ⟨rfl, by omega⟩]; congr 1; omega
  rw [hd]
  have hf : follS m true = m + 1 := by unfold follS; simp; omega
  unfold wholeS cutS
  rw [hf]
  rcases pOf_four d with ⟨h, hb⟩ | ⟨h, hb⟩ | ⟨h, hb⟩ | ⟨h, hb⟩ <;> rw [h]
  · rw [win_vals.1]; unfold upS; (repeat' split) <;> omega
  · rw [win_vals.2.1]; unfold upS; (repeat' split) <;> omega
  · rw [win_vals.2.2.1]; unfold upS; (repeat' split) <;> omega
  · rw [win_vals.2.2.2]; unfold upS; (repeat' split) <;> omega
theorem width_bd (n a : Int) (has : Bool) : 1 ≤ widthS n a has ∧ widthS n a has ≤ 4 := by
  unfold widthS
  rcases pOf_four (pDist n a has) with ⟨h, _⟩ | ⟨h, _⟩ | ⟨h, _⟩ | ⟨h, _⟩ <;> rw [h] <;> omega
theorem cutS_bd (n k : Int) : 0 ≤ cutS n k ∧ cutS n k < 4294967296 := by
  unfold cutS
  rcases pW_four k with h | h | h | h
  · rw [(win_of k).1 h]; omega
  · rw [(win_of k).2.1 h]; omega
  · rw [(win_of k).2.2.1 h]; omega
  · rw [(win_of k).2.2.2 h]; omega
set_option maxRecDepth 100000 in
theorem pback_a0 (n d more k : Int) (w : World) (n0 : 0 ≤ n) (n1 : n ≤ 18446744073709551615) (d0 : 0 ≤ d) (d1 : d ≤ 18446744073709551615) (m0 : 0 ≤ more) (m1 : more ≤ 18446744073709551615) (SX : Hid (smallS n = k)) (k0 : 0 ≤ k) (k1 : k ≤ 4611686018427387903) (hA : k < d % 2147483648) (hz : k = 0) (hk : k < 2147483647) :
    Calls Try.prog 5 #[.int .u64 n, .int .u64 d, .int .u64 more] w fun e w' => e = .returned (.bool true) ∧ Below w.heap.size w w' := by
  subst hz
  have vb := width_bd 0 0 true
  have wb := width_bd 0 0 false
  have cb := cutS_bd 0 (widthS 0 0 false)
  have M := back_math0 0 k0 hk
  obtain ⟨V, hV⟩ : ∃ x, widthS 0 0 true = x := ⟨_, rfl⟩
  obtain ⟨W, hW⟩ : ∃ x, widthS 0 0 false = x := ⟨_, rfl⟩
  rw [hV] at vb
  rw [hW] at wb cb M
  obtain ⟨C, hC⟩ : ∃ x, cutS 0 W = x := ⟨_, rfl⟩
  rw [hC] at cb M
  have HC := Lib.hid hC; clear hC
  have HM := Lib.hid M; clear M
  have HW := Lib.hid hW; clear hW
  have HV := Lib.hid hV; clear hV
  obtain ⟨wb0, wb1⟩ := wb
  obtain ⟨vb0, vb1⟩ := vb
  obtain ⟨cb0, cb1⟩ := cb
  go_enter Try.func5, Try.ntmps5
  go_wp2_with fail
  refine (small_any n _ (by omega) (by omega)).mono ?_
  rintro e w2 ⟨rfl, b2⟩
  rw [SX.out]
  go_wp2_with fail
  refine (width_any _ _ _ _ (by omega) (by omega) (by omega) (by omega)).mono ?_
  rintro e w' ⟨rfl, rfl⟩
  rw [HV.out]
  go_wp2_with fail
  refine (width_any _ _ _ _ (by omega) (by omega) (by omega) (by omega)).mono ?_
  rintro e w' ⟨rfl, rfl⟩
  rw [HW.out]
  go_wp2_with fail
  refine (pcut_any _ _ _ (by omega) (by omega) (by omega) (by omega)).mono ?_
  rintro e w' ⟨rfl, rfl⟩
  rw [HC.out]
  go_wp2_with fail
  refine (whole_any _ _ _ _ _ (by omega) (by omega) (by omega) (by omega) (by omega) (by omega)).mono ?_
  rintro e w' ⟨rfl, rfl⟩
  rw [HM.out]
  go_wp2_with fail
  refine (pknown_any _).mono ?_
  rintro e w' ⟨rfl, rfl⟩
  go_wp2_with fail
  go_ret
  exact ⟨rfl, b2⟩
set_option maxRecDepth 100000 in
theorem pback_a1 (n d more k : Int) (w : World) (n0 : 0 ≤ n) (n1 : n ≤ 18446744073709551615) (d0 : 0 ≤ d) (d1 : d ≤ 18446744073709551615) (m0 : 0 ≤ more) (m1 : more ≤ 18446744073709551615) (SX : Hid (smallS n = k)) (k0 : 0 ≤ k) (k1 : k ≤ 4611686018427387903) (hA : k < d % 2147483648) (hz : 1 ≤ k) :
    Calls Try.prog 5 #[.int .u64 n, .int .u64 d, .int .u64 more] w fun e w' => e = .returned (.bool true) ∧ Below w.heap.size w w' := by
  have vb := width_bd k 0 true
  have cb := cutS_bd k (widthS k 0 true)
  have r0 := Int.emod_nonneg more (b := k) (by omega)
  have r1 := Int.emod_lt_of_pos more (b := k) (by omega)
  have M := back_math1 k (k) (more % k) k0 k1 (by omega) (by omega) (by omega) (by omega) (by omega)
  rw [show k - k = 0 by omega] at M
  obtain ⟨W, hW⟩ : ∃ x, widthS k 0 true = x := ⟨_, rfl⟩
  rw [hW] at vb cb M
  have wb := vb
  obtain ⟨C, hC⟩ : ∃ x, cutS k W = x := ⟨_, rfl⟩
  rw [hC] at cb M
  have HC := Lib.hid hC; clear hC
  have HM := Lib.hid M; clear M
  have HW := Lib.hid hW; clear hW
  obtain ⟨wb0, wb1⟩ := wb
  obtain ⟨vb0, vb1⟩ := vb
  obtain ⟨cb0, cb1⟩ := cb
  go_enter Try.func5, Try.ntmps5
  go_wp2_with fail
  refine (small_any n _ (by omega) (by omega)).mono ?_
  rintro e w2 ⟨rfl, b2⟩
  rw [SX.out]
  go_wp2_with fail
  refine (width_any _ _ _ _ (by omega) (by omega) (by omega) (by omega)).mono ?_
  rintro e w' ⟨rfl, rfl⟩
  rw [HW.out]
  go_wp2_with fail
  refine (pcut_any _ _ _ (by omega) (by omega) (by omega) (by omega)).mono ?_
  rintro e w' ⟨rfl, rfl⟩
  rw [HC.out]
  go_wp2_with fail
  refine (whole_any _ _ _ _ _ (by omega) (by omega) (by omega) (by omega) (by omega) (by omega)).mono ?_
  rintro e w' ⟨rfl, rfl⟩
  rw [HM.out]
  go_wp2_with fail
  refine (pknown_any _).mono ?_
  rintro e w' ⟨rfl, rfl⟩
  go_wp2_with fail
  go_ret
  exact ⟨rfl, b2⟩
set_option maxRecDepth 100000 in
theorem pback_b0 (n d more k : Int) (w : World) (n0 : 0 ≤ n) (n1 : n ≤ 18446744073709551615) (d0 : 0 ≤ d) (d1 : d ≤ 18446744073709551615) (m0 : 0 ≤ more) (m1 : more ≤ 18446744073709551615) (SX : Hid (smallS n = k)) (k0 : 0 ≤ k) (k1 : k ≤ 4611686018427387903) (hB : d % 2147483648 ≤ k) (hz : d % 2147483648 = 0) (hk : k < 2147483647) :
    Calls Try.prog 5 #[.int .u64 n, .int .u64 d, .int .u64 more] w fun e w' => e = .returned (.bool true) ∧ Below w.heap.size w w' := by
  have vb := width_bd k k true
  have wb := width_bd k 0 false
  have cb := cutS_bd k (widthS k 0 false)
  have M := back_math0 k k0 hk
  obtain ⟨V, hV⟩ : ∃ x, widthS k k true = x := ⟨_, rfl⟩
  obtain ⟨W, hW⟩ : ∃ x, widthS k 0 false = x := ⟨_, rfl⟩
  rw [hV] at vb
  rw [hW] at wb cb M
  obtain ⟨C, hC⟩ : ∃ x, cutS k W = x := ⟨_, rfl⟩
  rw [hC] at cb M
  have HC := Lib.hid hC; clear hC
  have HM := Lib.hid M; clear M
  have HW := Lib.hid hW; clear hW
  have HV := Lib.hid hV; clear hV
  obtain ⟨wb0, wb1⟩ := wb
  obtain ⟨vb0, vb1⟩ := vb
  obtain ⟨cb0, cb1⟩ := cb
  go_enter Try.func5, Try.ntmps5
  go_wp2_with fail
  refine (small_any n _ (by omega) (by omega)).mono ?_
  rintro e w2 ⟨rfl, b2⟩
  rw [SX.out]
  go_wp2_with fail
  refine (width_any _ _ _ _ (by omega) (by omega) (by omega) (by omega)).mono ?_
  rintro e w' ⟨rfl, rfl⟩
  rw [HV.out]
  go_wp2_with fail
  refine (width_any _ _ _ _ (by omega) (by omega) (by omega) (by omega)).mono ?_
  rintro e w' ⟨rfl, rfl⟩
  rw [HW.out]
  go_wp2_with fail
  refine (pcut_any _ _ _ (by omega) (by omega) (by omega) (by omega)).mono ?_
  rintro e w' ⟨rfl, rfl⟩
  rw [HC.out]
  go_wp2_with fail
  refine (whole_any _ _ _ _ _ (by omega) (by omega) (by omega) (by omega) (by omega) (by omega)).mono ?_
  rintro e w' ⟨rfl, rfl⟩
  rw [HM.out]
  go_wp2_with fail
  refine (pknown_any _).mono ?_
  rintro e w' ⟨rfl, rfl⟩
  go_wp2_with fail
  go_ret
  exact ⟨rfl, b2⟩
set_option maxRecDepth 100000 in
theorem pback_b1 (n d more k : Int) (w : World) (n0 : 0 ≤ n) (n1 : n ≤ 18446744073709551615) (d0 : 0 ≤ d) (d1 : d ≤ 18446744073709551615) (m0 : 0 ≤ more) (m1 : more ≤ 18446744073709551615) (SX : Hid (smallS n = k)) (k0 : 0 ≤ k) (k1 : k ≤ 4611686018427387903) (hB : d % 2147483648 ≤ k) (hz : d % 2147483648 = 0) (hk : 2147483647 ≤ k) :
    Calls Try.prog 5 #[.int .u64 n, .int .u64 d, .int .u64 more] w fun e w' => e = .returned (.bool true) ∧ Below w.heap.size w w' := by
  have vb := width_bd k k true
  have wb := width_bd k 0 false
  have cb := cutS_bd k (widthS k 0 false)
  obtain ⟨V, hV⟩ : ∃ x, widthS k k true = x := ⟨_, rfl⟩
  obtain ⟨W, hW⟩ : ∃ x, widthS k 0 false = x := ⟨_, rfl⟩
  rw [hV] at vb
  rw [hW] at wb cb
  clear cb
  have HW := Lib.hid hW; clear hW
  have HV := Lib.hid hV; clear hV
  obtain ⟨wb0, wb1⟩ := wb
  obtain ⟨vb0, vb1⟩ := vb
  go_enter Try.func5, Try.ntmps5
  go_wp2_with fail
  refine (small_any n _ (by omega) (by omega)).mono ?_
  rintro e w2 ⟨rfl, b2⟩
  rw [SX.out]
  go_wp2_with fail
  refine (width_any _ _ _ _ (by omega) (by omega) (by omega) (by omega)).mono ?_
  rintro e w' ⟨rfl, rfl⟩
  rw [HV.out]
  go_wp2_with fail
  refine (width_any _ _ _ _ (by omega) (by omega) (by omega) (by omega)).mono ?_
  rintro e w' ⟨rfl, rfl⟩
  rw [HW.out]
  go_wp2_with fail
  refine (pknown_any _).mono ?_
  rintro e w' ⟨rfl, rfl⟩
  go_wp2_with fail
  go_ret
  exact ⟨rfl, b2⟩
set_option maxRecDepth 100000 in
theorem pback_b2 (n d more k : Int) (w : World) (n0 : 0 ≤ n) (n1 : n ≤ 18446744073709551615) (d0 : 0 ≤ d) (d1 : d ≤ 18446744073709551615) (m0 : 0 ≤ more) (m1 : more ≤ 18446744073709551615) (SX : Hid (smallS n = k)) (k0 : 0 ≤ k) (k1 : k ≤ 4611686018427387903) (hB : d % 2147483648 ≤ k) (hz : 1 ≤ d % 2147483648) :
    Calls Try.prog 5 #[.int .u64 n, .int .u64 d, .int .u64 more] w fun e w' => e = .returned (.bool true) ∧ Below w.heap.size w w' := by
  have vb := width_bd k (k - d % 2147483648) true
  have cb := cutS_bd k (widthS k (k - d % 2147483648) true)
  have r0 := Int.emod_nonneg more (b := d % 2147483648) (by omega)
  have r1 := Int.emod_lt_of_pos more (b := d % 2147483648) (by omega)
  have M := back_math1 k (d % 2147483648) (k - d % 2147483648 + more % (d % 2147483648)) k0 k1 (by omega) (by omega) (by omega) (by omega) (by omega)
  obtain ⟨W, hW⟩ : ∃ x, widthS k (k - d % 2147483648) true = x := ⟨_, rfl⟩
  rw [hW] at vb cb M
  have wb := vb
  obtain ⟨C, hC⟩ : ∃ x, cutS k W = x := ⟨_, rfl⟩
  rw [hC] at cb M
  have HC := Lib.hid hC; clear hC
  have HM := Lib.hid M; clear M
  have HW := Lib.hid hW; clear hW
  obtain ⟨wb0, wb1⟩ := wb
  obtain ⟨vb0, vb1⟩ := vb
  obtain ⟨cb0, cb1⟩ := cb
  go_enter Try.func5, Try.ntmps5
  go_wp2_with fail
  refine (small_any n _ (by omega) (by omega)).mono ?_
  rintro e w2 ⟨rfl, b2⟩
  rw [SX.out]
  go_wp2_with fail
  refine (width_any _ _ _ _ (by omega) (by omega) (by omega) (by omega)).mono ?_
  rintro e w' ⟨rfl, rfl⟩
  rw [HW.out]
  go_wp2_with fail
  refine (pcut_any _ _ _ (by omega) (by omega) (by omega) (by omega)).mono ?_
  rintro e w' ⟨rfl, rfl⟩
  rw [HC.out]
  go_wp2_with fail
  refine (whole_any _ _ _ _ _ (by omega) (by omega) (by omega) (by omega) (by omega) (by omega)).mono ?_
  rintro e w' ⟨rfl, rfl⟩
  rw [HM.out]
  go_wp2_with fail
  refine (pknown_any _).mono ?_
  rintro e w' ⟨rfl, rfl⟩
  go_wp2_with fail
  go_ret
  exact ⟨rfl, b2⟩
theorem pback_law (n d more : Int) (w : World) (w0 : (Lit.int .u64 n).wf = true) (w1 : (Lit.int .u64 d).wf = true) (w2 : (Lit.int .u64 more).wf = true) :
    Calls Try.prog 5 #[.int .u64 n, .int .u64 d, .int .u64 more] w fun e w' => e = .returned (.bool true) ∧ Below w.heap.size w w' := by
  obtain ⟨n0, n1⟩ := bounds_u64 w0
  obtain ⟨d0, d1⟩ := bounds_u64 w1
  obtain ⟨m0, m1⟩ := bounds_u64 w2
  have s0 := smallS_bd n n0
  obtain ⟨k, hx⟩ : ∃ x, smallS n = x := ⟨_, rfl⟩
  rw [hx] at s0
  have SX := Lib.hid hx; clear hx
  obtain ⟨k0, k1⟩ := s0
  rcases Int.lt_or_le k (d % 2147483648) with hA | hB
  · rcases Int.lt_or_le 0 k with hz | hz
    · exact pback_a1 n d more k w n0 n1 d0 d1 m0 m1 SX k0 k1 hA hz
    · exact pback_a0 n d more k w n0 n1 d0 d1 m0 m1 SX k0 k1 hA (by omega) (by omega)
  · rcases Int.lt_or_le 0 (d % 2147483648) with hz | hz
    · exact pback_b2 n d more k w n0 n1 d0 d1 m0 m1 SX k0 k1 hB hz
    · rcases Int.lt_or_le k 2147483647 with hk | hk
      · exact pback_b0 n d more k w n0 n1 d0 d1 m0 m1 SX k0 k1 hB (by omega) hk
      · exact pback_b1 n d more k w n0 n1 d0 d1 m0 m1 SX k0 k1 hB (by omega) hk
end Go.Proofs.Ytdcnfkejnhenoaa
