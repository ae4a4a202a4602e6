/-
  PnumNear returns true at every input: its walk.
-/
import Derived.Test.YtdcnfkejnhenoaaPback
namespace Go.Proofs.Ytdcnfkejnhenoaa
set_option linter.unusedVariables false
open Go.RowKit
theorem near_math1 (l low : Int) (h0 : 0 ≤ l) (h1 : l ≤ 4611686018427387903) (hl0 : 0 ≤ low) (hl1 : low < 4294967296) :
    ∃ c m, cutS low 1 = c ∧ wholeS l true low 1 = m ∧ cutS m 1 = c ∧ 0 ≤ c ∧ c < 4294967296 ∧ 0 ≤ m ∧ m ≤ 4611686018427387904 + 256 ∧
      (m ≤ l + 1 + 128 ∧ l + 1 ≤ m + 128 ∨ m < 256 ∨ 4611686018427387904 - 512 < l + 1) := by
  refine ⟨_, _, rfl, rfl, ?_⟩
  have hf : follS l true = l + 1 := by unfold follS; simp; omega
  unfold wholeS cutS
  rw [hf, win_vals.1]
  have hc0 : 0 ≤ low % 256 := by omega
  have hc1 : low % 256 < 256 := by omega
  generalize low % 256 = c at *
  unfold upS
  (repeat' split) <;> omega
theorem near_math2 (l low : Int) (h0 : 0 ≤ l) (h1 : l ≤ 4611686018427387903) (hl0 : 0 ≤ low) (hl1 : low < 4294967296) :
    ∃ c m, cutS low 2 = c ∧ wholeS l true low 2 = m ∧ cutS m 2 = c ∧ 0 ≤ c ∧ c < 4294967296 ∧ 0 ≤ m ∧ m ≤ 4611686018427387904 + 65536 ∧
      (m ≤ l + 1 + 32768 ∧ l + 1 ≤ m + 32768 ∨ m < 65536 ∨ 4611686018427387904 - 131072 < l + 1) := by
  refine ⟨_, _, rfl, rfl, ?_⟩
  have hf : follS l true = l + 1 := by unfold follS; simp; omega
  unfold wholeS cutS
  rw [hf, win_vals.2.1]
  have hc0 : 0 ≤ low % 65536 := by omega
  have hc1 : low % 65536 < 65536 := by omega
  generalize low % 65536 = c at *
  unfold upS
  (repeat' split) <;> omega
theorem near_math3 (l low : Int) (h0 : 0 ≤ l) (h1 : l ≤ 4611686018427387903) (hl0 : 0 ≤ low) (hl1 : low < 4294967296) :
    ∃ c m, cutS low 3 = c ∧ wholeS l true low 3 = m ∧ cutS m 3 = c ∧ 0 ≤ c ∧ c < 4294967296 ∧ 0 ≤ m ∧ m ≤ 4611686018427387904 + 16777216 ∧
      (m ≤ l + 1 + 8388608 ∧ l + 1 ≤ m + 8388608 ∨ m < 16777216 ∨ 4611686018427387904 - 33554432 < l + 1) := by
  refine ⟨_, _, rfl, rfl, ?_⟩
  have hf : follS l true = l + 1 := by unfold follS; simp; omega
  unfold wholeS cutS
  rw [hf, win_vals.2.2.1]
  have hc0 : 0 ≤ low % 16777216 := by omega
  have hc1 : low % 16777216 < 16777216 := by omega
  generalize low % 16777216 = c at *
  unfold upS
  (repeat' split) <;> omega
theorem near_math4 (l low : Int) (h0 : 0 ≤ l) (h1 : l ≤ 4611686018427387903) (hl0 : 0 ≤ low) (hl1 : low < 4294967296) :
    ∃ c m, cutS low 4 = c ∧ wholeS l true low 4 = m ∧ cutS m 4 = c ∧ 0 ≤ c ∧ c < 4294967296 ∧ 0 ≤ m ∧ m ≤ 4611686018427387904 + 4294967296 ∧
      (m ≤ l + 1 + 2147483648 ∧ l + 1 ≤ m + 2147483648 ∨ m < 4294967296 ∨ 4611686018427387904 - 8589934592 < l + 1) := by
  refine ⟨_, _, rfl, rfl, ?_⟩
  have hf : follS l true = l + 1 := by unfold follS; simp; omega
  unfold wholeS cutS
  rw [hf, win_vals.2.2.2]
  have hc0 : 0 ≤ low % 4294967296 := by omega
  have hc1 : low % 4294967296 < 4294967296 := by omega
  generalize low % 4294967296 = c at *
  unfold upS
  (repeat' split) <;> omega
set_option maxRecDepth 100000 in
set_option maxHeartbeats 1000000 in
theorem pnear_1 (a low k : Int) (w : World) (a0 : 0 ≤ a) (a1 : a ≤ 18446744073709551615) (b0 : 0 ≤ low) (b1 : low ≤ 4294967295) (k0 : -9223372036854775808 ≤ k) (k1 : k ≤ 9223372036854775807) (l : Int) (SX : Hid (smallS a = l)) (l0 : 0 ≤ l) (l1 : l ≤ 4611686018427387903) (WZ : Hid (withinS k 1 4 = 1)) :
    Calls Try.prog 6 #[.int .u64 a, .int .u32 low, .int .i64 k] w fun e w' => e = .returned (.bool true) ∧ Below w.heap.size w w' := by
  obtain ⟨c, m, hc, hm, hmc, hc0, hc1, hm0, hm1, hend⟩ := near_math1 l low l0 l1 b0 (by omega)
  have HC := Lib.hid hc; clear hc
  have HM := Lib.hid hm; clear hm
  have HE := Lib.hid hmc; clear hmc
  go_enter Try.func6, Try.ntmps6
  go_wp2_with fail
  refine (small_any a _ (by omega) (by omega)).mono ?_
  rintro e w2 ⟨rfl, b2⟩
  rw [SX.out]
  go_wp2_with fail
  refine (within_any k 1 4 _ (by omega) (by omega) (by omega) (by omega) (by omega)).mono ?_
  rintro e w' ⟨rfl, rfl⟩
  rw [WZ.out]
  go_wp2_with fail
  refine (pcut_any _ _ _ (by omega) (by omega) (by omega) (by omega)).mono ?_
  rintro e w' ⟨rfl, rfl⟩
  rw [HC.out]
  go_wp2_with fail
  refine (whole_any _ _ _ _ _ (by omega) (by omega) (by omega) (by omega) (by omega) (by omega)).mono ?_
  rintro e w' ⟨rfl, rfl⟩
  rw [HM.out]
  go_wp2_with fail
  refine (pcut_any _ _ _ (by omega) (by omega) (by omega) (by omega)).mono ?_
  rintro e w' ⟨rfl, rfl⟩
  rw [HE.out]
  go_wp2_with (go_at_call 8; refine (pknown_any _).mono ?_; rintro e w' ⟨rfl, rfl⟩)
  all_goals first
    | (exfalso; omega)
    | (go_ret
       exact ⟨rfl, b2⟩)
    | (go_ret
       refine ⟨?_, b2⟩
       simp
       omega)
set_option maxRecDepth 100000 in
set_option maxHeartbeats 1000000 in
theorem pnear_2 (a low k : Int) (w : World) (a0 : 0 ≤ a) (a1 : a ≤ 18446744073709551615) (b0 : 0 ≤ low) (b1 : low ≤ 4294967295) (k0 : -9223372036854775808 ≤ k) (k1 : k ≤ 9223372036854775807) (l : Int) (SX : Hid (smallS a = l)) (l0 : 0 ≤ l) (l1 : l ≤ 4611686018427387903) (WZ : Hid (withinS k 1 4 = 2)) :
    Calls Try.prog 6 #[.int .u64 a, .int .u32 low, .int .i64 k] w fun e w' => e = .returned (.bool true) ∧ Below w.heap.size w w' := by
  obtain ⟨c, m, hc, hm, hmc, hc0, hc1, hm0, hm1, hend⟩ := near_math2 l low l0 l1 b0 (by omega)
  have HC := Lib.hid hc; clear hc
  have HM := Lib.hid hm; clear hm
  have HE := Lib.hid hmc; clear hmc
  go_enter Try.func6, Try.ntmps6
  go_wp2_with fail
  refine (small_any a _ (by omega) (by omega)).mono ?_
  rintro e w2 ⟨rfl, b2⟩
  rw [SX.out]
  go_wp2_with fail
  refine (within_any k 1 4 _ (by omega) (by omega) (by omega) (by omega) (by omega)).mono ?_
  rintro e w' ⟨rfl, rfl⟩
  rw [WZ.out]
  go_wp2_with fail
  refine (pcut_any _ _ _ (by omega) (by omega) (by omega) (by omega)).mono ?_
  rintro e w' ⟨rfl, rfl⟩
  rw [HC.out]
  go_wp2_with fail
  refine (whole_any _ _ _ _ _ (by omega) (by omega) (by omega) (by omega) (by omega) (by omega)).mono ?_
  rintro e w' ⟨rfl, rfl⟩
  rw [HM.out]
  go_wp2_with fail
  refine (pcut_any _ _ _ (by omega) (by omega) (by omega) (by omega)).mono ?_
  rintro e w' ⟨rfl, rfl⟩
  rw [HE.out]
  go_wp2_with (go_at_call 8; refine (pknown_any _).mono ?_; rintro e w' ⟨rfl, rfl⟩)
  all_goals first
    | (exfalso; omega)
    | (go_ret
       exact ⟨rfl, b2⟩)
    | (go_ret
       refine ⟨?_, b2⟩
       simp
       omega)
set_option maxRecDepth 100000 in
set_option maxHeartbeats 1000000 in
theorem pnear_3 (a low k : Int) (w : World) (a0 : 0 ≤ a) (a1 : a ≤ 18446744073709551615) (b0 : 0 ≤ low) (b1 : low ≤ 4294967295) (k0 : -9223372036854775808 ≤ k) (k1 : k ≤ 9223372036854775807) (l : Int) (SX : Hid (smallS a = l)) (l0 : 0 ≤ l) (l1 : l ≤ 4611686018427387903) (WZ : Hid (withinS k 1 4 = 3)) :
    Calls Try.prog 6 #[.int .u64 a, .int .u32 low, .int .i64 k] w fun e w' => e = .returned (.bool true) ∧ Below w.heap.size w w' := by
  obtain ⟨c, m, hc, hm, hmc, hc0, hc1, hm0, hm1, hend⟩ := near_math3 l low l0 l1 b0 (by omega)
  have HC := Lib.hid hc; clear hc
  have HM := Lib.hid hm; clear hm
  have HE := Lib.hid hmc; clear hmc
  go_enter Try.func6, Try.ntmps6
  go_wp2_with fail
  refine (small_any a _ (by omega) (by omega)).mono ?_
  rintro e w2 ⟨rfl, b2⟩
  rw [SX.out]
  go_wp2_with fail
  refine (within_any k 1 4 _ (by omega) (by omega) (by omega) (by omega) (by omega)).mono ?_
  rintro e w' ⟨rfl, rfl⟩
  rw [WZ.out]
  go_wp2_with fail
  refine (pcut_any _ _ _ (by omega) (by omega) (by omega) (by omega)).mono ?_
  rintro e w' ⟨rfl, rfl⟩
  rw [HC.out]
  go_wp2_with fail
  refine (whole_any _ _ _ _ _ (by omega) (by omega) (by omega) (by omega) (by omega) (by omega)).mono ?_
  rintro e w' ⟨rfl, rfl⟩
  rw [HM.out]
  go_wp2_with fail
  refine (pcut_any _ _ _ (by omega) (by omega) (by omega) (by omega)).mono ?_
  rintro e w' ⟨rfl, rfl⟩
  rw [HE.out]
  go_wp2_with (go_at_call 8; refine (pknown_any _).mono ?_; rintro e w' ⟨rfl, rfl⟩)
  all_goals first
    | (exfalso; omega)
    | (go_ret
       exact ⟨rfl, b2⟩)
    | (go_ret
       refine ⟨?_, b2⟩
       simp
       omega)
set_option maxRecDepth 100000 in
set_option maxHeartbeats 1000000 in
theorem pnear_4 (a low k : Int) (w : World) (a0 : 0 ≤ a) (a1 : a ≤ 18446744073709551615) (b0 : 0 ≤ low) (b1 : low ≤ 4294967295) (k0 : -9223372036854775808 ≤ k) (k1 : k ≤ 9223372036854775807) (l : Int) (SX : Hid (smallS a = l)) (l0 : 0 ≤ l) (l1 : l ≤ 4611686018427387903) (WZ : Hid (withinS k 1 4 = 4)) :
    Calls Try.prog 6 #[.int .u64 a, .int .u32 low, .int .i64 k] w fun e w' => e = .returned (.bool true) ∧ Below w.heap.size w w' := by
  obtain ⟨c, m, hc, hm, hmc, hc0, hc1, hm0, hm1, hend⟩ := near_math4 l low l0 l1 b0 (by omega)
  have HC := Lib.hid hc; clear hc
  have HM := Lib.hid hm; clear hm
  have HE := Lib.hid hmc; clear hmc
  go_enter Try.func6, Try.ntmps6
  go_wp2_with fail
  refine (small_any a _ (by omega) (by omega)).mono ?_
  rintro e w2 ⟨rfl, b2⟩
  rw [SX.out]
  go_wp2_with fail
  refine (within_any k 1 4 _ (by omega) (by omega) (by omega) (by omega) (by omega)).mono ?_
  rintro e w' ⟨rfl, rfl⟩
  rw [WZ.out]
  go_wp2_with fail
  refine (pcut_any _ _ _ (by omega) (by omega) (by omega) (by omega)).mono ?_
  rintro e w' ⟨rfl, rfl⟩
  rw [HC.out]
  go_wp2_with fail
  refine (whole_any _ _ _ _ _ (by omega) (by omega) (by omega) (by omega) (by omega) (by omega)).mono ?_
  rintro e w' ⟨rfl, rfl⟩
  rw [HM.out]
  go_wp2_with fail
  refine (pcut_any _ _ _ (by omega) (by omega) (by omega) (by omega)).mono ?_
  rintro e w' ⟨rfl, rfl⟩
  rw [HE.out]
  go_wp2_with (go_at_call 8; refine (pknown_any _).mono ?_; rintro e w' ⟨rfl, rfl⟩)
  all_goals first
    | (exfalso; omega)
    | (go_ret
       exact ⟨rfl, b2⟩)
    | (go_ret
       refine ⟨?_, b2⟩
       simp
       omega)
theorem pnear_law (a low k : Int) (w : World) (w0 : (Lit.int .u64 a).wf = true) (w1 : (Lit.int .u32 low).wf = true) (w2 : (Lit.int .i64 k).wf = true) :
    Calls Try.prog 6 #[.int .u64 a, .int .u32 low, .int .i64 k] w fun e w' => e = .returned (.bool true) ∧ Below w.heap.size w w' := by
  obtain ⟨a0, a1⟩ := bounds_u64 w0
  obtain ⟨b0, b1⟩ := bounds_u32 w1
  obtain ⟨k0, k1⟩ := bounds_i64 w2
  have s0 := smallS_bd a a0
  have v1 := withinS_bd k 1 4 (by omega)
  have h4 : withinS k 1 4 = 1 ∨ withinS k 1 4 = 2 ∨ withinS k 1 4 = 3 ∨ withinS k 1 4 = 4 := by omega
  rcases h4 with h | h | h | h
  · exact pnear_1 a low k w a0 a1 b0 b1 k0 k1 _ (Lib.hid rfl) s0.1 s0.2 (Lib.hid h)
  · exact pnear_2 a low k w a0 a1 b0 b1 k0 k1 _ (Lib.hid rfl) s0.1 s0.2 (Lib.hid h)
  · exact pnear_3 a low k w a0 a1 b0 b1 k0 k1 _ (Lib.hid rfl) s0.1 s0.2 (Lib.hid h)
  · exact pnear_4 a low k w a0 a1 b0 b1 k0 k1 _ (Lib.hid rfl) s0.1 s0.2 (Lib.hid h)
end Go.Proofs.Ytdcnfkejnhenoaa
