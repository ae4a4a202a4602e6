/-
  PnumTells returns true at every input: its walk; the statements' own 'known' and 'same' of layer 3.
-/
import Derived.Test.YtdcnfkejnhenoaaPn4
import Derived.Test.YtdcnfkejnhenoaaSmall
namespace Go.Proofs.Ytdcnfkejnhenoaa
set_option linter.unusedVariables false
open Go.RowKit
theorem pknown_1 : wholeS 2821664874 true 39730 2 = 2821692210 := by decide
theorem pknown_2 : widthS 0 0 false = 1 := by decide
theorem pknown_3 : wholeS 0 false 5 1 = 5 := by decide
theorem pknown_any (w : World) : Calls Try.prog 8 #[] w fun e w' => e = .returned (.bool true) ∧ w = w' := by
  have e1 := pknown_1
  have e2 := pknown_2
  have e3 := pknown_3
  go_enter Try.func8, Try.ntmps8
  go_wp2_with (first
    | (go_at_call 12; refine (whole_any _ _ _ _ _ (by omega) (by omega) (by omega) (by omega) (by omega) (by omega)).mono ?_; rintro e w' ⟨rfl, rfl⟩)
    | (go_at_call 11; refine (width_any _ _ _ _ (by omega) (by omega) (by omega) (by omega)).mono ?_; rintro e w' ⟨rfl, rfl⟩))
  go_ret
  exact ⟨rfl, rfl⟩
set_option maxRecDepth 100000 in
theorem psame_any (n a : Int) (has : Bool) (low k : Int) (w : World) (h0 : 0 ≤ n) (h1 : n < 18446744073709551616) (ha0 : 0 ≤ a) (ha1 : a < 18446744073709551616)
    (hl0 : 0 ≤ low) (hl1 : low < 4294967296) (hk0 : -9223372036854775808 ≤ k) (hk1 : k ≤ 9223372036854775807) :
    Calls Try.prog 7 #[.int .u64 n, .int .u64 a, .bool has, .int .u32 low, .int .i64 k] w fun e w' => e = .returned (.bool true) ∧ ∃ d, w' = w.drewN d := by
  go_enter Try.func7, Try.ntmps7
  go_wp2_with (first
    | (go_at_call 12; refine (whole_any _ _ _ _ _ (by omega) (by omega) (by omega) (by omega) (by omega) (by omega)).mono ?_; rintro e w' ⟨rfl, rfl⟩)
    | (go_at_call 13; refine (pcut_any _ _ _ (by omega) (by omega) (by omega) (by omega)).mono ?_; rintro e w' ⟨rfl, rfl⟩)
    | (go_at_call 11; refine (width_any _ _ _ _ (by omega) (by omega) (by omega) (by omega)).mono ?_; rintro e w' ⟨rfl, rfl⟩)
    | (go_at_call 16; refine (rwhole_any _ _ _ _ _ (by omega) (by omega) (by omega) (by omega) (by omega) (by omega)).mono ?_; rintro e w' ⟨rfl, d, rfl⟩)
    | (go_at_call 15; refine (rpcut_any _ _ _ (by omega) (by omega) (by omega) (by omega)).mono ?_; rintro e w' ⟨rfl, rfl⟩)
    | (go_at_call 14; refine (rwidth_any _ _ _ _ (by omega) (by omega) (by omega) (by omega)).mono ?_; rintro e w' ⟨rfl, rfl⟩))
  go_ret
  exact ⟨rfl, d, rfl⟩
set_option maxRecDepth 100000 in
theorem ptells_law (n a : Int) (has : Bool) (low k : Int) (w : World) (w0 : (Lit.int .u64 n).wf = true) (w1 : (Lit.int .u64 a).wf = true) (w3 : (Lit.int .u32 low).wf = true) (w4 : (Lit.int .i64 k).wf = true) :
    Calls Try.prog 4 #[.int .u64 n, .int .u64 a, .bool has, .int .u32 low, .int .i64 k] w fun e w' => e = .returned (.bool true) ∧ Below w.heap.size w w' := by
  obtain ⟨h0, h1⟩ := bounds_u64 w0
  obtain ⟨g0, g1⟩ := bounds_u64 w1
  obtain ⟨l0, l1⟩ := bounds_u32 w3
  obtain ⟨k0, k1⟩ := bounds_i64 w4
  clear w0 w1 w3 w4
  have s0 := smallS_bd n h0
  have s1 := smallS_bd a g0
  have v1 := withinS_bd k 1 4 (by omega)
  obtain ⟨x, hx⟩ : ∃ x, smallS n = x := ⟨_, rfl⟩
  obtain ⟨y, hy⟩ : ∃ x, smallS a = x := ⟨_, rfl⟩
  obtain ⟨z, hz⟩ : ∃ x, withinS k 1 4 = x := ⟨_, rfl⟩
  rw [hx] at s0; rw [hy] at s1; rw [hz] at v1
  have SX := Lib.hid hx; clear hx
  have SY := Lib.hid hy; clear hy
  have WZ := Lib.hid hz; clear hz
  obtain ⟨s0, s00⟩ := s0
  obtain ⟨s1, s11⟩ := s1
  obtain ⟨v1, v11⟩ := v1
  go_enter Try.func4, Try.ntmps4
  go_wp2_with fail
  refine (psame_any _ _ _ _ _ _ (by omega) (by omega) (by omega) (by omega) (by omega) (by omega) (by omega) (by omega)).mono ?_
  rintro e w1 ⟨rfl, d1, rfl⟩
  go_wp2_with fail
  refine (small_any n _ (by omega) (by omega)).mono ?_
  rintro e w2 ⟨rfl, b2⟩
  rw [SX.out]
  go_wp2_with fail
  refine (small_any a _ (by omega) (by omega)).mono ?_
  rintro e w3 ⟨rfl, b3⟩
  rw [SY.out]
  go_wp2_with fail
  refine (within_any k 1 4 _ (by omega) (by omega) (by omega) (by omega) (by omega)).mono ?_
  rintro e w' ⟨rfl, rfl⟩
  rw [WZ.out]
  go_wp2_with fail
  refine (psame_any _ _ _ _ _ _ (by omega) (by omega) (by omega) (by omega) (by omega) (by omega) (by omega) (by omega)).mono ?_
  rintro e w4 ⟨rfl, d4, rfl⟩
  go_wp2_with fail
  refine (pknown_any _).mono ?_
  rintro e w' ⟨rfl, rfl⟩
  go_wp2_with fail
  go_ret
  have q1 : Below w.heap.size w (w.drewN d1) := below_drewN (Below.refl _ _) d1
  have q2 := q1.trans (b2.mono q1.size)
  have q3 := q2.trans (b3.mono q2.size)
  exact ⟨rfl, below_drewN q3 d4⟩
end Go.Proofs.Ytdcnfkejnhenoaa
