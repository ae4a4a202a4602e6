/-
  BitsNumbers, the closed sentence of chapter 1's runs, returns true: its walk.
-/
import Derived.Test.YtpegfmgbmfoiaaaVars
import Derived.Test.YtpegfmgbmfoiaaaZeros
import Derived.Test.YtpegfmgbmfoiaaaKnown
namespace Go.Proofs.Ytpegfmgbmfoiaaa
set_option linter.unusedVariables false
open Go.RowKit
theorem four_cells (w : World) (t : TypeId) (v0 v1 v2 v3 : Int) (h0 : 0 ≤ v0 ∧ v0 < 18446744073709551616) (h1 : 0 ≤ v1 ∧ v1 < 18446744073709551616) (h2 : 0 ≤ v2 ∧ v2 < 18446744073709551616) (h3 : 0 ≤ v3 ∧ v3 < 18446744073709551616)
    (w' : World) (hb : Below (w.heap.size + 1) (w.alloc (.cells #[.int .u64 v0, .int .u64 v1, .int .u64 v2, .int .u64 v3] t)) w') (j : Nat) (hj : j < 4) :
    ∃ u, w'.cell? ⟨w.heap.size, j, none⟩ = some (.int .u64 u) ∧ 0 ≤ u ∧ u < 18446744073709551616 := by
  have hc : w'.cell? ⟨w.heap.size, j, none⟩ = #[Value.int .u64 v0, .int .u64 v1, .int .u64 v2, .int .u64 v3][j]? := by
    rw [hb.cell (p := ⟨w.heap.size, j, none⟩) (show w.heap.size < _ by omega)]
    exact cell_of_row _ _ _ _ t (0, 0) (heap_alloc_new w _)
  have : j = 0 ∨ j = 1 ∨ j = 2 ∨ j = 3 := by omega
  rcases this with rfl | rfl | rfl | rfl
  · exact ⟨v0, hc, h0⟩
  · exact ⟨v1, hc, h1⟩
  · exact ⟨v2, hc, h2⟩
  · exact ⟨v3, hc, h3⟩
set_option maxRecDepth 100000 in
set_option maxHeartbeats 4000000 in
theorem numbers_walk (w : World) :
    Calls Try.prog 3 #[] w fun e w' => e = .returned (.bool true) ∧ Below w.heap.size w w' := by
  obtain ⟨i0, hi, hz0, hz1, hz2⟩ := info_parts u8_info
  go_enter Try.func3, Try.ntmps3
  go_wp2_with fail
  go_loopw [1] (fun i wr => ∃ k : Nat, k ≤ 64 ∧ i = .int .i64 k ∧ Below w.heap.size w wr) (fun i _ => 64 - (intOf i).toNat)
  case atStart => exact ⟨0, by omega, rfl, Below.refl _ _⟩
  case round =>
    obtain ⟨k, hk, rfl, hbr⟩ := hrel
    obtain ⟨wo, rfl⟩ : ∃ wo : World, wo = wr := ⟨_, rfl⟩
    by_cases hlt : k < 64
    · have hd : decide ((k : Int) < 64) = true := by simp; omega
      obtain ⟨v0, e0⟩ : ∃ v, IntKind.u64.wrap (2 ^ k) = v := ⟨_, rfl⟩
      obtain ⟨v1, e1⟩ : ∃ v, IntKind.u64.wrap (v0 - 1) = v := ⟨_, rfl⟩
      obtain ⟨v2, e2⟩ : ∃ v, IntKind.u64.wrap (-v0) = v := ⟨_, rfl⟩
      obtain ⟨v3, e3⟩ : ∃ v : Int, 11400714819323198485 / 2 ^ k = v := ⟨_, rfl⟩
      have b0 : 0 ≤ v0 ∧ v0 < 18446744073709551616 := by rw [← e0, IntKind.wrap_u64]; omega
      have b1 : 0 ≤ v1 ∧ v1 < 18446744073709551616 := by rw [← e1, IntKind.wrap_u64]; omega
      have b2 : 0 ≤ v2 ∧ v2 < 18446744073709551616 := by rw [← e2, IntKind.wrap_u64]; omega
      have b3 : 0 ≤ v3 ∧ v3 < 18446744073709551616 := by
        have hp := pow_pos' k
        rw [← e3]
        refine ⟨Int.ediv_nonneg (by omega) (by omega), ?_⟩
        have := Int.ediv_le_self (a := 11400714819323198485) (2 ^ k) (by omega)
        omega
      go_wp2_with fail
      clear e0 e1 e2 e3
      have hws := hbr.size
      go_loopw [27] (fun i wr => ∃ j : Nat, j ≤ 4 ∧ i = .int .i64 j ∧ Below (wo.heap.size + 1) (wo.alloc (.cells #[.int .u64 v0, .int .u64 v1, .int .u64 v2, .int .u64 v3] 22)) wr) (fun i _ => 4 - (intOf i).toNat)
      case atStart => exact ⟨0, by omega, rfl, Below.refl _ _⟩
      case round =>
        obtain ⟨j, hj, rfl, hb2⟩ := hrel
        obtain ⟨wi, rfl⟩ : ∃ wi : World, wi = wr := ⟨_, rfl⟩
        have hall : Below w.heap.size w wi := (hbr.alloc hws _).trans (hb2.mono (by omega))
        by_cases hj4 : j < 4
        · have hdj : decide ((j : Int) < 4) = true := by simp; omega
          obtain ⟨u, hcell, hu0, hu1⟩ := four_cells wo 22 v0 v1 v2 v3 b0 b1 b2 b3 wi hb2 j hj4
          have hb2s := hb2.size
          go_wp2_with fail
          refine (vars_any u wi hu0).mono ?_
          rintro e w3 ⟨rfl, k3⟩
          go_wp2_with fail
          go_loopw [4] (fun d wr => ∃ q : Int, -66 ≤ q ∧ q ≤ 70 ∧ d = .int .i64 q ∧ Below wi.heap.size wi wr) (fun d _ => (70 - intOf d).toNat)
          case atStart => exact ⟨-66, by omega, by omega, rfl, k3⟩
          case round =>
            obtain ⟨q, hq0, hq1, rfl, hb3⟩ := hrel
            obtain ⟨wj, rfl⟩ : ∃ wj : World, wj = wr := ⟨_, rfl⟩
            by_cases hq : q < 70
            · go_wp2_with fail
              refine (turns_any u q wj hu0 hu1 (by omega) (by omega)).mono ?_
              rintro e w4 ⟨rfl, k4⟩
              go_wp2_with fail
              go_roundw
              case rel => exact ⟨q + 1, by omega, by omega, rfl, hb3.trans (k4.mono hb3.size)⟩
              case measure => simp [intOf]; omega
            · go_wp2_with fail
              go_roundw
              case rel => exact ⟨j + 1, by omega, by go_num, hb2.trans (hb3.mono (by simpa using hb2s))⟩
              case measure => simp [intOf]; omega
        · obtain rfl : j = 4 := by omega
          go_wp2_with fail
          go_roundw
          case rel => exact ⟨k + 1, by omega, by go_num, hall⟩
          case measure => simp [intOf]; omega
    · obtain rfl : k = 64 := by omega
      rw [show ((64 : Nat) : Int) = 64 from rfl]
      go_wp2_with fail
      go_loopw [5] (fun i wr => ∃ j : Nat, j ≤ 256 ∧ i = .int .i64 j ∧ Below w.heap.size w wr) (fun i _ => 256 - (intOf i).toNat)
      case atStart => exact ⟨0, by omega, rfl, hbr⟩
      case round =>
        obtain ⟨x, hx, rfl, hbx⟩ := hrel
        obtain ⟨wi, rfl⟩ : ∃ wi : World, wi = wr := ⟨_, rfl⟩
        by_cases hx2 : x < 256
        · have hdx : decide ((x : Int) < 256) = true := by simp; omega
          go_wp2_with fail
          go_loopw [6] (fun i wr => ∃ j : Nat, j ≤ 9 ∧ i = .int .i64 j ∧ Below w.heap.size w wr) (fun i _ => 9 - (intOf i).toNat)
          case atStart => exact ⟨0, by omega, rfl, hbx⟩
          case round =>
            obtain ⟨n, hn, rfl, hbn⟩ := hrel
            obtain ⟨wj, rfl⟩ : ∃ wj : World, wj = wr := ⟨_, rfl⟩
            have hws := hbn.size
            by_cases hn2 : n < 9
            · have ry := Rd.byte wj 5 wj.heap.size rfl (x : Int) (by omega)
              go_wp2_with (at_builtin; refine wpList_append_zeros_rd rfl (.tmp 53) (.const (.int .i64 9)) 28 3 rfl w.heap.size 5 i0 .i64 .i64 Try.underlying28 Try.underlying3 hi hz0 hz1 hz2 _ (some ⟨wj.heap.size, 0, none⟩) 1 1 9 [(x : Int)] rfl ry (by omega) rfl (by omega) (by omega) (by omega) w (hbn.alloc hws _) (by simp; omega) ?_; intro v4 w4 ho4 k4 kk4; obtain ⟨A4, c4, rfl, h41, h42, hr4⟩ := ho4.open_n 10 rfl; obtain ⟨g, off, rfl, hg, hcell⟩ := hr4.2.2 (by omega); have h43 := h42; unfold maxLen at h43; clear hcell)
              refine (gets_any (some ⟨g, off, none⟩) n c4 _ w4 _ (hr4.cut (m := n) (by omega)) (by omega) h42).mono ?_
              rintro e w' ⟨rfl, rfl⟩
              go_wp2_with fail
              go_roundw
              case rel => exact ⟨n + 1, by omega, by go_num, k4⟩
              case measure => simp [intOf]; omega
            · obtain rfl : n = 9 := by omega
              go_wp2_with fail
              go_roundw
              case rel => exact ⟨x + 1, by omega, by go_num, hbn⟩
              case measure => simp [intOf]; omega
        · obtain rfl : x = 256 := by omega
          go_wp2_with fail
          refine (known_any _).mono ?_
          rintro e w5 ⟨rfl, k5⟩
          go_wp2_with fail
          go_ret
          exact ⟨rfl, hbx.trans (k5.mono hbx.size)⟩
end Go.Proofs.Ytpegfmgbmfoiaaa
