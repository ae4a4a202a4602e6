/-
  PnumNumbers, the closed sentence of chapter 3's runs, returns true: its walk.
-/
import Derived.Test.YtdcnfkejnhenoaaPtells
namespace Go.Proofs.Ytdcnfkejnhenoaa
set_option linter.unusedVariables false
open Go.RowKit
theorem nine_cells (w : World) (t : TypeId) (v : Int) (h : 0 ≤ v ∧ v < 4294967296)
    (w' : World) (hb : Below (w.heap.size + 1) (w.alloc (.cells #[.int .u32 0, .int .u32 1, .int .u32 127, .int .u32 128, .int .u32 255, .int .u32 256, .int .u32 32768, .int .u32 4294967295, .int .u32 v] t)) w') (j : Nat) (hj : j < 9) :
    ∃ u, w'.cell? ⟨w.heap.size, j, none⟩ = some (.int .u32 u) ∧ 0 ≤ u ∧ u < 4294967296 := by
  have hc : w'.cell? ⟨w.heap.size, j, none⟩ = #[Value.int .u32 0, .int .u32 1, .int .u32 127, .int .u32 128, .int .u32 255, .int .u32 256, .int .u32 32768, .int .u32 4294967295, .int .u32 v][j]? := by
    rw [hb.cell (p := ⟨w.heap.size, j, none⟩) (show w.heap.size < _ by omega)]
    exact cell_of_row _ _ _ _ t (0, 0) (heap_alloc_new w _)
  have : j = 0 ∨ j = 1 ∨ j = 2 ∨ j = 3 ∨ j = 4 ∨ j = 5 ∨ j = 6 ∨ j = 7 ∨ j = 8 := by omega
  rcases this with rfl | rfl | rfl | rfl | rfl | rfl | rfl | rfl | rfl
  · exact ⟨0, hc, by omega⟩
  · exact ⟨1, hc, by omega⟩
  · exact ⟨127, hc, by omega⟩
  · exact ⟨128, hc, by omega⟩
  · exact ⟨255, hc, by omega⟩
  · exact ⟨256, hc, by omega⟩
  · exact ⟨32768, hc, by omega⟩
  · exact ⟨4294967295, hc, by omega⟩
  · exact ⟨v, hc, h⟩
theorem psame_below (n a : Int) (has : Bool) (low k : Int) (w : World) (h0 : 0 ≤ n) (h1 : n < 18446744073709551616) (ha0 : 0 ≤ a) (ha1 : a < 18446744073709551616)
    (hl0 : 0 ≤ low) (hl1 : low < 4294967296) (hk0 : -9223372036854775808 ≤ k) (hk1 : k ≤ 9223372036854775807) :
    Calls Try.prog 7 #[.int .u64 n, .int .u64 a, .bool has, .int .u32 low, .int .i64 k] w fun e w' => e = .returned (.bool true) ∧ Below w.heap.size w w' :=
  (psame_any n a has low k w h0 h1 ha0 ha1 hl0 hl1 hk0 hk1).mono fun e w' ⟨he, d, hd⟩ => ⟨he, by rw [hd]; exact below_drewN (Below.refl _ _) d⟩
set_option maxRecDepth 100000 in
set_option maxHeartbeats 4000000 in
theorem pnumbers_law (w : World) :
    Calls Try.prog 3 #[] w fun e w' => e = .returned (.bool true) ∧ Below w.heap.size w w' := by
  go_enter Try.func3, Try.ntmps3
  go_wp2_with fail
  go_loopw [1] (fun i wr => ∃ k : Nat, k ≤ 63 ∧ i = .int .i64 k ∧ Below w.heap.size w wr) (fun i _ => 63 - (intOf i).toNat)
  case atStart => exact ⟨0, by omega, rfl, Below.refl _ _⟩
  case round =>
    obtain ⟨k, hk, rfl, hbr⟩ := hrel
    obtain ⟨wo, rfl⟩ : ∃ wo : World, wo = wr := ⟨_, rfl⟩
    by_cases hlt : k < 63
    · have hd : decide ((k : Int) < 63) = true := by simp; omega
      obtain ⟨s, hs⟩ : ∃ v, IntKind.u64.wrap (IntKind.u64.wrap (2 ^ k) - 2) = v := ⟨_, rfl⟩
      go_wp2_with fail
      go_loopw [2] (fun i wr => ∃ d : Nat, d ≤ 4 ∧ i = .int .u64 d ∧ Below w.heap.size w wr) (fun i _ => 4 - (intOf i).toNat)
      case atStart => exact ⟨0, by omega, rfl, hbr⟩
      case round =>
        obtain ⟨d, hd4, rfl, hb2⟩ := hrel
        obtain ⟨wi, rfl⟩ : ∃ wi : World, wi = wr := ⟨_, rfl⟩
        by_cases hdl : d < 4
        · have hdd : decide ((d : Int) < 4) = true := by simp; omega
          obtain ⟨n, hn⟩ : ∃ v, IntKind.u64.wrap (s + d) = v := ⟨_, rfl⟩
          have n0 : 0 ≤ n := by rw [← hn, IntKind.wrap_u64]; omega
          have n1 : n < 18446744073709551616 := by rw [← hn, IntKind.wrap_u64]; omega
          obtain ⟨v, hv⟩ : ∃ v, n % 4294967296 = v := ⟨_, rfl⟩
          have v0 : 0 ≤ v ∧ v < 4294967296 := by omega
          go_wp2_with fail
          go_loopw [4] (fun i wr => ∃ q : Int, -1 ≤ q ∧ q ≤ 7 ∧ i = .int .i64 q ∧ Below w.heap.size w wr) (fun i _ => (7 - intOf i).toNat)
          case atStart => exact ⟨-1, by omega, by omega, rfl, hb2⟩
          case round =>
            obtain ⟨q, hq0, hq1, rfl, hb3⟩ := hrel
            obtain ⟨wj, rfl⟩ : ∃ wj : World, wj = wr := ⟨_, rfl⟩
            by_cases hq : q < 7
            · go_wp2_with fail
              have hws := hb3.size
              have hv' := Lib.hid hv; clear hv
              go_loopw [29] (fun i wr => ∃ j : Nat, j ≤ 9 ∧ i = .int .i64 j ∧ Below (wj.heap.size + 1) (wj.alloc (.cells #[.int .u32 0, .int .u32 1, .int .u32 127, .int .u32 128, .int .u32 255, .int .u32 256, .int .u32 32768, .int .u32 4294967295, .int .u32 v] 24)) wr) (fun i _ => 9 - (intOf i).toNat)
              case atStart => exact ⟨0, by omega, rfl, Below.refl _ _⟩
              case round =>
                obtain ⟨j, hj, rfl, hb4⟩ := hrel
                obtain ⟨wk, rfl⟩ : ∃ wk : World, wk = wr := ⟨_, rfl⟩
                have hall : Below w.heap.size w wk := (hb3.alloc hws _).trans (hb4.mono (by omega))
                by_cases hj9 : j < 9
                · have hdj : decide ((j : Int) < 9) = true := by simp; omega
                  obtain ⟨u, hcell, hu0, hu1⟩ := nine_cells wj 24 v v0 wk hb4 j hj9
                  have hb4s := hb4.size
                  go_wp2_with fail
                  refine (psame_below _ _ _ _ _ _ (by omega) (by omega) (by omega) (by omega) (by omega) (by omega) (by omega) (by omega)).mono ?_
                  rintro e w5 ⟨rfl, b5⟩
                  go_wp2_with fail
                  refine (psame_below _ _ _ _ _ _ (by omega) (by omega) (by first | omega | (rw [IntKind.wrap_u64]; omega)) (by first | omega | (rw [IntKind.wrap_u64]; omega)) (by omega) (by omega) (by omega) (by omega)).mono ?_
                  rintro e w6 ⟨rfl, b6⟩
                  go_wp2_with fail
                  go_roundw
                  case rel => exact ⟨j + 1, by omega, by go_num, hb4.trans ((b5.trans (b6.mono b5.size)).mono (by simpa using hb4s))⟩
                  case measure => simp [intOf]; omega
                · obtain rfl : j = 9 := by omega
                  go_wp2_with fail
                  go_roundw
                  case rel => exact ⟨q + 1, by omega, by omega, rfl, hall⟩
                  case measure => simp [intOf]; omega
            · go_wp2_with fail
              go_roundw
              case rel => exact ⟨d + 1, by omega, by go_num, hb3⟩
              case measure => simp [intOf]; omega
        · obtain rfl : d = 4 := by omega
          go_wp2_with fail
          go_roundw
          case rel => exact ⟨k + 1, by omega, by go_num, hb2⟩
          case measure => simp [intOf]; omega
    · obtain rfl : k = 63 := by omega
      rw [show ((63 : Nat) : Int) = 63 from rfl]
      go_wp2_with fail
      refine (psame_below _ _ _ _ _ _ (by omega) (by omega) (by omega) (by omega) (by omega) (by omega) (by omega) (by omega)).mono ?_
      rintro e w1 ⟨rfl, b1⟩
      go_wp2_with fail
      refine (psame_below _ _ _ _ _ _ (by omega) (by omega) (by omega) (by omega) (by omega) (by omega) (by omega) (by omega)).mono ?_
      rintro e w2 ⟨rfl, b2⟩
      go_wp2_with fail
      refine (psame_below _ _ _ _ _ _ (by omega) (by omega) (by omega) (by omega) (by omega) (by omega) (by omega) (by omega)).mono ?_
      rintro e w3 ⟨rfl, b3⟩
      go_wp2_with fail
      refine (pknown_any _).mono ?_
      rintro e w' ⟨rfl, rfl⟩
      go_wp2_with fail
      go_ret
      exact ⟨rfl, hbr.trans ((b1.trans ((b2.trans (b3.mono b2.size)).mono b1.size)).mono hbr.size)⟩
end Go.Proofs.Ytdcnfkejnhenoaa
