/-
  What Width and Whole of package pnum answer, for every number, width and mark.
-/
import Derived.Test.YtdcnfkejnhenoaaPn
namespace Go.Proofs.Ytdcnfkejnhenoaa
set_option linter.unusedVariables false
open Go.RowKit
theorem win_vals : winS 1 = 256 ∧ winS 2 = 65536 ∧ winS 3 = 16777216 ∧ winS 4 = 4294967296 := by decide
set_option maxRecDepth 100000 in
theorem width_any (n a : Int) (has : Bool) (w : World) (h0 : 0 ≤ n) (h1 : n < 18446744073709551616) (ha0 : 0 ≤ a) (ha1 : a < 18446744073709551616) :
    Calls Try.prog 11 #[.int .u64 n, .int .u64 a, .bool has] w fun e w' => e = .returned (.int .i64 (widthS n a has)) ∧ w = w' := by
  have hd0 : 0 ≤ pDist n a has ∧ pDist n a has < 18446744073709551616 := by unfold pDist; split <;> omega
  have hf : widthS n a has = if pDist n a has ≤ 128 then 1 else if pDist n a has ≤ 32768 then 2 else if pDist n a has ≤ 8388608 then 3 else 4 := rfl
  obtain ⟨d, hd⟩ : ∃ d, pDist n a has = d := ⟨_, rfl⟩
  rw [hd] at hd0 hf
  have HD := Lib.hid hd; clear hd
  have H := Lib.hid hf; clear hf
  obtain ⟨hd0, hd1⟩ := hd0
  go_enter Try.func11, Try.ntmps11
  go_wp2_with (go_at_call 17; refine (distance_any _ _ _ _ (by omega) (by omega) (by omega) (by omega)).mono ?_; rintro e w' ⟨rfl, rfl⟩; rw [HD.out])
  go_loopw [8] (fun i wr => ∃ k : Nat, 1 ≤ k ∧ k ≤ 4 ∧ i = .int .i64 k ∧ wr = w ∧ (2 ≤ k → 128 < d) ∧ (3 ≤ k → 32768 < d) ∧ (4 ≤ k → 8388608 < d)) (fun i _ => 4 - (intOf i).toNat)
  case atStart => exact ⟨1, by omega, by omega, rfl, rfl, by omega, by omega, by omega⟩
  case round =>
    obtain ⟨k, hk1, hk4, rfl, rfl, q2, q3, q4⟩ := hrel
    have hk : k = 1 ∨ k = 2 ∨ k = 3 ∨ k = 4 := by omega
    have e1 := win_vals.1
    have e2 := win_vals.2.1
    have e3 := win_vals.2.2.1
    have cw : ∀ b : Int, d ≤ b → decide (d ≤ b) = true := fun b h => by simpa using h
    have cx : ∀ b : Int, b < d → decide (d ≤ b) = false := fun b h => by simpa using h
    rcases hk with rfl | rfl | rfl | rfl
    · rcases Int.lt_or_le 128 d with hc | hc
      · go_wp2_with (go_at_call 18; refine (window_any _ _ (by omega)).mono ?_; rintro e w' ⟨rfl, rfl⟩)
        go_roundw
        case rel => exact ⟨2, by omega, by omega, by go_num, by trivial, by omega, by omega, by omega⟩
        case measure => simp [intOf]
      · go_wp2_with (go_at_call 18; refine (window_any _ _ (by omega)).mono ?_; rintro e w' ⟨rfl, rfl⟩)
        go_ret
        exact ⟨ret_int (by rw [H.out]; rw [if_pos hc]), rfl⟩
    · rcases Int.lt_or_le 32768 d with hc | hc
      · go_wp2_with (go_at_call 18; refine (window_any _ _ (by omega)).mono ?_; rintro e w' ⟨rfl, rfl⟩)
        go_roundw
        case rel => exact ⟨3, by omega, by omega, by go_num, by trivial, by omega, by omega, by omega⟩
        case measure => simp [intOf]
      · go_wp2_with (go_at_call 18; refine (window_any _ _ (by omega)).mono ?_; rintro e w' ⟨rfl, rfl⟩)
        go_ret
        exact ⟨ret_int (by rw [H.out]; rw [if_neg (by omega)]; rw [if_pos hc]), rfl⟩
    · rcases Int.lt_or_le 8388608 d with hc | hc
      · go_wp2_with (go_at_call 18; refine (window_any _ _ (by omega)).mono ?_; rintro e w' ⟨rfl, rfl⟩)
        go_roundw
        case rel => exact ⟨4, by omega, by omega, by go_num, by trivial, by omega, by omega, by omega⟩
        case measure => simp [intOf]
      · go_wp2_with (go_at_call 18; refine (window_any _ _ (by omega)).mono ?_; rintro e w' ⟨rfl, rfl⟩)
        go_ret
        exact ⟨ret_int (by rw [H.out]; rw [if_neg (by omega)]; rw [if_neg (by omega)]; rw [if_pos hc]), rfl⟩
    · go_wp2_with fail
      go_ret
      exact ⟨ret_int (by rw [H.out, if_neg (by omega), if_neg (by omega), if_neg (by omega)]), rfl⟩
set_option maxRecDepth 100000 in
theorem whole_any (l : Int) (has : Bool) (low k : Int) (w : World) (h0 : 0 ≤ l) (h1 : l < 18446744073709551616) (hl0 : 0 ≤ low) (hl1 : low < 4294967296) (hk0 : -9223372036854775808 ≤ k) (hk1 : k ≤ 9223372036854775807) :
    Calls Try.prog 12 #[.int .u64 l, .bool has, .int .u32 low, .int .i64 k] w fun e w' => e = .returned (.int .u64 (wholeS l has low k)) ∧ w = w' := by
  obtain ⟨p, hp⟩ : ∃ p, pW k = p := ⟨_, rfl⟩
  have h4 := pW_four k
  have hn : 0 ≤ follS l has ∧ follS l has ≤ 4611686018427387904 := by unfold follS; split <;> omega
  have hf : wholeS l has low k = upS (follS l has) (winS k) (follS l has - follS l has % winS k + low % winS k) := rfl
  have hw : winS k = winS p := by unfold winS; rw [hp]; unfold pW at hp ⊢; rw [show min (max p 1) 4 = p by omega]
  obtain ⟨next, hnx⟩ : ∃ n, follS l has = n := ⟨_, rfl⟩
  rw [hnx] at hn hf
  obtain ⟨hn0, hn1⟩ := hn
  rw [hp] at h4
  rw [hw] at hf
  have HP := Lib.hid hp; clear hp hw
  have HN := Lib.hid hnx; clear hnx
  have e1 := low_8
  have e2 := low_16
  have e3 := low_24
  have e4 := low_32
  have f1 := win_vals.1
  have f2 := win_vals.2.1
  have f3 := win_vals.2.2.1
  have f4 := win_vals.2.2.2
  rcases h4 with rfl | rfl | rfl | rfl
  · rw [f1] at hf
    unfold upS at hf
    have H := Lib.hid hf; clear hf
    go_enter Try.func12, Try.ntmps12
    go_wp2_with (first
      | (go_at_call 19; refine (pwithin_any _ _ (by omega) (by omega)).mono ?_; rintro e w' ⟨rfl, rfl⟩; rw [HP.out])
      | (go_at_call 20; refine (follower_any _ _ _ (by omega) (by omega)).mono ?_; rintro e w' ⟨rfl, rfl⟩; rw [HN.out])
      | (go_at_call 18; refine (window_any _ _ (by omega)).mono ?_; rintro e w' ⟨rfl, rfl⟩)
      | (go_at_call 21; refine (low_any _ _ _ (by omega) (by omega) (by omega) (by omega)).mono ?_; rintro e w' ⟨rfl, rfl⟩))
    all_goals
      go_ret
      exact ⟨ret_int (by rw [H.out]; (repeat' split) <;> omega), rfl⟩
  · rw [f2] at hf
    unfold upS at hf
    have H := Lib.hid hf; clear hf
    go_enter Try.func12, Try.ntmps12
    go_wp2_with (first
      | (go_at_call 19; refine (pwithin_any _ _ (by omega) (by omega)).mono ?_; rintro e w' ⟨rfl, rfl⟩; rw [HP.out])
      | (go_at_call 20; refine (follower_any _ _ _ (by omega) (by omega)).mono ?_; rintro e w' ⟨rfl, rfl⟩; rw [HN.out])
      | (go_at_call 18; refine (window_any _ _ (by omega)).mono ?_; rintro e w' ⟨rfl, rfl⟩)
      | (go_at_call 21; refine (low_any _ _ _ (by omega) (by omega) (by omega) (by omega)).mono ?_; rintro e w' ⟨rfl, rfl⟩))
    all_goals
      go_ret
      exact ⟨ret_int (by rw [H.out]; (repeat' split) <;> omega), rfl⟩
  · rw [f3] at hf
    unfold upS at hf
    have H := Lib.hid hf; clear hf
    go_enter Try.func12, Try.ntmps12
    go_wp2_with (first
      | (go_at_call 19; refine (pwithin_any _ _ (by omega) (by omega)).mono ?_; rintro e w' ⟨rfl, rfl⟩; rw [HP.out])
      | (go_at_call 20; refine (follower_any _ _ _ (by omega) (by omega)).mono ?_; rintro e w' ⟨rfl, rfl⟩; rw [HN.out])
      | (go_at_call 18; refine (window_any _ _ (by omega)).mono ?_; rintro e w' ⟨rfl, rfl⟩)
      | (go_at_call 21; refine (low_any _ _ _ (by omega) (by omega) (by omega) (by omega)).mono ?_; rintro e w' ⟨rfl, rfl⟩))
    all_goals
      go_ret
      exact ⟨ret_int (by rw [H.out]; (repeat' split) <;> omega), rfl⟩
  · rw [f4] at hf
    unfold upS at hf
    have H := Lib.hid hf; clear hf
    go_enter Try.func12, Try.ntmps12
    go_wp2_with (first
      | (go_at_call 19; refine (pwithin_any _ _ (by omega) (by omega)).mono ?_; rintro e w' ⟨rfl, rfl⟩; rw [HP.out])
      | (go_at_call 20; refine (follower_any _ _ _ (by omega) (by omega)).mono ?_; rintro e w' ⟨rfl, rfl⟩; rw [HN.out])
      | (go_at_call 18; refine (window_any _ _ (by omega)).mono ?_; rintro e w' ⟨rfl, rfl⟩)
      | (go_at_call 21; refine (low_any _ _ _ (by omega) (by omega) (by omega) (by omega)).mono ?_; rintro e w' ⟨rfl, rfl⟩))
    all_goals
      go_ret
      exact ⟨ret_int (by rw [H.out]; (repeat' split) <;> omega), rfl⟩
end Go.Proofs.Ytdcnfkejnhenoaa
