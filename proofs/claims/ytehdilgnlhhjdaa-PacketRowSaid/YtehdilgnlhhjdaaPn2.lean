/-
  What Width and Whole of package pnum answer, for every number, width and mark.
-/
import Derived.Test.YtehdilgnlhhjdaaPn
namespace Go.Proofs.Ytehdilgnlhhjdaa
set_option linter.unusedVariables false
open Go.RowKit
theorem win_vals : winS 1 = 256 ∧ winS 2 = 65536 ∧ winS 3 = 16777216 ∧ winS 4 = 4294967296 := by decide
set_option maxRecDepth 100000 in
theorem whole_any (l : Int) (has : Bool) (low k : Int) (w : World) (h0 : 0 ≤ l) (h1 : l < 18446744073709551616) (hl0 : 0 ≤ low) (hl1 : low < 4294967296) (hk0 : -9223372036854775808 ≤ k) (hk1 : k ≤ 9223372036854775807) :
    Calls Try.prog 39 #[.int .u64 l, .bool has, .int .u32 low, .int .i64 k] w fun e w' => e = .returned (.int .u64 (wholeS l has low k)) ∧ w = w' := by
  obtain ⟨p, hp⟩ : ∃ p, pW k = p := ⟨_, rfl⟩
  have h4 := pW_four k
  have hn : 0 ≤ follS l has ∧ follS l has ≤ 4611686018427387904 := by unfold follS; split <;> omega
  have hf : wholeS l has low k = upS (follS l has) (winS k) (follS l has - follS l has % winS k + low % winS k) := rfl
  have hw : winS k = winS p := by unfold winS; rw [hp]; unfold pW at hp ⊢; rw [show min (max p 1) 4 = p by omega]
  obtain ⟨next, hnx⟩ : ∃ n, follS l has = n := ⟨_, rfl⟩
  rw [hnx] at hn hf
  obtain ⟨hn0, hn1⟩ := hn
  rw [hp] at h4
  rw [hw] at hf
  have HP := Lib.hid hp; clear hp hw
  have HN := Lib.hid hnx; clear hnx
  have e1 := low_8
  have e2 := low_16
  have e3 := low_24
  have e4 := low_32
  have f1 := win_vals.1
  have f2 := win_vals.2.1
  have f3 := win_vals.2.2.1
  have f4 := win_vals.2.2.2
  rcases h4 with rfl | rfl | rfl | rfl
  · rw [f1] at hf
    unfold upS at hf
    have H := Lib.hid hf; clear hf
    go_enter Try.func39, Try.ntmps39
    go_wp2_with (first
      | (go_at_call 62; refine (pwithin_any _ _ (by omega) (by omega)).mono ?_; rintro e w' ⟨rfl, rfl⟩; rw [HP.out])
      | (go_at_call 69; refine (follower_any _ _ _ (by omega) (by omega)).mono ?_; rintro e w' ⟨rfl, rfl⟩; rw [HN.out])
      | (go_at_call 70; refine (window_any _ _ (by omega)).mono ?_; rintro e w' ⟨rfl, rfl⟩)
      | (go_at_call 61; refine (low_any _ _ _ (by omega) (by omega) (by omega) (by omega)).mono ?_; rintro e w' ⟨rfl, rfl⟩))
    all_goals
      go_ret
      exact ⟨ret_int (by rw [H.out]; (repeat' split) <;> omega), rfl⟩
  · rw [f2] at hf
    unfold upS at hf
    have H := Lib.hid hf; clear hf
    go_enter Try.func39, Try.ntmps39
    go_wp2_with (first
      | (go_at_call 62; refine (pwithin_any _ _ (by omega) (by omega)).mono ?_; rintro e w' ⟨rfl, rfl⟩; rw [HP.out])
      | (go_at_call 69; refine (follower_any _ _ _ (by omega) (by omega)).mono ?_; rintro e w' ⟨rfl, rfl⟩; rw [HN.out])
      | (go_at_call 70; refine (window_any _ _ (by omega)).mono ?_; rintro e w' ⟨rfl, rfl⟩)
      | (go_at_call 61; refine (low_any _ _ _ (by omega) (by omega) (by omega) (by omega)).mono ?_; rintro e w' ⟨rfl, rfl⟩))
    all_goals
      go_ret
      exact ⟨ret_int (by rw [H.out]; (repeat' split) <;> omega), rfl⟩
  · rw [f3] at hf
    unfold upS at hf
    have H := Lib.hid hf; clear hf
    go_enter Try.func39, Try.ntmps39
    go_wp2_with (first
      | (go_at_call 62; refine (pwithin_any _ _ (by omega) (by omega)).mono ?_; rintro e w' ⟨rfl, rfl⟩; rw [HP.out])
      | (go_at_call 69; refine (follower_any _ _ _ (by omega) (by omega)).mono ?_; rintro e w' ⟨rfl, rfl⟩; rw [HN.out])
      | (go_at_call 70; refine (window_any _ _ (by omega)).mono ?_; rintro e w' ⟨rfl, rfl⟩)
      | (go_at_call 61; refine (low_any _ _ _ (by omega) (by omega) (by omega) (by omega)).mono ?_; rintro e w' ⟨rfl, rfl⟩))
    all_goals
      go_ret
      exact ⟨ret_int (by rw [H.out]; (repeat' split) <;> omega), rfl⟩
  · rw [f4] at hf
    unfold upS at hf
    have H := Lib.hid hf; clear hf
    go_enter Try.func39, Try.ntmps39
    go_wp2_with (first
      | (go_at_call 62; refine (pwithin_any _ _ (by omega) (by omega)).mono ?_; rintro e w' ⟨rfl, rfl⟩; rw [HP.out])
      | (go_at_call 69; refine (follower_any _ _ _ (by omega) (by omega)).mono ?_; rintro e w' ⟨rfl, rfl⟩; rw [HN.out])
      | (go_at_call 70; refine (window_any _ _ (by omega)).mono ?_; rintro e w' ⟨rfl, rfl⟩)
      | (go_at_call 61; refine (low_any _ _ _ (by omega) (by omega) (by omega) (by omega)).mono ?_; rintro e w' ⟨rfl, rfl⟩))
    all_goals
      go_ret
      exact ⟨ret_int (by rw [H.out]; (repeat' split) <;> omega), rfl⟩
end Go.Proofs.Ytehdilgnlhhjdaa
