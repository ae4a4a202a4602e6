/-
  What each function of package pnum answers, for every number, width and mark.
-/
import Derived.Test.YtehdilgnlhhjdaaMq4
import Derived.Deep.QuietTactic
import Derived.BigQuiet
namespace Go.Proofs.Ytehdilgnlhhjdaa
set_option linter.unusedVariables false
open Go.RowKit
def pW (k : Int) : Int := min (max k 1) 4
theorem pW_four (k : Int) : pW k = 1 ∨ pW k = 2 ∨ pW k = 3 ∨ pW k = 4 := by unfold pW; omega
def winS (k : Int) : Int := if pW k = 1 then 256 else if pW k = 2 then 65536 else if pW k = 3 then 16777216 else 4294967296
def cutS (n k : Int) : Int := n % winS k
def follS (l : Int) (has : Bool) : Int := if has = true then min l 4611686018427387903 + 1 else 0
def upS (next win c : Int) : Int :=
  if c + win / 2 ≤ next ∧ c < 4611686018427387904 - win then c + win else if next + win / 2 < c ∧ win ≤ c then c - win else c
def wholeS (l : Int) (has : Bool) (low k : Int) : Int :=
  upS (follS l has) (winS k) (follS l has - follS l has % winS k + low % winS k)
theorem low_8 (n : Int) : lowS n 8 = n % 256 := by simp [lowS]
theorem low_16 (n : Int) : lowS n 16 = n % 65536 := by simp [lowS]
theorem low_24 (n : Int) : lowS n 24 = n % 16777216 := by simp [lowS]
theorem low_32 (n : Int) : lowS n 32 = n % 4294967296 := by simp [lowS]
theorem pwithin_any (k : Int) (w : World) (h0 : -9223372036854775808 ≤ k) (h1 : k ≤ 9223372036854775807) :
    Calls Try.prog 62 #[.int .i64 k] w fun e w' => e = .returned (.int .i64 (pW k)) ∧ w = w' := by
  have hf : pW k = min (max k 1) 4 := rfl
  have H := Lib.hid hf; clear hf
  go_enter Try.func62, Try.ntmps62
  go_wp2
  all_goals
    go_ret
    exact ⟨ret_int (by rw [H.out]; omega), rfl⟩
theorem window_any (k : Int) (w : World) (h : k = 1 ∨ k = 2 ∨ k = 3 ∨ k = 4) :
    Calls Try.prog 70 #[.int .i64 k] w fun e w' => e = .returned (.int .u64 (winS k)) ∧ w = w' := by
  rcases h with rfl | rfl | rfl | rfl
  all_goals
    go_enter Try.func70, Try.ntmps70
    go_wp2
    go_ret
    exact ⟨ret_int (by decide), rfl⟩
theorem follower_any (l : Int) (has : Bool) (w : World) (h0 : 0 ≤ l) (h1 : l < 18446744073709551616) :
    Calls Try.prog 69 #[.int .u64 l, .bool has] w fun e w' => e = .returned (.int .u64 (follS l has)) ∧ w = w' := by
  cases has
  · go_enter Try.func69, Try.ntmps69
    go_wp2
    go_ret
    exact ⟨rfl, rfl⟩
  · have hf : follS l true = min l 4611686018427387903 + 1 := rfl
    have H := Lib.hid hf; clear hf
    go_enter Try.func69, Try.ntmps69
    go_wp2
    all_goals
      go_ret
      exact ⟨ret_int (by rw [H.out]; omega), rfl⟩
theorem pcut_any (n k : Int) (w : World) (h0 : 0 ≤ n) (h1 : n < 18446744073709551616) (hk0 : -9223372036854775808 ≤ k) (hk1 : k ≤ 9223372036854775807) :
    Calls Try.prog 34 #[.int .u64 n, .int .i64 k] w fun e w' => e = .returned (.int .u32 (cutS n k)) ∧ w = w' := by
  obtain ⟨p, hp⟩ : ∃ p, pW k = p := ⟨_, rfl⟩
  have h4 := pW_four k
  have hf : cutS n k = n % winS k := rfl
  unfold winS at hf
  rw [hp] at h4 hf
  have HP := Lib.hid hp; clear hp
  have e1 := low_8 n
  have e2 := low_16 n
  have e3 := low_24 n
  have e4 := low_32 n
  rcases h4 with rfl | rfl | rfl | rfl
  all_goals
    simp only [reduceIte, Int.reduceEq] at hf
    have H := Lib.hid hf; clear hf
    go_enter Try.func34, Try.ntmps34
    go_wp2_with (first
      | (go_at_call 62; refine (pwithin_any _ _ (by omega) (by omega)).mono ?_; rintro e w' ⟨rfl, rfl⟩; rw [HP.out])
      | (go_at_call 61; refine (low_any _ _ _ (by omega) (by omega) (by omega) (by omega)).mono ?_; rintro e w' ⟨rfl, rfl⟩))
    go_ret
    exact ⟨ret_int (by rw [H.out]), rfl⟩
end Go.Proofs.Ytehdilgnlhhjdaa
