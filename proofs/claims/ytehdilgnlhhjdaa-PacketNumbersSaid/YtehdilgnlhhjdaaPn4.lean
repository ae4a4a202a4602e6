/-
  What the document's own answer (narthexref3) of Whole is, for every number, width and mark.
-/
import Derived.Test.YtehdilgnlhhjdaaPn3
namespace Go.Proofs.Ytehdilgnlhhjdaa
set_option linter.unusedVariables false
open Go.RowKit
set_option maxRecDepth 100000 in
set_option maxHeartbeats 4000000 in
theorem rwhole_0f (l low k : Int) (w : World) (h0 : 0 ≤ l) (h1 : l < 18446744073709551616) (hl0 : 0 ≤ low) (hl1 : low < 4294967296) (hk0 : -9223372036854775808 ≤ k) (hk1 : k ≤ 9223372036854775807) (hk : k < 1) :
    Calls Try.prog 49 #[.int .u64 l, .bool false, .int .u32 low, .int .i64 k] w fun e w' => e = .returned (.int .u64 (wholeS l false low k)) ∧ ∃ d, w' = w.drewN d := by
  have hf : wholeS l false low k = upS (follS l false) (winS k) (follS l false - follS l false % winS k + low % winS k) := rfl
  rw [(win_of k).1 (by unfold pW; omega)] at hf
  have fc : cutS low 1 = low % 256 := by unfold cutS; rw [(win_of 1).1 (by unfold pW; omega)]
  have Q := fun j => rpcut_quiet low 1 _ w hl0 (by omega) (by omega) (by omega) fc j
  clear fc
  have hF : follS l false = 0 := by unfold follS; simp; try omega
  rw [hF] at hf
  unfold upS at hf
  have H := Lib.hid hf; clear hf hF
  go_enter Try.func49, Try.ntmps49
  go_wp2
  go_quiet ((go_at_call 22; exact Q _))
  go_wp2
  all_goals
    go_ret
    exact ⟨ret_int (by rw [H.out]; (repeat' split) <;> omega), _, rfl⟩
set_option maxRecDepth 100000 in
set_option maxHeartbeats 4000000 in
theorem rwhole_0t (l low k : Int) (w : World) (h0 : 0 ≤ l) (h1 : l < 18446744073709551616) (hl0 : 0 ≤ low) (hl1 : low < 4294967296) (hk0 : -9223372036854775808 ≤ k) (hk1 : k ≤ 9223372036854775807) (hk : k < 1) (hl : l ≤ 4611686018427387903) :
    Calls Try.prog 49 #[.int .u64 l, .bool true, .int .u32 low, .int .i64 k] w fun e w' => e = .returned (.int .u64 (wholeS l true low k)) ∧ ∃ d, w' = w.drewN d := by
  have hf : wholeS l true low k = upS (follS l true) (winS k) (follS l true - follS l true % winS k + low % winS k) := rfl
  rw [(win_of k).1 (by unfold pW; omega)] at hf
  have fc : cutS low 1 = low % 256 := by unfold cutS; rw [(win_of 1).1 (by unfold pW; omega)]
  have Q := fun j => rpcut_quiet low 1 _ w hl0 (by omega) (by omega) (by omega) fc j
  clear fc
  have hF : follS l true = l + 1 := by unfold follS; simp; try omega
  rw [hF] at hf
  unfold upS at hf
  have H := Lib.hid hf; clear hf hF
  go_enter Try.func49, Try.ntmps49
  go_wp2
  go_quiet ((go_at_call 22; exact Q _))
  go_wp2
  all_goals
    go_ret
    exact ⟨ret_int (by rw [H.out]; (repeat' split) <;> omega), _, rfl⟩
set_option maxRecDepth 100000 in
set_option maxHeartbeats 4000000 in
theorem rwhole_0u (l low k : Int) (w : World) (h0 : 0 ≤ l) (h1 : l < 18446744073709551616) (hl0 : 0 ≤ low) (hl1 : low < 4294967296) (hk0 : -9223372036854775808 ≤ k) (hk1 : k ≤ 9223372036854775807) (hk : k < 1) (hl : 4611686018427387903 < l) :
    Calls Try.prog 49 #[.int .u64 l, .bool true, .int .u32 low, .int .i64 k] w fun e w' => e = .returned (.int .u64 (wholeS l true low k)) ∧ ∃ d, w' = w.drewN d := by
  have hf : wholeS l true low k = upS (follS l true) (winS k) (follS l true - follS l true % winS k + low % winS k) := rfl
  rw [(win_of k).1 (by unfold pW; omega)] at hf
  have fc : cutS low 1 = low % 256 := by unfold cutS; rw [(win_of 1).1 (by unfold pW; omega)]
  have Q := fun j => rpcut_quiet low 1 _ w hl0 (by omega) (by omega) (by omega) fc j
  clear fc
  have hF : follS l true = 4611686018427387904 := by unfold follS; simp; try omega
  rw [hF] at hf
  unfold upS at hf
  have H := Lib.hid hf; clear hf hF
  go_enter Try.func49, Try.ntmps49
  go_wp2
  go_quiet ((go_at_call 22; exact Q _))
  go_wp2
  all_goals
    go_ret
    exact ⟨ret_int (by rw [H.out]; (repeat' split) <;> omega), _, rfl⟩
set_option maxRecDepth 100000 in
set_option maxHeartbeats 4000000 in
theorem rwhole_1f (l low : Int) (w : World) (h0 : 0 ≤ l) (h1 : l < 18446744073709551616) (hl0 : 0 ≤ low) (hl1 : low < 4294967296) :
    Calls Try.prog 49 #[.int .u64 l, .bool false, .int .u32 low, .int .i64 (1 : Int)] w fun e w' => e = .returned (.int .u64 (wholeS l false low (1 : Int))) ∧ ∃ d, w' = w.drewN d := by
  have hf : wholeS l false low (1 : Int) = upS (follS l false) (winS (1 : Int)) (follS l false - follS l false % winS (1 : Int) + low % winS (1 : Int)) := rfl
  rw [(win_of (1 : Int)).1 (by unfold pW; omega)] at hf
  have fc : cutS low 1 = low % 256 := by unfold cutS; rw [(win_of 1).1 (by unfold pW; omega)]
  have Q := fun j => rpcut_quiet low 1 _ w hl0 (by omega) (by omega) (by omega) fc j
  clear fc
  have hF : follS l false = 0 := by unfold follS; simp; try omega
  rw [hF] at hf
  unfold upS at hf
  have H := Lib.hid hf; clear hf hF
  go_enter Try.func49, Try.ntmps49
  go_wp2
  go_quiet ((go_at_call 22; exact Q _))
  go_wp2
  all_goals
    go_ret
    exact ⟨ret_int (by rw [H.out]; (repeat' split) <;> omega), _, rfl⟩
set_option maxRecDepth 100000 in
set_option maxHeartbeats 4000000 in
theorem rwhole_1t (l low : Int) (w : World) (h0 : 0 ≤ l) (h1 : l < 18446744073709551616) (hl0 : 0 ≤ low) (hl1 : low < 4294967296) (hl : l ≤ 4611686018427387903) :
    Calls Try.prog 49 #[.int .u64 l, .bool true, .int .u32 low, .int .i64 (1 : Int)] w fun e w' => e = .returned (.int .u64 (wholeS l true low (1 : Int))) ∧ ∃ d, w' = w.drewN d := by
  have hf : wholeS l true low (1 : Int) = upS (follS l true) (winS (1 : Int)) (follS l true - follS l true % winS (1 : Int) + low % winS (1 : Int)) := rfl
  rw [(win_of (1 : Int)).1 (by unfold pW; omega)] at hf
  have fc : cutS low 1 = low % 256 := by unfold cutS; rw [(win_of 1).1 (by unfold pW; omega)]
  have Q := fun j => rpcut_quiet low 1 _ w hl0 (by omega) (by omega) (by omega) fc j
  clear fc
  have hF : follS l true = l + 1 := by unfold follS; simp; try omega
  rw [hF] at hf
  unfold upS at hf
  have H := Lib.hid hf; clear hf hF
  go_enter Try.func49, Try.ntmps49
  go_wp2
  go_quiet ((go_at_call 22; exact Q _))
  go_wp2
  all_goals
    go_ret
    exact ⟨ret_int (by rw [H.out]; (repeat' split) <;> omega), _, rfl⟩
set_option maxRecDepth 100000 in
set_option maxHeartbeats 4000000 in
theorem rwhole_1u (l low : Int) (w : World) (h0 : 0 ≤ l) (h1 : l < 18446744073709551616) (hl0 : 0 ≤ low) (hl1 : low < 4294967296) (hl : 4611686018427387903 < l) :
    Calls Try.prog 49 #[.int .u64 l, .bool true, .int .u32 low, .int .i64 (1 : Int)] w fun e w' => e = .returned (.int .u64 (wholeS l true low (1 : Int))) ∧ ∃ d, w' = w.drewN d := by
  have hf : wholeS l true low (1 : Int) = upS (follS l true) (winS (1 : Int)) (follS l true - follS l true % winS (1 : Int) + low % winS (1 : Int)) := rfl
  rw [(win_of (1 : Int)).1 (by unfold pW; omega)] at hf
  have fc : cutS low 1 = low % 256 := by unfold cutS; rw [(win_of 1).1 (by unfold pW; omega)]
  have Q := fun j => rpcut_quiet low 1 _ w hl0 (by omega) (by omega) (by omega) fc j
  clear fc
  have hF : follS l true = 4611686018427387904 := by unfold follS; simp; try omega
  rw [hF] at hf
  unfold upS at hf
  have H := Lib.hid hf; clear hf hF
  go_enter Try.func49, Try.ntmps49
  go_wp2
  go_quiet ((go_at_call 22; exact Q _))
  go_wp2
  all_goals
    go_ret
    exact ⟨ret_int (by rw [H.out]; (repeat' split) <;> omega), _, rfl⟩
set_option maxRecDepth 100000 in
set_option maxHeartbeats 4000000 in
theorem rwhole_2f (l low : Int) (w : World) (h0 : 0 ≤ l) (h1 : l < 18446744073709551616) (hl0 : 0 ≤ low) (hl1 : low < 4294967296) :
    Calls Try.prog 49 #[.int .u64 l, .bool false, .int .u32 low, .int .i64 (2 : Int)] w fun e w' => e = .returned (.int .u64 (wholeS l false low (2 : Int))) ∧ ∃ d, w' = w.drewN d := by
  have hf : wholeS l false low (2 : Int) = upS (follS l false) (winS (2 : Int)) (follS l false - follS l false % winS (2 : Int) + low % winS (2 : Int)) := rfl
  rw [(win_of (2 : Int)).2.1 (by unfold pW; omega)] at hf
  have fc : cutS low 2 = low % 65536 := by unfold cutS; rw [(win_of 2).2.1 (by unfold pW; omega)]
  have Q := fun j => rpcut_quiet low 2 _ w hl0 (by omega) (by omega) (by omega) fc j
  clear fc
  have hF : follS l false = 0 := by unfold follS; simp; try omega
  rw [hF] at hf
  unfold upS at hf
  have H := Lib.hid hf; clear hf hF
  go_enter Try.func49, Try.ntmps49
  go_wp2
  go_quiet ((go_at_call 22; exact Q _))
  go_wp2
  all_goals
    go_ret
    exact ⟨ret_int (by rw [H.out]; (repeat' split) <;> omega), _, rfl⟩
set_option maxRecDepth 100000 in
set_option maxHeartbeats 4000000 in
theorem rwhole_2t (l low : Int) (w : World) (h0 : 0 ≤ l) (h1 : l < 18446744073709551616) (hl0 : 0 ≤ low) (hl1 : low < 4294967296) (hl : l ≤ 4611686018427387903) :
    Calls Try.prog 49 #[.int .u64 l, .bool true, .int .u32 low, .int .i64 (2 : Int)] w fun e w' => e = .returned (.int .u64 (wholeS l true low (2 : Int))) ∧ ∃ d, w' = w.drewN d := by
  have hf : wholeS l true low (2 : Int) = upS (follS l true) (winS (2 : Int)) (follS l true - follS l true % winS (2 : Int) + low % winS (2 : Int)) := rfl
  rw [(win_of (2 : Int)).2.1 (by unfold pW; omega)] at hf
  have fc : cutS low 2 = low % 65536 := by unfold cutS; rw [(win_of 2).2.1 (by unfold pW; omega)]
  have Q := fun j => rpcut_quiet low 2 _ w hl0 (by omega) (by omega) (by omega) fc j
  clear fc
  have hF : follS l true = l + 1 := by unfold follS; simp; try omega
  rw [hF] at hf
  unfold upS at hf
  have H := Lib.hid hf; clear hf hF
  go_enter Try.func49, Try.ntmps49
  go_wp2
  go_quiet ((go_at_call 22; exact Q _))
  go_wp2
  all_goals
    go_ret
    exact ⟨ret_int (by rw [H.out]; (repeat' split) <;> omega), _, rfl⟩
set_option maxRecDepth 100000 in
set_option maxHeartbeats 4000000 in
theorem rwhole_2u (l low : Int) (w : World) (h0 : 0 ≤ l) (h1 : l < 18446744073709551616) (hl0 : 0 ≤ low) (hl1 : low < 4294967296) (hl : 4611686018427387903 < l) :
    Calls Try.prog 49 #[.int .u64 l, .bool true, .int .u32 low, .int .i64 (2 : Int)] w fun e w' => e = .returned (.int .u64 (wholeS l true low (2 : Int))) ∧ ∃ d, w' = w.drewN d := by
  have hf : wholeS l true low (2 : Int) = upS (follS l true) (winS (2 : Int)) (follS l true - follS l true % winS (2 : Int) + low % winS (2 : Int)) := rfl
  rw [(win_of (2 : Int)).2.1 (by unfold pW; omega)] at hf
  have fc : cutS low 2 = low % 65536 := by unfold cutS; rw [(win_of 2).2.1 (by unfold pW; omega)]
  have Q := fun j => rpcut_quiet low 2 _ w hl0 (by omega) (by omega) (by omega) fc j
  clear fc
  have hF : follS l true = 4611686018427387904 := by unfold follS; simp; try omega
  rw [hF] at hf
  unfold upS at hf
  have H := Lib.hid hf; clear hf hF
  go_enter Try.func49, Try.ntmps49
  go_wp2
  go_quiet ((go_at_call 22; exact Q _))
  go_wp2
  all_goals
    go_ret
    exact ⟨ret_int (by rw [H.out]; (repeat' split) <;> omega), _, rfl⟩
set_option maxRecDepth 100000 in
set_option maxHeartbeats 4000000 in
theorem rwhole_3f (l low : Int) (w : World) (h0 : 0 ≤ l) (h1 : l < 18446744073709551616) (hl0 : 0 ≤ low) (hl1 : low < 4294967296) :
    Calls Try.prog 49 #[.int .u64 l, .bool false, .int .u32 low, .int .i64 (3 : Int)] w fun e w' => e = .returned (.int .u64 (wholeS l false low (3 : Int))) ∧ ∃ d, w' = w.drewN d := by
  have hf : wholeS l false low (3 : Int) = upS (follS l false) (winS (3 : Int)) (follS l false - follS l false % winS (3 : Int) + low % winS (3 : Int)) := rfl
  rw [(win_of (3 : Int)).2.2.1 (by unfold pW; omega)] at hf
  have fc : cutS low 3 = low % 16777216 := by unfold cutS; rw [(win_of 3).2.2.1 (by unfold pW; omega)]
  have Q := fun j => rpcut_quiet low 3 _ w hl0 (by omega) (by omega) (by omega) fc j
  clear fc
  have hF : follS l false = 0 := by unfold follS; simp; try omega
  rw [hF] at hf
  unfold upS at hf
  have H := Lib.hid hf; clear hf hF
  go_enter Try.func49, Try.ntmps49
  go_wp2
  go_quiet ((go_at_call 22; exact Q _))
  go_wp2
  all_goals
    go_ret
    exact ⟨ret_int (by rw [H.out]; (repeat' split) <;> omega), _, rfl⟩
set_option maxRecDepth 100000 in
set_option maxHeartbeats 4000000 in
theorem rwhole_3t (l low : Int) (w : World) (h0 : 0 ≤ l) (h1 : l < 18446744073709551616) (hl0 : 0 ≤ low) (hl1 : low < 4294967296) (hl : l ≤ 4611686018427387903) :
    Calls Try.prog 49 #[.int .u64 l, .bool true, .int .u32 low, .int .i64 (3 : Int)] w fun e w' => e = .returned (.int .u64 (wholeS l true low (3 : Int))) ∧ ∃ d, w' = w.drewN d := by
  have hf : wholeS l true low (3 : Int) = upS (follS l true) (winS (3 : Int)) (follS l true - follS l true % winS (3 : Int) + low % winS (3 : Int)) := rfl
  rw [(win_of (3 : Int)).2.2.1 (by unfold pW; omega)] at hf
  have fc : cutS low 3 = low % 16777216 := by unfold cutS; rw [(win_of 3).2.2.1 (by unfold pW; omega)]
  have Q := fun j => rpcut_quiet low 3 _ w hl0 (by omega) (by omega) (by omega) fc j
  clear fc
  have hF : follS l true = l + 1 := by unfold follS; simp; try omega
  rw [hF] at hf
  unfold upS at hf
  have H := Lib.hid hf; clear hf hF
  go_enter Try.func49, Try.ntmps49
  go_wp2
  go_quiet ((go_at_call 22; exact Q _))
  go_wp2
  all_goals
    go_ret
    exact ⟨ret_int (by rw [H.out]; (repeat' split) <;> omega), _, rfl⟩
set_option maxRecDepth 100000 in
set_option maxHeartbeats 4000000 in
theorem rwhole_3u (l low : Int) (w : World) (h0 : 0 ≤ l) (h1 : l < 18446744073709551616) (hl0 : 0 ≤ low) (hl1 : low < 4294967296) (hl : 4611686018427387903 < l) :
    Calls Try.prog 49 #[.int .u64 l, .bool true, .int .u32 low, .int .i64 (3 : Int)] w fun e w' => e = .returned (.int .u64 (wholeS l true low (3 : Int))) ∧ ∃ d, w' = w.drewN d := by
  have hf : wholeS l true low (3 : Int) = upS (follS l true) (winS (3 : Int)) (follS l true - follS l true % winS (3 : Int) + low % winS (3 : Int)) := rfl
  rw [(win_of (3 : Int)).2.2.1 (by unfold pW; omega)] at hf
  have fc : cutS low 3 = low % 16777216 := by unfold cutS; rw [(win_of 3).2.2.1 (by unfold pW; omega)]
  have Q := fun j => rpcut_quiet low 3 _ w hl0 (by omega) (by omega) (by omega) fc j
  clear fc
  have hF : follS l true = 4611686018427387904 := by unfold follS; simp; try omega
  rw [hF] at hf
  unfold upS at hf
  have H := Lib.hid hf; clear hf hF
  go_enter Try.func49, Try.ntmps49
  go_wp2
  go_quiet ((go_at_call 22; exact Q _))
  go_wp2
  all_goals
    go_ret
    exact ⟨ret_int (by rw [H.out]; (repeat' split) <;> omega), _, rfl⟩
set_option maxRecDepth 100000 in
set_option maxHeartbeats 4000000 in
theorem rwhole_4f (l low : Int) (w : World) (h0 : 0 ≤ l) (h1 : l < 18446744073709551616) (hl0 : 0 ≤ low) (hl1 : low < 4294967296) :
    Calls Try.prog 49 #[.int .u64 l, .bool false, .int .u32 low, .int .i64 (4 : Int)] w fun e w' => e = .returned (.int .u64 (wholeS l false low (4 : Int))) ∧ ∃ d, w' = w.drewN d := by
  have hf : wholeS l false low (4 : Int) = upS (follS l false) (winS (4 : Int)) (follS l false - follS l false % winS (4 : Int) + low % winS (4 : Int)) := rfl
  rw [(win_of (4 : Int)).2.2.2 (by unfold pW; omega)] at hf
  have fc : cutS low 4 = low % 4294967296 := by unfold cutS; rw [(win_of 4).2.2.2 (by unfold pW; omega)]
  have Q := fun j => rpcut_quiet low 4 _ w hl0 (by omega) (by omega) (by omega) fc j
  clear fc
  have hF : follS l false = 0 := by unfold follS; simp; try omega
  rw [hF] at hf
  unfold upS at hf
  have H := Lib.hid hf; clear hf hF
  go_enter Try.func49, Try.ntmps49
  go_wp2
  go_quiet ((go_at_call 22; exact Q _))
  go_wp2
  all_goals
    go_ret
    exact ⟨ret_int (by rw [H.out]; (repeat' split) <;> omega), _, rfl⟩
set_option maxRecDepth 100000 in
set_option maxHeartbeats 4000000 in
theorem rwhole_4t (l low : Int) (w : World) (h0 : 0 ≤ l) (h1 : l < 18446744073709551616) (hl0 : 0 ≤ low) (hl1 : low < 4294967296) (hl : l ≤ 4611686018427387903) :
    Calls Try.prog 49 #[.int .u64 l, .bool true, .int .u32 low, .int .i64 (4 : Int)] w fun e w' => e = .returned (.int .u64 (wholeS l true low (4 : Int))) ∧ ∃ d, w' = w.drewN d := by
  have hf : wholeS l true low (4 : Int) = upS (follS l true) (winS (4 : Int)) (follS l true - follS l true % winS (4 : Int) + low % winS (4 : Int)) := rfl
  rw [(win_of (4 : Int)).2.2.2 (by unfold pW; omega)] at hf
  have fc : cutS low 4 = low % 4294967296 := by unfold cutS; rw [(win_of 4).2.2.2 (by unfold pW; omega)]
  have Q := fun j => rpcut_quiet low 4 _ w hl0 (by omega) (by omega) (by omega) fc j
  clear fc
  have hF : follS l true = l + 1 := by unfold follS; simp; try omega
  rw [hF] at hf
  unfold upS at hf
  have H := Lib.hid hf; clear hf hF
  go_enter Try.func49, Try.ntmps49
  go_wp2
  go_quiet ((go_at_call 22; exact Q _))
  go_wp2
  all_goals
    go_ret
    exact ⟨ret_int (by rw [H.out]; (repeat' split) <;> omega), _, rfl⟩
set_option maxRecDepth 100000 in
set_option maxHeartbeats 4000000 in
theorem rwhole_4u (l low : Int) (w : World) (h0 : 0 ≤ l) (h1 : l < 18446744073709551616) (hl0 : 0 ≤ low) (hl1 : low < 4294967296) (hl : 4611686018427387903 < l) :
    Calls Try.prog 49 #[.int .u64 l, .bool true, .int .u32 low, .int .i64 (4 : Int)] w fun e w' => e = .returned (.int .u64 (wholeS l true low (4 : Int))) ∧ ∃ d, w' = w.drewN d := by
  have hf : wholeS l true low (4 : Int) = upS (follS l true) (winS (4 : Int)) (follS l true - follS l true % winS (4 : Int) + low % winS (4 : Int)) := rfl
  rw [(win_of (4 : Int)).2.2.2 (by unfold pW; omega)] at hf
  have fc : cutS low 4 = low % 4294967296 := by unfold cutS; rw [(win_of 4).2.2.2 (by unfold pW; omega)]
  have Q := fun j => rpcut_quiet low 4 _ w hl0 (by omega) (by omega) (by omega) fc j
  clear fc
  have hF : follS l true = 4611686018427387904 := by unfold follS; simp; try omega
  rw [hF] at hf
  unfold upS at hf
  have H := Lib.hid hf; clear hf hF
  go_enter Try.func49, Try.ntmps49
  go_wp2
  go_quiet ((go_at_call 22; exact Q _))
  go_wp2
  all_goals
    go_ret
    exact ⟨ret_int (by rw [H.out]; (repeat' split) <;> omega), _, rfl⟩
set_option maxRecDepth 100000 in
set_option maxHeartbeats 4000000 in
theorem rwhole_5f (l low k : Int) (w : World) (h0 : 0 ≤ l) (h1 : l < 18446744073709551616) (hl0 : 0 ≤ low) (hl1 : low < 4294967296) (hk0 : -9223372036854775808 ≤ k) (hk1 : k ≤ 9223372036854775807) (hk : 4 < k) :
    Calls Try.prog 49 #[.int .u64 l, .bool false, .int .u32 low, .int .i64 k] w fun e w' => e = .returned (.int .u64 (wholeS l false low k)) ∧ ∃ d, w' = w.drewN d := by
  have hf : wholeS l false low k = upS (follS l false) (winS k) (follS l false - follS l false % winS k + low % winS k) := rfl
  rw [(win_of k).2.2.2 (by unfold pW; omega)] at hf
  have fc : cutS low 4 = low % 4294967296 := by unfold cutS; rw [(win_of 4).2.2.2 (by unfold pW; omega)]
  have Q := fun j => rpcut_quiet low 4 _ w hl0 (by omega) (by omega) (by omega) fc j
  clear fc
  have hF : follS l false = 0 := by unfold follS; simp; try omega
  rw [hF] at hf
  unfold upS at hf
  have H := Lib.hid hf; clear hf hF
  go_enter Try.func49, Try.ntmps49
  go_wp2
  go_quiet ((go_at_call 22; exact Q _))
  go_wp2
  all_goals
    go_ret
    exact ⟨ret_int (by rw [H.out]; (repeat' split) <;> omega), _, rfl⟩
set_option maxRecDepth 100000 in
set_option maxHeartbeats 4000000 in
theorem rwhole_5t (l low k : Int) (w : World) (h0 : 0 ≤ l) (h1 : l < 18446744073709551616) (hl0 : 0 ≤ low) (hl1 : low < 4294967296) (hk0 : -9223372036854775808 ≤ k) (hk1 : k ≤ 9223372036854775807) (hk : 4 < k) (hl : l ≤ 4611686018427387903) :
    Calls Try.prog 49 #[.int .u64 l, .bool true, .int .u32 low, .int .i64 k] w fun e w' => e = .returned (.int .u64 (wholeS l true low k)) ∧ ∃ d, w' = w.drewN d := by
  have hf : wholeS l true low k = upS (follS l true) (winS k) (follS l true - follS l true % winS k + low % winS k) := rfl
  rw [(win_of k).2.2.2 (by unfold pW; omega)] at hf
  have fc : cutS low 4 = low % 4294967296 := by unfold cutS; rw [(win_of 4).2.2.2 (by unfold pW; omega)]
  have Q := fun j => rpcut_quiet low 4 _ w hl0 (by omega) (by omega) (by omega) fc j
  clear fc
  have hF : follS l true = l + 1 := by unfold follS; simp; try omega
  rw [hF] at hf
  unfold upS at hf
  have H := Lib.hid hf; clear hf hF
  go_enter Try.func49, Try.ntmps49
  go_wp2
  go_quiet ((go_at_call 22; exact Q _))
  go_wp2
  all_goals
    go_ret
    exact ⟨ret_int (by rw [H.out]; (repeat' split) <;> omega), _, rfl⟩
set_option maxRecDepth 100000 in
set_option maxHeartbeats 4000000 in
theorem rwhole_5u (l low k : Int) (w : World) (h0 : 0 ≤ l) (h1 : l < 18446744073709551616) (hl0 : 0 ≤ low) (hl1 : low < 4294967296) (hk0 : -9223372036854775808 ≤ k) (hk1 : k ≤ 9223372036854775807) (hk : 4 < k) (hl : 4611686018427387903 < l) :
    Calls Try.prog 49 #[.int .u64 l, .bool true, .int .u32 low, .int .i64 k] w fun e w' => e = .returned (.int .u64 (wholeS l true low k)) ∧ ∃ d, w' = w.drewN d := by
  have hf : wholeS l true low k = upS (follS l true) (winS k) (follS l true - follS l true % winS k + low % winS k) := rfl
  rw [(win_of k).2.2.2 (by unfold pW; omega)] at hf
  have fc : cutS low 4 = low % 4294967296 := by unfold cutS; rw [(win_of 4).2.2.2 (by unfold pW; omega)]
  have Q := fun j => rpcut_quiet low 4 _ w hl0 (by omega) (by omega) (by omega) fc j
  clear fc
  have hF : follS l true = 4611686018427387904 := by unfold follS; simp; try omega
  rw [hF] at hf
  unfold upS at hf
  have H := Lib.hid hf; clear hf hF
  go_enter Try.func49, Try.ntmps49
  go_wp2
  go_quiet ((go_at_call 22; exact Q _))
  go_wp2
  all_goals
    go_ret
    exact ⟨ret_int (by rw [H.out]; (repeat' split) <;> omega), _, rfl⟩
theorem rwhole_any (l : Int) (has : Bool) (low k : Int) (w : World) (h0 : 0 ≤ l) (h1 : l < 18446744073709551616) (hl0 : 0 ≤ low) (hl1 : low < 4294967296) (hk0 : -9223372036854775808 ≤ k) (hk1 : k ≤ 9223372036854775807) :
    Calls Try.prog 49 #[.int .u64 l, .bool has, .int .u32 low, .int .i64 k] w fun e w' => e = .returned (.int .u64 (wholeS l has low k)) ∧ ∃ d, w' = w.drewN d := by
  have hkk : k < 1 ∨ k = 1 ∨ k = 2 ∨ k = 3 ∨ k = 4 ∨ 4 < k := by omega
  rcases hkk with hk | rfl | rfl | rfl | rfl | hk
  · cases has
    · exact rwhole_0f l low k w h0 h1 hl0 hl1 hk0 hk1 hk
    · rcases Int.lt_or_le 4611686018427387903 l with h | h
      · exact rwhole_0u l low k w h0 h1 hl0 hl1 hk0 hk1 hk h
      · exact rwhole_0t l low k w h0 h1 hl0 hl1 hk0 hk1 hk h
  · cases has
    · exact rwhole_1f l low w h0 h1 hl0 hl1
    · rcases Int.lt_or_le 4611686018427387903 l with h | h
      · exact rwhole_1u l low w h0 h1 hl0 hl1 h
      · exact rwhole_1t l low w h0 h1 hl0 hl1 h
  · cases has
    · exact rwhole_2f l low w h0 h1 hl0 hl1
    · rcases Int.lt_or_le 4611686018427387903 l with h | h
      · exact rwhole_2u l low w h0 h1 hl0 hl1 h
      · exact rwhole_2t l low w h0 h1 hl0 hl1 h
  · cases has
    · exact rwhole_3f l low w h0 h1 hl0 hl1
    · rcases Int.lt_or_le 4611686018427387903 l with h | h
      · exact rwhole_3u l low w h0 h1 hl0 hl1 h
      · exact rwhole_3t l low w h0 h1 hl0 hl1 h
  · cases has
    · exact rwhole_4f l low w h0 h1 hl0 hl1
    · rcases Int.lt_or_le 4611686018427387903 l with h | h
      · exact rwhole_4u l low w h0 h1 hl0 hl1 h
      · exact rwhole_4t l low w h0 h1 hl0 hl1 h
  · cases has
    · exact rwhole_5f l low k w h0 h1 hl0 hl1 hk0 hk1 hk
    · rcases Int.lt_or_le 4611686018427387903 l with h | h
      · exact rwhole_5u l low k w h0 h1 hl0 hl1 hk0 hk1 hk h
      · exact rwhole_5t l low k w h0 h1 hl0 hl1 hk0 hk1 hk h
end Go.Proofs.Ytehdilgnlhhjdaa
