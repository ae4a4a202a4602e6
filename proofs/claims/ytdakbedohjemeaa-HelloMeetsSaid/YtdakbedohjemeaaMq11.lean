/-
  What the statements' helpers answer: Cut, Small, Same, Roomy, Intact.
-/
import Derived.Test.YtdakbedohjemeaaRefInts
import Derived.Test.YtdakbedohjemeaaMq3
import Derived.Test.YtdakbedohjemeaaMq8
import Derived.Test.YtdakbedohjemeaaMq2
import Derived.Test.YtdakbedohjemeaaMq10
namespace Go.Proofs.Ytdakbedohjemeaa
section
set_option linter.unusedVariables false
open Go.RowKit
def smallT : List Int := [63, 64, 16383, 16384, 1073741823, 1073741824, 4611686018427387903, 0]
def smallS (n : Int) : Int := if n % 5 = 0 then n / 5 % 20 else if n % 5 = 1 then smallT.getD (n / 5 % 8).toNat 0 else n % 4611686018427387904
theorem smallS_bd (n : Int) (h0 : 0 ≤ n) : 0 ≤ smallS n ∧ smallS n ≤ 4611686018427387903 := by
  unfold smallS
  split
  · omega
  · split
    · have : n / 5 % 8 = 0 ∨ n / 5 % 8 = 1 ∨ n / 5 % 8 = 2 ∨ n / 5 % 8 = 3 ∨ n / 5 % 8 = 4 ∨ n / 5 % 8 = 5 ∨ n / 5 % 8 = 6 ∨ n / 5 % 8 = 7 := by omega
      rcases this with h | h | h | h | h | h | h | h <;> rw [h] <;> decide
    · omega
theorem and_mask62 (n : Int) (h0 : 0 ≤ n) (h1 : n < 18446744073709551616) : bits BinOp.and IntKind.u64 n 4611686018427387903 = n % 4611686018427387904 := by
  rw [u64_and _ _ h0 h1 (by omega) (by omega), show (4611686018427387903 : Int).toNat = 4611686018427387903 by decide, nat_mask62]; omega
set_option maxHeartbeats 4000000 in
theorem small_any (n : Int) (w : World) (h0 : 0 ≤ n) (h1 : n < 18446744073709551616) :
    Calls Try.prog 30 #[.int .u64 n] w fun e w' => e = .returned (.int .u64 (smallS n)) ∧ Below w.heap.size w w' := by
  by_cases hz : n % 5 = 0
  · have hf : smallS n = n / 5 % 20 := by unfold smallS; rw [if_pos hz]
    have H := Lib.hid hf; clear hf
    go_enter Try.func30, Try.ntmps30
    go_wp2
    go_ret
    exact ⟨ret_int (by rw [H.out]), Below.refl _ _⟩
  · by_cases ho : n % 5 = 1
    · have h8 : n / 5 % 8 = 0 ∨ n / 5 % 8 = 1 ∨ n / 5 % 8 = 2 ∨ n / 5 % 8 = 3 ∨ n / 5 % 8 = 4 ∨ n / 5 % 8 = 5 ∨ n / 5 % 8 = 6 ∨ n / 5 % 8 = 7 := by omega
      have hf : smallS n = smallT.getD (n / 5 % 8).toNat 0 := by unfold smallS; rw [if_neg hz, if_pos ho]
      rcases h8 with h | h | h | h | h | h | h | h
      all_goals
        rw [h] at hf
        have H := Lib.hid hf; clear hf
        go_enter Try.func30, Try.ntmps30
        go_wp2
        go_ret
        exact ⟨ret_int (by rw [H.out]; rfl), (Below.refl _ _).alloc (Nat.le_refl _) _⟩
    · have hf : smallS n = n % 4611686018427387904 := by unfold smallS; rw [if_neg hz, if_neg ho]
      have hm := and_mask62 n h0 h1
      have H := Lib.hid (hm.trans hf.symm); clear hf hm
      go_enter Try.func30, Try.ntmps30
      go_wp2
      go_ret
      exact ⟨ret_int (by rw [← H.out]), Below.refl _ _⟩
end
section
set_option linter.unusedVariables false
set_option linter.unusedSimpArgs false
open Go.RowKit
theorem InD.below_ {w w' : World} {P : Nat → Prop} {d : Sl} {ds : List Int} (h : InD w P d ds) (k : Below w.heap.size w w') : InD w' P d ds := h.kept (Kept.of_below k (fun _ => False)) (fun _ _ h => h)
theorem At.of_below {w w' : World} {p : Nat} {T : TypeId} {l : List Value} (h : At w p T l) (k : Below w.heap.size w w') : At w' p T l := h.below k h.lt
end
section
set_option linter.unusedVariables false
set_option linter.unusedSimpArgs false
open Go.RowKit
theorem keyedS_bd (key : Int) (bs : List Int) : 0 ≤ keyedS key bs ∧ keyedS key bs < 18446744073709551616 := endS_bd _
set_option maxRecDepth 100000 in
theorem derive_any (key : Int) (bs : List Int) (w : World) (hb : Byt bs) (hl : bs.length ≤ maxLen) (k0 : 0 ≤ key) (k1 : key < 18446744073709551616) :
    Calls Try.prog 39 #[.int .u64 key, .string (strOfNums bs)] w fun e w' => e = .returned (.int .u64 (keyedS key bs)) ∧ Below w.heap.size w w' := by
  obtain ⟨T, hT⟩ : ∃ x, strOfNums bs = x := ⟨_, rfl⟩
  rw [hT]
  go_enter Try.func39, Try.ntmps39
  go_wp2_with (first | (refine wpList_str_bytes (by rfl) 9 31 5 (.tmp 6) rfl bs hb hl Try.underlying9 Try.underlying31 Try.underlying5 (by rw [hT]; rfl) ?_; intro w1 c hc1 hc2 hr1 hb1 hs1) | (go_at_call 60; refine (keyed_any key _ _ c bs w1 _ hr1 hc1 hc2 k0 k1).mono ?_; rintro e w' ⟨rfl, rfl⟩))
  go_ret
  exact ⟨rfl, hb1⟩
set_option maxRecDepth 100000 in
theorem rderive_any (key : Int) (bs : List Int) (w : World) (hb : Byt bs) (hl : bs.length ≤ maxLen) (k0 : 0 ≤ key) (k1 : key < 18446744073709551616) :
    Calls Try.prog 29 #[.int .u64 key, .string (strOfNums bs)] w fun e w' => e = .returned (.int .u64 (keyedS key bs)) ∧ Below w.heap.size w w' := by
  obtain ⟨T, hT⟩ : ∃ x, strOfNums bs = x := ⟨_, rfl⟩
  rw [hT]
  go_enter Try.func29, Try.ntmps29
  go_wp2_with (first | (refine wpList_str_bytes (by rfl) 9 31 5 (.tmp 6) rfl bs hb hl Try.underlying9 Try.underlying31 Try.underlying5 (by rw [hT]; rfl) ?_; intro w1 c hc1 hc2 hr1 hb1 hs1) | (go_at_call 45; refine (rkeyed_any key _ _ c bs w1 _ hr1 hc1 hc2 k0 k1).mono ?_; rintro e w' ⟨rfl, rfl⟩))
  go_ret
  exact ⟨rfl, hb1⟩
end
end Go.Proofs.Ytdakbedohjemeaa
