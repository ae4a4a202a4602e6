/-
  What the statements' helpers answer: Cut, Small, Same, Roomy, Intact.
-/
import Derived.Test.YtcobcgbpmkpljaaRefInts
import Derived.Test.YtcobcgbpmkpljaaPut
namespace Go.Proofs.Ytcobcgbpmkpljaa
set_option linter.unusedVariables false
open Go.RowKit
theorem Rd.cut {w : World} {B n : Nat} {A : Option Addr} {bs : List Int} (h : Rd w B A n bs) {m : Nat} (hm : m ≤ n) : Rd w B A m (bs.take m) := by
  refine ⟨by rw [List.length_take, h.1]; omega, h.2.1.take m, fun hp => ?_⟩
  obtain ⟨b, off, e, hb, hc⟩ := h.2.2 (by omega)
  refine ⟨b, off, e, hb, fun i hi => ?_⟩
  rw [hc i (by omega), List.getD_eq_getElem?_getD, List.getD_eq_getElem?_getD, List.getElem?_take_of_lt hi]
/-- Cut: no more than k bytes. -/
theorem cut_any (A : Option Addr) (n c k : Nat) (w : World) (hn : n ≤ c) (hc : c ≤ maxLen) (hk : k ≤ 1000) (hA : k < n → A ≠ none) :
    Calls Try.prog 18 #[.slice A n c, .int .i64 k] w fun e w' => e = .returned (.slice A (min n k) c) ∧ w = w' := by
  unfold maxLen at hc
  rcases Nat.lt_or_ge k n with h | h
  · cases A with
    | none => exact absurd rfl (hA h)
    | some ad =>
      rw [Nat.min_eq_right (by omega)]
      go_enter Try.func18, Try.ntmps18
      go_wp2

      go_ret
      exact ⟨rfl, rfl⟩
  · rw [Nat.min_eq_left h]
    go_enter Try.func18, Try.ntmps18
    go_wp2
    go_ret
    exact ⟨rfl, rfl⟩
def smallT : List Int := [63, 64, 16383, 16384, 1073741823, 1073741824, 4611686018427387903, 0]
def smallS (n : Int) : Int := if n % 5 = 0 then n / 5 % 20 else if n % 5 = 1 then smallT.getD (n / 5 % 8).toNat 0 else n % 4611686018427387904
theorem smallS_bd (n : Int) (h0 : 0 ≤ n) : 0 ≤ smallS n ∧ smallS n ≤ 4611686018427387903 := by
  unfold smallS
  split
  · omega
  · split
    · have : n / 5 % 8 = 0 ∨ n / 5 % 8 = 1 ∨ n / 5 % 8 = 2 ∨ n / 5 % 8 = 3 ∨ n / 5 % 8 = 4 ∨ n / 5 % 8 = 5 ∨ n / 5 % 8 = 6 ∨ n / 5 % 8 = 7 := by omega
      rcases this with h | h | h | h | h | h | h | h <;> rw [h] <;> decide
    · omega
theorem and_mask62 (n : Int) (h0 : 0 ≤ n) (h1 : n < 18446744073709551616) : bits BinOp.and IntKind.u64 n 4611686018427387903 = n % 4611686018427387904 := by
  rw [u64_and _ _ h0 h1 (by omega) (by omega), show (4611686018427387903 : Int).toNat = 4611686018427387903 by decide, nat_mask62]; omega
set_option maxHeartbeats 4000000 in
theorem small_any (n : Int) (w : World) (h0 : 0 ≤ n) (h1 : n < 18446744073709551616) :
    Calls Try.prog 47 #[.int .u64 n] w fun e w' => e = .returned (.int .u64 (smallS n)) ∧ Below w.heap.size w w' := by
  by_cases hz : n % 5 = 0
  · have hf : smallS n = n / 5 % 20 := by unfold smallS; rw [if_pos hz]
    have H := Lib.hid hf; clear hf
    go_enter Try.func47, Try.ntmps47
    go_wp2
    go_ret
    exact ⟨ret_int (by rw [H.out]), Below.refl _ _⟩
  · by_cases ho : n % 5 = 1
    · have h8 : n / 5 % 8 = 0 ∨ n / 5 % 8 = 1 ∨ n / 5 % 8 = 2 ∨ n / 5 % 8 = 3 ∨ n / 5 % 8 = 4 ∨ n / 5 % 8 = 5 ∨ n / 5 % 8 = 6 ∨ n / 5 % 8 = 7 := by omega
      have hf : smallS n = smallT.getD (n / 5 % 8).toNat 0 := by unfold smallS; rw [if_neg hz, if_pos ho]
      rcases h8 with h | h | h | h | h | h | h | h
      all_goals
        rw [h] at hf
        have H := Lib.hid hf; clear hf
        go_enter Try.func47, Try.ntmps47
        go_wp2
        go_ret
        exact ⟨ret_int (by rw [H.out]; rfl), (Below.refl _ _).alloc (Nat.le_refl _) _⟩
    · have hf : smallS n = n % 4611686018427387904 := by unfold smallS; rw [if_neg hz, if_neg ho]
      have hm := and_mask62 n h0 h1
      have H := Lib.hid (hm.trans hf.symm); clear hf hm
      go_enter Try.func47, Try.ntmps47
      go_wp2
      go_ret
      exact ⟨ret_int (by rw [← H.out]), Below.refl _ _⟩
end Go.Proofs.Ytcobcgbpmkpljaa
