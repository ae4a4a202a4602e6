/-
  What the statements' helpers answer: Cut, Small, Same, Roomy, Intact.
-/
import Derived.Test.YtkgeeoogmkpjhaaRefInts
import Derived.Test.YtkgeeoogmkpjhaaPut
namespace Go.Proofs.Ytkgeeoogmkpjhaa
set_option linter.unusedVariables false
open Go.RowKit
theorem Rd.cut {w : World} {B n : Nat} {A : Option Addr} {bs : List Int} (h : Rd w B A n bs) {m : Nat} (hm : m ≤ n) : Rd w B A m (bs.take m) := by
  refine ⟨by rw [List.length_take, h.1]; omega, h.2.1.take m, fun hp => ?_⟩
  obtain ⟨b, off, e, hb, hc⟩ := h.2.2 (by omega)
  refine ⟨b, off, e, hb, fun i hi => ?_⟩
  rw [hc i (by omega), List.getD_eq_getElem?_getD, List.getD_eq_getElem?_getD, List.getElem?_take_of_lt hi]
/-- Cut: no more than k bytes. -/
theorem cut_any (A : Option Addr) (n c k : Nat) (w : World) (hn : n ≤ c) (hc : c ≤ maxLen) (hk : k ≤ 1000) (hA : k < n → A ≠ none) :
    Calls Try.prog 11 #[.slice A n c, .int .i64 k] w fun e w' => e = .returned (.slice A (min n k) c) ∧ w = w' := by
  unfold maxLen at hc
  rcases Nat.lt_or_ge k n with h | h
  · cases A with
    | none => exact absurd rfl (hA h)
    | some ad =>
      rw [Nat.min_eq_right (by omega)]
      go_enter Try.func11, Try.ntmps11
      go_wp2

      go_ret
      exact ⟨rfl, rfl⟩
  · rw [Nat.min_eq_left h]
    go_enter Try.func11, Try.ntmps11
    go_wp2
    go_ret
    exact ⟨rfl, rfl⟩
def smallT : List Int := [63, 64, 16383, 16384, 1073741823, 1073741824, 4611686018427387903, 0]
def smallS (n : Int) : Int := if n % 5 = 0 then n / 5 % 20 else if n % 5 = 1 then smallT.getD (n / 5 % 8).toNat 0 else n % 4611686018427387904
theorem smallS_bd (n : Int) (h0 : 0 ≤ n) : 0 ≤ smallS n ∧ smallS n ≤ 4611686018427387903 := by
  unfold smallS
  split
  · omega
  · split
    · have : n / 5 % 8 = 0 ∨ n / 5 % 8 = 1 ∨ n / 5 % 8 = 2 ∨ n / 5 % 8 = 3 ∨ n / 5 % 8 = 4 ∨ n / 5 % 8 = 5 ∨ n / 5 % 8 = 6 ∨ n / 5 % 8 = 7 := by omega
      rcases this with h | h | h | h | h | h | h | h <;> rw [h] <;> decide
    · omega
theorem and_mask62 (n : Int) (h0 : 0 ≤ n) (h1 : n < 18446744073709551616) : bits BinOp.and IntKind.u64 n 4611686018427387903 = n % 4611686018427387904 := by
  rw [u64_and _ _ h0 h1 (by omega) (by omega), show (4611686018427387903 : Int).toNat = 4611686018427387903 by decide, nat_mask62]; omega
end Go.Proofs.Ytkgeeoogmkpjhaa
