/-
  An Ack's bytes are read as they were written.
-/
import Derived.Test.YtcobcgbpmkpljaaTrip
namespace Go.Proofs.Ytcobcgbpmkpljaa
set_option linter.unusedVariables false
open Go.RowKit
/-- Ranges that fall, all below lo. -/
def descOK : Int → RS → Prop
  | _, [] => True
  | lo, (a, b) :: t => 0 ≤ a ∧ a < b ∧ b < lo ∧ descOK a t
theorem W64_in (x : Int) (h0 : 0 ≤ x) (h1 : x < 18446744073709551616) : W64 x = x := by unfold W64; omega
theorem ack_loop : ∀ (t : RS) (lo : Int) (acc : RS) (more : List Int), lo ≤ 4611686018427387903 → descOK lo t → ackLoop t.length (putL (gapV lo t) ++ more, false) lo acc = (t.reverse ++ acc, (more, false))
  | [], lo, acc, more, _, _ => by simp [ackLoop, putL, gapV]
  | (a, b) :: t, lo, acc, more, hl, h => by
    obtain ⟨h0, h1, h2, h3⟩ := h
    have e : putL (gapV lo ((a, b) :: t)) ++ more = putS (lo - b - 1) ++ (putS (b - 1 - a) ++ (putL (gapV a t) ++ more)) := by simp [putL, gapV]
    have v1 := var_app (lo - b - 1) ⟨by omega, by omega⟩ (putS (b - 1 - a) ++ (putL (gapV a t) ++ more))
    have v2 := var_app (b - 1 - a) ⟨by omega, by omega⟩ (putL (gapV a t) ++ more)
    rw [e]
    unfold ackLoop
    simp only [List.length_cons]
    rw [v1.1, v1.2, v2.1, v2.2, show lo - (lo - b - 1) - 1 = b by omega, W64_in b (by omega) (by omega), show b - 1 - (b - 1 - a) = a by omega, W64_in a (by omega) (by omega), ack_loop t a _ more (by omega) h3]
    simp
theorem steps_snoc (a b lo hi : Int) : ∀ (l : RS) (p : Int), stepsOK p (l ++ [(a, b)] ++ [(lo, hi)]) = (stepsOK p (l ++ [(a, b)]) && (decide (b < lo) && decide (lo < hi)))
  | [], p => by simp [stepsOK, Bool.and_assoc]
  | (x, y) :: l, p => by
    have := steps_snoc a b lo hi l y
    simp only [List.cons_append, stepsOK]
    rw [this]
    simp [Bool.and_assoc]
theorem steps_rev : ∀ (t : RS) (lo hi : Int), stepsOK (-1) (t.reverse ++ [(lo, hi)]) = true → 0 ≤ lo ∧ lo < hi ∧ descOK lo t
  | [], lo, hi, h => by
    simp [stepsOK] at h
    exact ⟨by omega, h.2, trivial⟩
  | (a, b) :: t, lo, hi, h => by
    rw [List.reverse_cons, steps_snoc] at h
    simp only [Bool.and_eq_true, decide_eq_true_eq] at h
    obtain ⟨h1, h2, h3⟩ := h
    obtain ⟨i1, i2, i3⟩ := steps_rev t a b h1
    exact ⟨by omega, h3, i1, i2, h2, i3⟩
theorem ack_app (y : Int) (rs : RS) (more : List Int) (hy : Vr y) (h : rrB rs = true) : ackR (putL (ackV y rs) ++ more, false) = (rs, y, (more, false)) := by
  unfold rrB at h
  simp only [Bool.and_eq_true, decide_eq_true_eq] at h
  obtain ⟨⟨⟨h1, h16⟩, hs⟩, hl⟩ := h
  have hlen : rs.reverse.length = rs.length := List.length_reverse
  unfold ackV
  match hr : rs.reverse with
  | [] => rw [hr] at hlen; simp at hlen; omega
  | (lo, hi) :: t =>
    have e : rs = t.reverse ++ [(lo, hi)] := by rw [← List.reverse_reverse rs, hr, List.reverse_cons]
    have ht : rs.length = t.length + 1 := by rw [e]; simp
    have hlast : lastHi rs = hi := by rw [e]; simp [lastHi]
    rw [hlast] at hl
    rw [e] at hs
    obtain ⟨i1, i2, i3⟩ := steps_rev t lo hi hs
    have e2 : putL ([hi - 1, y, (rs.length : Int) - 1, hi - 1 - lo] ++ gapV lo t) ++ more = putS (hi - 1) ++ (putS y ++ (putS ((rs.length : Int) - 1) ++ (putS (hi - 1 - lo) ++ (putL (gapV lo t) ++ more)))) := by simp [putL]
    simp only
    rw [e2]
    have v1 := var_app (hi - 1) ⟨by omega, by omega⟩ (putS y ++ (putS ((rs.length : Int) - 1) ++ (putS (hi - 1 - lo) ++ (putL (gapV lo t) ++ more))))
    have v2 := var_app y hy (putS ((rs.length : Int) - 1) ++ (putS (hi - 1 - lo) ++ (putL (gapV lo t) ++ more)))
    have v3 := var_app ((rs.length : Int) - 1) ⟨by omega, by omega⟩ (putS (hi - 1 - lo) ++ (putL (gapV lo t) ++ more))
    have v4 := var_app (hi - 1 - lo) ⟨by omega, by omega⟩ (putL (gapV lo t) ++ more)
    unfold ackR ackTop
    rw [v1.1, v1.2, v2.1, v2.2, v3.1, v3.2, v4.1, v4.2, if_neg (by omega), show hi - 1 - (hi - 1 - lo) = lo by omega, W64_in lo (by omega) (by omega), show hi - 1 + 1 = hi by omega, show ((rs.length : Int) - 1).toNat = t.length by omega, ack_loop t lo _ more (by omega) i3]
    rw [← e]
end Go.Proofs.Ytcobcgbpmkpljaa
