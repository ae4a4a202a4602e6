/-
  An Ack's ranges as they are written (frame.writeAck).
-/
import Derived.Test.YtbejpafephofaaaGreatMq17
import Derived.IntWalk
namespace Go.Proofs.YtbejpafephofaaaGreat
set_option linter.unusedVariables false
set_option linter.unusedSimpArgs false
open Go.RowKit
def agapV : Int → RS → List Int
  | _, [] => []
  | lo, (a, b) :: t => (lo - b - 1) :: (b - 1 - a) :: agapV a t
def ackV (y : Int) (rs : RS) : List Int :=
  match rs.reverse with
  | [] => []
  | (lo, hi) :: t => [hi - 1, y, (rs.length : Int) - 1, hi - 1 - lo] ++ agapV lo t
theorem rr_all (rs : RS) (h : rrB rs = true) : (1 ≤ rs.length ∧ rs.length ≤ 16) ∧ stepsOK (-1) rs = true ∧ lastHi rs ≤ 4611686018427387904 := by
  unfold rrB at h
  simp at h
  exact ⟨⟨h.1.1.1, h.1.1.2⟩, h.1.2, h.2⟩
theorem gapV_len : ∀ (rs : RS) (lo : Int), (agapV lo rs).length = 2 * rs.length
  | [], lo => rfl
  | (a, b) :: t, lo => by simp [agapV, gapV_len t a]; omega
theorem ackV_len (y : Int) (rs : RS) : (ackV y rs).length ≤ 4 + 2 * rs.length := by
  unfold ackV
  split
  · simp
  · next lo hi t e =>
    have : rs.length = t.length + 1 := by rw [← List.length_reverse, e]; simp
    simp [gapV_len]; omega
end Go.Proofs.YtbejpafephofaaaGreat
