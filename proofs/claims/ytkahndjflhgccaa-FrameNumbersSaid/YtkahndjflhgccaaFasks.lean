/-
  Asks of both.
-/
import Derived.Test.YtkahndjflhgccaaMe
namespace Go.Proofs.Ytkahndjflhgccaa
set_option linter.unusedVariables false
set_option linter.unusedSimpArgs false
open Go.RowKit
def asksB (k : Int) : Bool := k != 0 && (k != 2 && k != 28)
set_option maxRecDepth 100000 in
set_option maxHeartbeats 1000000 in
theorem fasks_any (m : FN) (d r : Sl) (w : World) : Calls Try.prog 28 #[frV m d r] w (FrPost (.bool (asksB m.k)) w) := by
  obtain ⟨k, s, o, fin, l, c, f, q, y, c0, c1, c2, c3, c4, c5, c6, c7⟩ := m
  have hB : Below w.heap.size w (w.alloc (.cells (frL ⟨k, s, o, fin, l, c, f, q, y, c0, c1, c2, c3, c4, c5, c6, c7⟩ d r).toArray 31)) := (Below.refl _ _).alloc (Nat.le_refl _) _
  obtain ⟨V, hV⟩ : ∃ x, asksB k = x := ⟨_, rfl⟩
  have HV := Lib.hid hV
  have HB := Lib.hid hB
  simp only
  rw [hV]
  clear hV hB
  obtain ⟨dA, dn, dc⟩ := d
  obtain ⟨rA, rn, rc⟩ := r
  simp only [frV, frL]
  rcases Decidable.em (k = 0) with rfl | h0
  · go_enter Try.func28, Try.ntmps28
    go_wp2
    go_ret
    exact ⟨by rw [← HV.out]; rfl, HB.out⟩
  have e0 : (k != 0) = true := by simpa using h0
  have f0 : (k == 0) = false := by simpa using h0
  rcases Decidable.em (k = 2) with rfl | h2
  · go_enter Try.func28, Try.ntmps28
    go_wp2
    go_ret
    exact ⟨by rw [← HV.out]; rfl, HB.out⟩
  have e2 : (k != 2) = true := by simpa using h2
  have f2 : (k == 2) = false := by simpa using h2
  rcases Decidable.em (k = 28) with rfl | h28
  · go_enter Try.func28, Try.ntmps28
    go_wp2
    go_ret
    exact ⟨by rw [← HV.out]; rfl, HB.out⟩
  have e28 : (k != 28) = true := by simpa using h28
  have f28 : (k == 28) = false := by simpa using h28
  have HT : Hid (V = true) := Lib.hid (by rw [← HV.out]; unfold asksB; rw [e0, e2, e28]; rfl)
  clear h0 h2 h28
  go_enter Try.func28, Try.ntmps28
  go_wp2
  go_ret
  exact ⟨by rw [HT.out]; rfl, HB.out⟩
set_option maxRecDepth 100000 in
set_option maxHeartbeats 1000000 in
theorem rasks_any (m : FN) (d r : Sl) (w : World) : Calls Try.prog 29 #[frV m d r] w (FrPost (.bool (asksB m.k)) w) := by
  obtain ⟨k, s, o, fin, l, c, f, q, y, c0, c1, c2, c3, c4, c5, c6, c7⟩ := m
  have hB : Below w.heap.size w (w.alloc (.cells (frL ⟨k, s, o, fin, l, c, f, q, y, c0, c1, c2, c3, c4, c5, c6, c7⟩ d r).toArray 31)) := (Below.refl _ _).alloc (Nat.le_refl _) _
  obtain ⟨V, hV⟩ : ∃ x, asksB k = x := ⟨_, rfl⟩
  have HV := Lib.hid hV
  have HB := Lib.hid hB
  simp only
  rw [hV]
  clear hV hB
  obtain ⟨dA, dn, dc⟩ := d
  obtain ⟨rA, rn, rc⟩ := r
  simp only [frV, frL]
  rcases Decidable.em (k = 0) with rfl | h0
  · go_enter Try.func29, Try.ntmps29
    go_wp2
    go_ret
    exact ⟨by rw [← HV.out]; rfl, HB.out⟩
  have e0 : (k != 0) = true := by simpa using h0
  have f0 : (k == 0) = false := by simpa using h0
  rcases Decidable.em (k = 2) with rfl | h2
  · go_enter Try.func29, Try.ntmps29
    go_wp2
    go_ret
    exact ⟨by rw [← HV.out]; rfl, HB.out⟩
  have e2 : (k != 2) = true := by simpa using h2
  have f2 : (k == 2) = false := by simpa using h2
  rcases Decidable.em (k = 28) with rfl | h28
  · go_enter Try.func29, Try.ntmps29
    go_wp2
    go_ret
    exact ⟨by rw [← HV.out]; rfl, HB.out⟩
  have e28 : (k != 28) = true := by simpa using h28
  have f28 : (k == 28) = false := by simpa using h28
  have HT : Hid (V = true) := Lib.hid (by rw [← HV.out]; unfold asksB; rw [e0, e2, e28]; rfl)
  clear h0 h2 h28
  go_enter Try.func29, Try.ntmps29
  go_wp2
  go_ret
  exact ⟨by rw [HT.out]; rfl, HB.out⟩
end Go.Proofs.Ytkahndjflhgccaa
