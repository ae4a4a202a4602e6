/-
  outbuf: rows of ranges that say what is to be sent again, what is acknowledged: the first of them, the base.
-/
import Derived.Test.YtohahkjikhpamaaDa
namespace Go.Proofs.Ytohahkjikhpamaa
set_option linter.unusedVariables false
set_option linter.unusedSimpArgs false
/-- Ranges that say which numbers are so. -/
def Says (l : RL) (f : Nat → Bool) : Prop := ∀ j : Nat, hasL l (j : Int) = f j
theorem says_nil {f : Nat → Bool} (h : Says [] f) (j : Nat) : f j = false := (h j).symm
/-- Within the first range all are so, behind it there is one that is not, before it none. -/
theorem says_head {r : Int × Int} {t : RL} {f : Nat → Bool} (hg : Gd (r :: t)) (h : Says (r :: t) f) : (∀ j : Nat, (j : Int) < r.1 → f j = false) ∧ (∀ j : Nat, r.1 ≤ (j : Int) → (j : Int) < r.2 → f j = true) ∧ (∀ j : Nat, (j : Int) = r.2 → f j = false) := by
  obtain ⟨h1, h2, h3⟩ := gd_cons.1 hg
  unfold OkR at h1
  refine ⟨fun j hj => ?_, fun j h4 h5 => ?_, fun j hj => ?_⟩
  · rw [← h j]
    cases hc : hasL (r :: t) (j : Int) with
    | false => rfl
    | true =>
      obtain ⟨s, hs, h4⟩ := has_true.1 hc
      rcases List.mem_cons.1 hs with rfl | hs
      · omega
      · have := h3 s hs
        omega
  · rw [← h j]
    exact has_true.2 ⟨r, List.mem_cons_self .., h4, h5⟩
  · rw [← h j]
    cases hc : hasL (r :: t) (j : Int) with
    | false => rfl
    | true =>
      obtain ⟨s, hs, h4⟩ := has_true.1 hc
      rcases List.mem_cons.1 hs with rfl | hs
      · omega
      · have := h3 s hs
        omega
/-- The run from the first range's beginning on. -/
theorem says_run {r : Int × Int} {t : RL} {f : Nat → Bool} (hg : Gd (r :: t)) (h : Says (r :: t) f) {i k : Nat} (hi : (i : Int) = r.1) (hk : (k : Int) = r.2) (m : Nat) : runF f i m = min m (k - i) := by
  obtain ⟨h1, _, _⟩ := gd_cons.1 hg
  unfold OkR at h1
  obtain ⟨k1, k2, k3⟩ := says_head hg h
  refine runF_is (Nat.min_le_left _ _) (fun j hj => k2 _ (by omega) (by omega)) fun hl => ?_
  have e : i + min m (k - i) = k := by omega
  rw [e]
  exact k3 k hk
/-- The first that is to be sent again. -/
theorem says_first {S : OS} (hok : S.ok) {r : Int × Int} {t : RL} (hg : Gd (r :: t)) (h : Says (r :: t) S.ag) {i k : Nat} (hi : (i : Int) = r.1) (hk : (k : Int) = r.2) : firstO S = i ∧ i < k ∧ k ≤ S.gn := by
  obtain ⟨h1, _, _⟩ := gd_cons.1 hg
  unfold OkR at h1
  obtain ⟨k1, k2, k3⟩ := says_head hg h
  have hkg : k ≤ S.gn := by
    have := (hok.kg (k - 1) (k2 _ (by omega) (by omega))).1
    omega
  refine ⟨runF_is (by omega) (fun j hj => ?_) fun _ => ?_, by omega, hkg⟩
  · rw [Nat.zero_add, k1 j (by omega)]
    rfl
  · rw [Nat.zero_add, k2 i (by omega) (by omega)]
    rfl
theorem says_first_nil {S : OS} (h : Says [] S.ag) : firstO S = S.gn :=
  runF_is (Nat.le_refl _) (fun j _ => by rw [says_nil h]; rfl) fun hl => absurd hl (by omega)
/-- From where Next takes, and up to where. -/
theorem says_from {S : OS} (hok : S.ok) {r : Int × Int} {t : RL} (hg : Gd (r :: t)) (h : Says (r :: t) S.ag) {i k : Nat} (hi : (i : Int) = r.1) (hk : (k : Int) = r.2) (most limit : Nat) : fromO S most limit = (i, i + min most (k - i)) := by
  obtain ⟨h1, h2, h3⟩ := says_first hok hg h hi hk
  unfold fromO
  rw [h1, if_pos (by omega), says_run hg h hi hk]
  congr 1
  omega
theorem says_from_nil {S : OS} (h : Says [] S.ag) (most limit : Nat) : fromO S most limit = (S.gn, max S.gn (min (min S.bs.length limit) (S.gn + most))) := by
  unfold fromO
  rw [says_first_nil h, if_neg (Nat.lt_irrefl _)]
end Go.Proofs.Ytohahkjikhpamaa
