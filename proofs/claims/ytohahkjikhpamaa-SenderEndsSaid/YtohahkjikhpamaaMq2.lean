/-
  Gaps of ranges below 200 (mathematics).
-/
import Derived.Test.YtohahkjikhpamaaQk
import Derived.Test.YtohahkjikhpamaaQh
namespace Go.Proofs.Ytohahkjikhpamaa
section
set_option linter.unusedVariables false
set_option linter.unusedSimpArgs false
open Go.RowKit
end
section
set_option linter.unusedVariables false
set_option linter.unusedSimpArgs false
open Go.RowKit
def inR (r : Int × Int) (k : Int) : Bool := decide (r.1 ≤ k) && decide (k < r.2)
theorem inR_iff (r : Int × Int) (k : Int) : inR r k = true ↔ r.1 ≤ k ∧ k < r.2 := by unfold inR; simp
theorem has_cons (r : Int × Int) (t : RL) (k : Int) : hasL (r :: t) k = (inR r k || hasL t k) := rfl
theorem has_app (A B : RL) (k : Int) : hasL (A ++ B) k = (hasL A k || hasL B k) := by unfold hasL; exact List.any_append
theorem has_true {l : RL} {k : Int} : hasL l k = true ↔ ∃ r ∈ l, r.1 ≤ k ∧ k < r.2 := by
  unfold hasL
  rw [List.any_eq_true]
  constructor
  · rintro ⟨r, hr, h⟩
    exact ⟨r, hr, by simpa using h⟩
  · rintro ⟨r, hr, h⟩
    exact ⟨r, hr, by simpa using h⟩
theorem beq_of_iff {a b : Bool} (h : a = true ↔ b = true) : a = b := by
  cases a <;> cases b <;> simp_all
theorem has_cutP (lo hi : Int) (hlt : lo < hi) (r : Int × Int) (k : Int) : hasL (cutP lo hi r) k = (inR r k && !(decide (lo ≤ k) && decide (k < hi))) := by
  apply beq_of_iff
  rw [has_true, Bool.and_eq_true, inR_iff]
  constructor
  · rintro ⟨s, hs, h1, h2⟩
    unfold cutP at hs
    rw [List.mem_append] at hs
    rcases hs with hs | hs
    · split at hs
      · rw [List.mem_singleton] at hs
        subst hs
        simp only at h1 h2
        refine ⟨by omega, ?_⟩
        simp; omega
      · cases hs
    · split at hs
      · rw [List.mem_singleton] at hs
        subst hs
        simp only at h1 h2
        refine ⟨by omega, ?_⟩
        simp; omega
      · cases hs
  · rintro ⟨⟨h1, h2⟩, h3⟩
    simp at h3
    unfold cutP
    by_cases hk : lo ≤ k
    · have h4 : hi ≤ k := by omega
      refine ⟨(max r.1 hi, r.2), List.mem_append_right _ ?_, by show max r.1 hi ≤ k; omega, h2⟩
      rw [if_pos (by omega)]
      exact List.mem_singleton.2 rfl
    · refine ⟨(r.1, min r.2 lo), List.mem_append_left _ ?_, h1, by show k < min r.2 lo; omega⟩
      rw [if_pos (by omega)]
      exact List.mem_singleton.2 rfl
theorem has_flat (lo hi : Int) (hlt : lo < hi) (k : Int) : ∀ l : RL, hasL (l.flatMap (cutP lo hi)) k = (hasL l k && !(decide (lo ≤ k) && decide (k < hi)))
  | [] => rfl
  | r :: t => by
    rw [List.flatMap_cons, has_app, has_cutP lo hi hlt, has_flat lo hi hlt k t, has_cons]
    cases inR r k <;> cases hasL t k <;> simp
theorem has_cutL {l : RL} {lo hi most k : Int} (h : hi ≤ lo ∨ ((l.flatMap (cutP lo hi)).length : Int) ≤ most) : hasL (cutL l lo hi most) k = (hasL l k && !(decide (lo ≤ k) && decide (k < hi))) := by
  unfold cutL
  split
  · rename_i hle
    have : (decide (lo ≤ k) && decide (k < hi)) = false := by simp; omega
    rw [this]
    simp
  · rename_i hlt
    rw [lst_small (h.resolve_left hlt), has_flat lo hi (by omega)]
theorem growR_all : ∀ (B : RL) (x : Int × Int), ∀ r ∈ B, (growR x B).1 ≤ r.1 ∧ r.2 ≤ (growR x B).2
  | b :: t, x, r, hr => by
    rw [show growR x (b :: t) = growR (min x.1 b.1, max x.2 b.2) t from rfl]
    rcases List.mem_cons.1 hr with rfl | hr
    · have := growR_le t (min x.1 r.1, max x.2 r.2)
      simp only at this
      omega
    · exact growR_all t _ r hr
theorem has_addL {l : RL} (hg : Gd l) {lo hi most k : Int} (hlt : lo < hi) (h : ((addGo l (lo, hi) false).length : Int) ≤ most) : hasL (addL l lo hi most) k = (hasL l k || (decide (lo ≤ k) && decide (k < hi))) := by
  obtain ⟨A, B, C, s⟩ := add_split hg hlt
  unfold addL
  rw [lst_small h]
  obtain ⟨rfl, ha, hb, hc⟩ := s
  rw [addGo_abc A B C (lo, hi) hg ha hb hc hlt, has_app, has_app, has_app, has_cons]
  have key : inR (growR (lo, hi) B) k = (hasL B k || (decide (lo ≤ k) && decide (k < hi))) := by
    apply beq_of_iff
    rw [inR_iff, Bool.or_eq_true, has_true]
    have h1 := growR_in B (lo, hi)
    have h2 := growR_le B (lo, hi)
    simp only at h1 h2
    constructor
    · rintro ⟨h3, h4⟩
      by_cases hk : lo ≤ k ∧ k < hi
      · right; simp; exact hk
      · left
        by_cases hk1 : k < lo
        · rcases h1.1 with h5 | ⟨r, hr, h5⟩
          · omega
          · exact ⟨r, hr, by omega, by have := hb r hr; omega⟩
        · rcases h1.2 with h5 | ⟨r, hr, h5⟩
          · omega
          · exact ⟨r, hr, by have := hb r hr; omega, by omega⟩
    · rintro (⟨r, hr, h3, h4⟩ | h3)
      · have := growR_all B (lo, hi) r hr
        omega
      · simp at h3
        omega
  rw [key]
  cases hasL A k <;> cases hasL B k <;> cases hasL C k <;> simp
theorem has_addV {l : RL} (hg : Gd l) {lo hi most k : Int} (hh : hi ≤ 4611686018427387904) (h : ((addGo l (lo, hi) false).length : Int) ≤ most) : hasL (addV l lo hi most) k = (hasL l k || (decide (lo ≤ k) && decide (k < hi))) := by
  unfold addV
  split
  · rename_i hc
    exact has_addL hg hc.1 h
  · rename_i hc
    have : (decide (lo ≤ k) && decide (k < hi)) = false := by simp; omega
    rw [this]
    simp
/-- How many of the first numbers are so. -/
def cntF (f : Nat → Bool) : Nat → Int
  | 0 => 0
  | j + 1 => cntF f j + (if f j then 1 else 0)
end
end Go.Proofs.Ytohahkjikhpamaa
