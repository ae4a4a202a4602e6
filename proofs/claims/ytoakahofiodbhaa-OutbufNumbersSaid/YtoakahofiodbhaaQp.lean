/-
  What is in a set (mathematics).
-/
import Derived.Test.YtoakahofiodbhaaQn
namespace Go.Proofs.Ytoakahofiodbhaa
set_option linter.unusedVariables false
set_option linter.unusedSimpArgs false
open Go.RowKit
def inR (r : Int × Int) (k : Int) : Bool := decide (r.1 ≤ k) && decide (k < r.2)
theorem inR_iff (r : Int × Int) (k : Int) : inR r k = true ↔ r.1 ≤ k ∧ k < r.2 := by unfold inR; simp
theorem has_cons (r : Int × Int) (t : RL) (k : Int) : hasL (r :: t) k = (inR r k || hasL t k) := rfl
theorem has_app (A B : RL) (k : Int) : hasL (A ++ B) k = (hasL A k || hasL B k) := by unfold hasL; exact List.any_append
theorem has_true {l : RL} {k : Int} : hasL l k = true ↔ ∃ r ∈ l, r.1 ≤ k ∧ k < r.2 := by
  unfold hasL
  rw [List.any_eq_true]
  constructor
  · rintro ⟨r, hr, h⟩
    exact ⟨r, hr, by simpa using h⟩
  · rintro ⟨r, hr, h⟩
    exact ⟨r, hr, by simpa using h⟩
theorem beq_of_iff {a b : Bool} (h : a = true ↔ b = true) : a = b := by
  cases a <;> cases b <;> simp_all
theorem has_cutP (lo hi : Int) (hlt : lo < hi) (r : Int × Int) (k : Int) : hasL (cutP lo hi r) k = (inR r k && !(decide (lo ≤ k) && decide (k < hi))) := by
  apply beq_of_iff
  rw [has_true, Bool.and_eq_true, inR_iff]
  constructor
  · rintro ⟨s, hs, h1, h2⟩
    unfold cutP at hs
    rw [List.mem_append] at hs
    rcases hs with hs | hs
    · split at hs
      · rw [List.mem_singleton] at hs
        subst hs
        simp only at h1 h2
        refine ⟨by omega, ?_⟩
        simp; omega
      · cases hs
    · split at hs
      · rw [List.mem_singleton] at hs
        subst hs
        simp only at h1 h2
        refine ⟨by omega, ?_⟩
        simp; omega
      · cases hs
  · rintro ⟨⟨h1, h2⟩, h3⟩
    simp at h3
    unfold cutP
    by_cases hk : lo ≤ k
    · have h4 : hi ≤ k := by omega
      refine ⟨(max r.1 hi, r.2), List.mem_append_right _ ?_, by show max r.1 hi ≤ k; omega, h2⟩
      rw [if_pos (by omega)]
      exact List.mem_singleton.2 rfl
    · refine ⟨(r.1, min r.2 lo), List.mem_append_left _ ?_, h1, by show k < min r.2 lo; omega⟩
      rw [if_pos (by omega)]
      exact List.mem_singleton.2 rfl
theorem has_flat (lo hi : Int) (hlt : lo < hi) (k : Int) : ∀ l : RL, hasL (l.flatMap (cutP lo hi)) k = (hasL l k && !(decide (lo ≤ k) && decide (k < hi)))
  | [] => rfl
  | r :: t => by
    rw [List.flatMap_cons, has_app, has_cutP lo hi hlt, has_flat lo hi hlt k t, has_cons]
    cases inR r k <;> cases hasL t k <;> simp
theorem has_cutL {l : RL} {lo hi most k : Int} (h : hi ≤ lo ∨ ((l.flatMap (cutP lo hi)).length : Int) ≤ most) : hasL (cutL l lo hi most) k = (hasL l k && !(decide (lo ≤ k) && decide (k < hi))) := by
  unfold cutL
  split
  · rename_i hle
    have : (decide (lo ≤ k) && decide (k < hi)) = false := by simp; omega
    rw [this]
    simp
  · rename_i hlt
    rw [lst_small (h.resolve_left hlt), has_flat lo hi (by omega)]
theorem growR_all : ∀ (B : RL) (x : Int × Int), ∀ r ∈ B, (growR x B).1 ≤ r.1 ∧ r.2 ≤ (growR x B).2
  | b :: t, x, r, hr => by
    rw [show growR x (b :: t) = growR (min x.1 b.1, max x.2 b.2) t from rfl]
    rcases List.mem_cons.1 hr with rfl | hr
    · have := growR_le t (min x.1 r.1, max x.2 r.2)
      simp only at this
      omega
    · exact growR_all t _ r hr
theorem has_addL {l : RL} (hg : Gd l) {lo hi most k : Int} (hlt : lo < hi) (h : ((addGo l (lo, hi) false).length : Int) ≤ most) : hasL (addL l lo hi most) k = (hasL l k || (decide (lo ≤ k) && decide (k < hi))) := by
  obtain ⟨A, B, C, s⟩ := add_split hg hlt
  unfold addL
  rw [lst_small h]
  obtain ⟨rfl, ha, hb, hc⟩ := s
  rw [addGo_abc A B C (lo, hi) hg ha hb hc hlt, has_app, has_app, has_app, has_cons]
  have key : inR (growR (lo, hi) B) k = (hasL B k || (decide (lo ≤ k) && decide (k < hi))) := by
    apply beq_of_iff
    rw [inR_iff, Bool.or_eq_true, has_true]
    have h1 := growR_in B (lo, hi)
    have h2 := growR_le B (lo, hi)
    simp only at h1 h2
    constructor
    · rintro ⟨h3, h4⟩
      by_cases hk : lo ≤ k ∧ k < hi
      · right; simp; exact hk
      · left
        by_cases hk1 : k < lo
        · rcases h1.1 with h5 | ⟨r, hr, h5⟩
          · omega
          · exact ⟨r, hr, by omega, by have := hb r hr; omega⟩
        · rcases h1.2 with h5 | ⟨r, hr, h5⟩
          · omega
          · exact ⟨r, hr, by have := hb r hr; omega, by omega⟩
    · rintro (⟨r, hr, h3, h4⟩ | h3)
      · have := growR_all B (lo, hi) r hr
        omega
      · simp at h3
        omega
  rw [key]
  cases hasL A k <;> cases hasL B k <;> cases hasL C k <;> simp
theorem has_addV {l : RL} (hg : Gd l) {lo hi most k : Int} (hh : hi ≤ 4611686018427387904) (h : ((addGo l (lo, hi) false).length : Int) ≤ most) : hasL (addV l lo hi most) k = (hasL l k || (decide (lo ≤ k) && decide (k < hi))) := by
  unfold addV
  split
  · rename_i hc
    exact has_addL hg hc.1 h
  · rename_i hc
    have : (decide (lo ≤ k) && decide (k < hi)) = false := by simp; omega
    rw [this]
    simp
theorem addB_lt {l : RL} (hg : Gd l) {lo hi most : Int} (hh : hi ≤ 4611686018427387904) (h : ((addGo l (lo, hi) false).length : Int) ≤ most) : addB l lo hi most = decide (lo < hi) := by
  unfold addB
  by_cases hlt : lo < hi
  · rw [if_pos ⟨hlt, hh⟩, has_addL hg hlt h]
    simp [hlt]
  · rw [if_neg (fun h => hlt h.1)]
    simp [hlt]
/-- How many of the first numbers are so. -/
def cntF (f : Nat → Bool) : Nat → Int
  | 0 => 0
  | j + 1 => cntF f j + (if f j then 1 else 0)
theorem cntF_or (f g h : Nat → Bool) (hfg : ∀ k, f k = true → g k = true → False) (he : ∀ k, h k = (f k || g k)) : ∀ j, cntF h j = cntF f j + cntF g j
  | 0 => rfl
  | j + 1 => by
    rw [cntF, cntF, cntF, cntF_or f g h hfg he j, he j]
    have := hfg j
    cases hf : f j <;> cases hgj : g j <;> simp_all <;> omega
theorem cntF_inR (r : Int × Int) (h0 : 0 ≤ r.1) (hr : r.1 ≤ r.2) : ∀ j : Nat, cntF (fun k => inR r (k : Int)) j = max 0 (min (j : Int) r.2 - r.1)
  | 0 => by
    show (0 : Int) = _
    omega
  | j + 1 => by
    rw [cntF, cntF_inR r h0 hr j]
    by_cases hk : inR r (j : Int) = true
    · simp only [hk, if_true]
      rw [inR_iff] at hk
      omega
    · have hk2 : inR r (j : Int) = false := by simpa using hk
      simp only [hk2]
      rw [inR_iff] at hk
      simp
      omega
theorem cnt_has : ∀ (l : RL) (m : Nat), Gd l → Bd m l → cntF (fun k => hasL l (k : Int)) m = cntL l
  | [], m, _, _ => by
    have : ∀ j, cntF (fun k => hasL [] (k : Int)) j = 0 := fun j => by
      induction j with
      | zero => rfl
      | succ j ih =>
        rw [cntF, ih]
        rfl
    rw [this]
    rfl
  | r :: t, m, hg, hb => by
    have h' := gd_cons.1 hg
    have hok := h'.1
    unfold OkR at hok
    have hrb := hb r (List.mem_cons_self ..)
    rw [cntF_or (fun k => inR r (k : Int)) (fun k => hasL t (k : Int)) _ ?_ (fun k => has_cons r t k), cntF_inR r hok.1 (by omega), cnt_has t m h'.2.1 (fun s hs => hb s (List.mem_cons_of_mem _ hs))]
    · show _ = (r.2 - r.1) + cntL t
      omega
    · intro k h1 h2
      rw [inR_iff] at h1
      obtain ⟨s, hs, h3⟩ := has_true.1 h2
      have := h'.2.2 s hs
      omega
theorem cntF_le (f : Nat → Bool) : ∀ j : Nat, 0 ≤ cntF f j ∧ cntF f j ≤ j
  | 0 => ⟨Int.le_refl _, Int.le_refl _⟩
  | j + 1 => by
    have := cntF_le f j
    rw [cntF]
    split <;> omega
theorem cntF_congr (f g : Nat → Bool) (m : Nat) (h : ∀ k, k < m → f k = g k) : ∀ j, j ≤ m → cntF f j = cntF g j
  | 0, _ => rfl
  | j + 1, hj => by rw [cntF, cntF, cntF_congr f g m h j (by omega), h j (by omega)]
/-- The table of what is in. -/
def tabL (f : Nat → Bool) : List Value := (List.range 64).map fun k => .bool (f k)
theorem tab_get (f : Nat → Bool) {k : Nat} (hk : k < 64) : (tabL f)[k]? = some (.bool (f k)) := by
  unfold tabL
  rw [List.getElem?_map, List.getElem?_range hk]
  rfl
theorem tab_set (f : Nat → Bool) {k : Nat} (hk : k < 64) (b : Bool) : (tabL f).set k (.bool b) = tabL fun t => if t = k then b else f t := by
  apply List.ext_getElem?
  intro t
  rw [List.getElem?_set]
  by_cases ht : t < 64
  · rw [tab_get _ ht, tab_get _ ht]
    by_cases e : k = t
    · subst e
      simp [tabL, hk]
    · rw [if_neg e, if_neg (fun h => e h.symm)]
  · have h1 : ∀ g : Nat → Bool, (tabL g)[t]? = none := fun g => List.getElem?_eq_none (by simp [tabL]; omega)
    rw [h1, h1, if_neg (by omega)]
end Go.Proofs.Ytoakahofiodbhaa
