/-
  Set's Gap and Copy.
-/
import Derived.Test.YtndaikeeikimeaaMq3
import Derived.Test.YtndaikeeikimeaaQk
namespace Go.Proofs.Ytndaikeeikimeaa
section
set_option linter.unusedVariables false
set_option linter.unusedSimpArgs false
open Go.RowKit
def gapV (l : RL) (f to : Int) : Array Value := if to ≤ gapF l f then #[.agg #[.int .u64 0, .int .u64 0], .bool false] else #[.agg #[.int .u64 (gapF l f), .int .u64 (gapE l (gapF l f) to)], .bool true]
theorem at_two {w : World} {g : Nat} {T : TypeId} {a b : Value} (h : At w g T [a, b]) (x y : Value) : At ((w.setCell ⟨g, 0, none⟩ x).setCell ⟨g, 1, none⟩ y) g T [x, y] := (h.set 0 x).set 1 y
set_option maxHeartbeats 2000000 in
set_option maxRecDepth 100000 in
theorem gap_any' (base p : Nat) (most : Int) (v : Value) (l : RL) (w : World) (hs : SetV w base p most v l) (hn : l.length ≤ 2000000) (hg : Gd l) (f to : Int) :
    Calls Try.prog 58 #[.pointer (some ⟨p, 0, none⟩), .int .u64 f, .int .u64 to] w fun e w' => e = .returned (.tuple (gapV l f to)) ∧ Below w.heap.size w w' := by
  obtain ⟨A, B, e, ha, hb⟩ := split_at (fun r => decide (f < r.2)) l (hg.mono _ fun a b h1 h2 h3 h4 => by unfold OkR at *; simp at *; omega)
  have ha' : ∀ r ∈ A, r.2 ≤ f := fun r hr => by have := ha r hr; simp at this; exact this
  have hb' : ∀ r ∈ B, f < r.2 := fun r hr => by have := hb r hr; simpa using this
  obtain ⟨w1, hw1⟩ : ∃ w1, w1 = w.alloc (.cells #[.int .u64 0, .int .u64 0] 105) := ⟨_, rfl⟩
  have hB0 : Below w.heap.size w w1 := by rw [hw1]; exact (Below.refl _ w).alloc (Nat.le_refl _) _
  have hsz : w.heap.size < w1.heap.size := by rw [hw1]; simp
  have hA1 : At w1 w.heap.size 105 [.int .u64 0, .int .u64 0] := by rw [hw1]; exact At.new w _ _
  have hs1 := hs.below hB0
  have HE := Lib.hid (ends_any p base most v l f A.length w1 hs1 (by omega) (by rw [e]; simp) (fun t r ht hr => ha' r (idx_left (e ▸ hr) ht)) (fun t r ht hr => hb' r (idx_right (e ▸ hr) ht)))
  have HH := Lib.hid (gap_at hg e ha' hb')
  have HS := Lib.hid hs1
  have HW := Lib.hid hw1
  have HB0 := Lib.hid hB0
  have HA1 := Lib.hid hA1
  clear ha hb ha' hb' hs hw1 hB0 hA1
  cases B with
  | nil =>
    obtain ⟨Av, c, rfl, _, _⟩ := hs1.own.shape
    clear hs1
    have hk : A.length = l.length := by rw [e]; simp
    rw [hk] at HE
    have hG : gapF l f = f ∧ ∀ to, gapE l f to = to := HH.out
    unfold gapV
    rw [hG.1, hG.2]
    clear hk HH e hG
    generalize l.length = n at *
    by_cases hto : to ≤ f
    · rw [if_pos hto]
      go_enter Try.func58, Try.ntmps58
      go_wp2_with (go_at_call 61; rw [← HW.out]; refine HE.out.mono ?_; rintro e w2 ⟨rfl, hB⟩; have hs2 := HS.out.below hB; have hc := hs2.c1; clear hs2; have hA2 := HA1.out.below hB hsz; have d0 := hA2.cell 0; have d1 := hA2.cell 1; have f0 := hA2.frozen 0; have f1 := hA2.frozen 1; simp at d0 d1; have HA2 := Lib.hid hA2; clear hA2)
      refine bodyPost_ret (results_cell_tmp 6 7 105 (by rfl) _ 105 _ _ _ (by rfl) (by rfl) (at_two HA2.out _ _) Try.underlying105 rfl (by kernel_rfl)) rfl ?_
      exact ⟨rfl, ((HB0.out.trans (hB.mono HB0.out.size)).setCell (Nat.le_refl _) _).setCell (Nat.le_refl _) _⟩
    · rw [if_neg hto]
      go_enter Try.func58, Try.ntmps58
      go_wp2_with (go_at_call 61; rw [← HW.out]; refine HE.out.mono ?_; rintro e w2 ⟨rfl, hB⟩; have hs2 := HS.out.below hB; have hc := hs2.c1; clear hs2; have hA2 := HA1.out.below hB hsz; have d0 := hA2.cell 0; have d1 := hA2.cell 1; have f0 := hA2.frozen 0; have f1 := hA2.frozen 1; simp at d0 d1; have HA2 := Lib.hid hA2; clear hA2)
      refine bodyPost_ret (results_cell_tmp 6 7 105 (by rfl) _ 105 _ _ _ (by rfl) (by rfl) (at_two HA2.out _ _) Try.underlying105 rfl (by kernel_rfl)) rfl ?_
      exact ⟨rfl, ((HB0.out.trans (hB.mono HB0.out.size)).setCell (Nat.le_refl _) _).setCell (Nat.le_refl _) _⟩
  | cons r t =>
    have hi : l[A.length]? = some r := by rw [e, List.getElem?_append_right (Nat.le_refl _), Nat.sub_self]; rfl
    have hi2 : l[A.length + 1]? = t[0]? := by rw [e, List.getElem?_append_right (by omega), show A.length + 1 - A.length = 1 by omega]; rfl
    have hll : l.length = A.length + 1 + t.length := by rw [e]; simp; omega
    have hlt := (List.getElem?_eq_some_iff.1 hi).1
    obtain ⟨g, c, rfl, hnc, hcm⟩ := hs1.some_ (by omega)
    have hcm' : c ≤ 9223372036854775807 := by unfold maxLen at hcm; omega
    have HBS : ∀ s, t[0]? = some s → r.2 < s.1 := fun s h => by
      have h1 := (gd_app.1 (e ▸ hg)).2.1
      exact (gd_cons.1 h1).2.2 s (List.mem_of_getElem? h)
    clear hs1 e
    obtain ⟨HG1, HG2⟩ : (r.1 ≤ f → gapF l f = r.2 ∧ ∀ to, gapE l r.2 to = minHead t to) ∧ (f < r.1 → gapF l f = f ∧ ∀ to, gapE l f to = min to r.1) := HH.out
    clear HH
    have HI := Lib.hid hi
    have HI2 := Lib.hid hi2
    clear hi hi2
    obtain ⟨a, b⟩ := r
    simp only at HG1 HG2 HBS
    generalize A.length = k at *
    have hkz : (k : Int) < (l.length : Nat) := by omega
    unfold gapV
    by_cases hrf : a ≤ f
    · obtain ⟨hG1, hG2⟩ := HG1 hrf
      rw [hG1, hG2]
      clear HG1 HG2 hG1 hG2
      cases t with
      | nil =>
        have hk1 : l.length = k + 1 := by simpa using hll
        have hkz2 : ¬ ((k : Int) + 1 < (l.length : Nat)) := by omega
        show Calls _ _ _ _ (fun e w' => e = .returned (.tuple (if to ≤ b then _ else #[.agg #[.int .u64 b, .int .u64 to], .bool true])) ∧ _)
        clear hll hk1 HBS HI2
        generalize l.length = n at *
        by_cases hto : to ≤ b
        · rw [if_pos hto]
          go_enter Try.func58, Try.ntmps58
          go_wp2_with (go_at_call 61; rw [← HW.out]; refine HE.out.mono ?_; rintro e w2 ⟨rfl, hB⟩; have hs2 := HS.out.below hB; have hc := hs2.c1; have he := hs2.el HI.out; have he1 := he.1; have he2 := he.2; simp only at he1 he2; clear he; clear hs2; have hA2 := HA1.out.below hB hsz; have d0 := hA2.cell 0; have d1 := hA2.cell 1; have f0 := hA2.frozen 0; have f1 := hA2.frozen 1; simp at d0 d1; have HA2 := Lib.hid hA2; clear hA2)
          refine bodyPost_ret (results_cell_tmp 6 7 105 (by rfl) _ 105 _ _ _ (by rfl) (by rfl) (at_two HA2.out _ _) Try.underlying105 rfl (by kernel_rfl)) rfl ?_
          exact ⟨rfl, ((HB0.out.trans (hB.mono HB0.out.size)).setCell (Nat.le_refl _) _).setCell (Nat.le_refl _) _⟩
        · rw [if_neg hto]
          go_enter Try.func58, Try.ntmps58
          go_wp2_with (go_at_call 61; rw [← HW.out]; refine HE.out.mono ?_; rintro e w2 ⟨rfl, hB⟩; have hs2 := HS.out.below hB; have hc := hs2.c1; have he := hs2.el HI.out; have he1 := he.1; have he2 := he.2; simp only at he1 he2; clear he; clear hs2; have hA2 := HA1.out.below hB hsz; have d0 := hA2.cell 0; have d1 := hA2.cell 1; have f0 := hA2.frozen 0; have f1 := hA2.frozen 1; simp at d0 d1; have HA2 := Lib.hid hA2; clear hA2)
          refine bodyPost_ret (results_cell_tmp 6 7 105 (by rfl) _ 105 _ _ _ (by rfl) (by rfl) (at_two HA2.out _ _) Try.underlying105 rfl (by kernel_rfl)) rfl ?_
          exact ⟨rfl, ((HB0.out.trans (hB.mono HB0.out.size)).setCell (Nat.le_refl _) _).setCell (Nat.le_refl _) _⟩
      | cons s u =>
        have hk1 : (k : Int) + 1 < (l.length : Nat) := by simp at hll; omega
        show Calls _ _ _ _ (fun e w' => e = .returned (.tuple (if to ≤ b then _ else #[.agg #[.int .u64 b, .int .u64 (min to s.1)], .bool true])) ∧ _)
        have hbs : b < s.1 := HBS s rfl
        simp only [List.getElem?_cons_zero] at HI2
        clear hll HBS
        generalize l.length = n at *
        obtain ⟨x, y⟩ := s
        simp only at *
        by_cases hto : to ≤ b
        · rw [if_pos hto]
          have hm1 : to ≤ x := by omega
          have hm2 : ¬ x < to := by omega
          go_enter Try.func58, Try.ntmps58
          go_wp2_with (go_at_call 61; rw [← HW.out]; refine HE.out.mono ?_; rintro e w2 ⟨rfl, hB⟩; have hs2 := HS.out.below hB; have hc := hs2.c1; have he := hs2.el HI.out; have he1 := he.1; have he2 := he.2; have hs0 := (hs2.el HI2.out).1; simp only at he1 he2 hs0; clear he; clear hs2; have hA2 := HA1.out.below hB hsz; have d0 := hA2.cell 0; have d1 := hA2.cell 1; have f0 := hA2.frozen 0; have f1 := hA2.frozen 1; simp at d0 d1; have HA2 := Lib.hid hA2; clear hA2)
          refine bodyPost_ret (results_cell_tmp 6 7 105 (by rfl) _ 105 _ _ _ (by rfl) (by rfl) (at_two HA2.out _ _) Try.underlying105 rfl (by kernel_rfl)) rfl ?_
          exact ⟨rfl, ((HB0.out.trans (hB.mono HB0.out.size)).setCell (Nat.le_refl _) _).setCell (Nat.le_refl _) _⟩
        · rw [if_neg hto]
          rcases Int.lt_or_le x to with hm1 | hm1
          · rw [Int.min_eq_right (Int.le_of_lt hm1)]
            have hm2 : ¬ x ≤ b := by omega
            go_enter Try.func58, Try.ntmps58
            go_wp2_with (go_at_call 61; rw [← HW.out]; refine HE.out.mono ?_; rintro e w2 ⟨rfl, hB⟩; have hs2 := HS.out.below hB; have hc := hs2.c1; have he := hs2.el HI.out; have he1 := he.1; have he2 := he.2; have hs0 := (hs2.el HI2.out).1; simp only at he1 he2 hs0; clear he; clear hs2; have hA2 := HA1.out.below hB hsz; have d0 := hA2.cell 0; have d1 := hA2.cell 1; have f0 := hA2.frozen 0; have f1 := hA2.frozen 1; simp at d0 d1; have HA2 := Lib.hid hA2; clear hA2)
            refine bodyPost_ret (results_cell_tmp 6 7 105 (by rfl) _ 105 _ _ _ (by rfl) (by rfl) (at_two HA2.out _ _) Try.underlying105 rfl (by kernel_rfl)) rfl ?_
            exact ⟨rfl, ((HB0.out.trans (hB.mono HB0.out.size)).setCell (Nat.le_refl _) _).setCell (Nat.le_refl _) _⟩
          rw [Int.min_eq_left hm1]
          have hm2 : ¬ x < to := by omega
          go_enter Try.func58, Try.ntmps58
          go_wp2_with (go_at_call 61; rw [← HW.out]; refine HE.out.mono ?_; rintro e w2 ⟨rfl, hB⟩; have hs2 := HS.out.below hB; have hc := hs2.c1; have he := hs2.el HI.out; have he1 := he.1; have he2 := he.2; have hs0 := (hs2.el HI2.out).1; simp only at he1 he2 hs0; clear he; clear hs2; have hA2 := HA1.out.below hB hsz; have d0 := hA2.cell 0; have d1 := hA2.cell 1; have f0 := hA2.frozen 0; have f1 := hA2.frozen 1; simp at d0 d1; have HA2 := Lib.hid hA2; clear hA2)
          refine bodyPost_ret (results_cell_tmp 6 7 105 (by rfl) _ 105 _ _ _ (by rfl) (by rfl) (at_two HA2.out _ _) Try.underlying105 rfl (by kernel_rfl)) rfl ?_
          exact ⟨rfl, ((HB0.out.trans (hB.mono HB0.out.size)).setCell (Nat.le_refl _) _).setCell (Nat.le_refl _) _⟩
    · have hrf2 : f < a := by omega
      obtain ⟨hG1, hG2⟩ := HG2 hrf2
      rw [hG1, hG2]
      clear HG1 HG2 hG1 hG2 hll HBS HI2
      generalize l.length = n at *
      by_cases hto : to ≤ f
      · rw [if_pos hto]
        have hm1 : to ≤ a := by omega
        have hm2 : ¬ a < to := by omega
        go_enter Try.func58, Try.ntmps58
        go_wp2_with (go_at_call 61; rw [← HW.out]; refine HE.out.mono ?_; rintro e w2 ⟨rfl, hB⟩; have hs2 := HS.out.below hB; have hc := hs2.c1; have he := hs2.el HI.out; have he1 := he.1; have he2 := he.2; simp only at he1 he2; clear he; clear hs2; have hA2 := HA1.out.below hB hsz; have d0 := hA2.cell 0; have d1 := hA2.cell 1; have f0 := hA2.frozen 0; have f1 := hA2.frozen 1; simp at d0 d1; have HA2 := Lib.hid hA2; clear hA2)
        refine bodyPost_ret (results_cell_tmp 6 7 105 (by rfl) _ 105 _ _ _ (by rfl) (by rfl) (at_two HA2.out _ _) Try.underlying105 rfl (by kernel_rfl)) rfl ?_
        exact ⟨rfl, ((HB0.out.trans (hB.mono HB0.out.size)).setCell (Nat.le_refl _) _).setCell (Nat.le_refl _) _⟩
      · rw [if_neg hto]
        rcases Int.lt_or_le a to with hm1 | hm1
        · rw [Int.min_eq_right (Int.le_of_lt hm1)]
          have hm2 : ¬ a ≤ f := by omega
          go_enter Try.func58, Try.ntmps58
          go_wp2_with (go_at_call 61; rw [← HW.out]; refine HE.out.mono ?_; rintro e w2 ⟨rfl, hB⟩; have hs2 := HS.out.below hB; have hc := hs2.c1; have he := hs2.el HI.out; have he1 := he.1; have he2 := he.2; simp only at he1 he2; clear he; clear hs2; have hA2 := HA1.out.below hB hsz; have d0 := hA2.cell 0; have d1 := hA2.cell 1; have f0 := hA2.frozen 0; have f1 := hA2.frozen 1; simp at d0 d1; have HA2 := Lib.hid hA2; clear hA2)
          refine bodyPost_ret (results_cell_tmp 6 7 105 (by rfl) _ 105 _ _ _ (by rfl) (by rfl) (at_two HA2.out _ _) Try.underlying105 rfl (by kernel_rfl)) rfl ?_
          exact ⟨rfl, ((HB0.out.trans (hB.mono HB0.out.size)).setCell (Nat.le_refl _) _).setCell (Nat.le_refl _) _⟩
        rw [Int.min_eq_left hm1]
        have hm2 : ¬ a < to := by omega
        go_enter Try.func58, Try.ntmps58
        go_wp2_with (go_at_call 61; rw [← HW.out]; refine HE.out.mono ?_; rintro e w2 ⟨rfl, hB⟩; have hs2 := HS.out.below hB; have hc := hs2.c1; have he := hs2.el HI.out; have he1 := he.1; have he2 := he.2; simp only at he1 he2; clear he; clear hs2; have hA2 := HA1.out.below hB hsz; have d0 := hA2.cell 0; have d1 := hA2.cell 1; have f0 := hA2.frozen 0; have f1 := hA2.frozen 1; simp at d0 d1; have HA2 := Lib.hid hA2; clear hA2)
        refine bodyPost_ret (results_cell_tmp 6 7 105 (by rfl) _ 105 _ _ _ (by rfl) (by rfl) (at_two HA2.out _ _) Try.underlying105 rfl (by kernel_rfl)) rfl ?_
        exact ⟨rfl, ((HB0.out.trans (hB.mono HB0.out.size)).setCell (Nat.le_refl _) _).setCell (Nat.le_refl _) _⟩
end
section
set_option linter.unusedVariables false
set_option linter.unusedSimpArgs false
open Go.RowKit
end
section
set_option linter.unusedVariables false
set_option linter.unusedSimpArgs false
open Go.RowKit
def inR (r : Int × Int) (k : Int) : Bool := decide (r.1 ≤ k) && decide (k < r.2)
theorem inR_iff (r : Int × Int) (k : Int) : inR r k = true ↔ r.1 ≤ k ∧ k < r.2 := by unfold inR; simp
theorem has_cons (r : Int × Int) (t : RL) (k : Int) : hasL (r :: t) k = (inR r k || hasL t k) := rfl
theorem has_app (A B : RL) (k : Int) : hasL (A ++ B) k = (hasL A k || hasL B k) := by unfold hasL; exact List.any_append
theorem has_true {l : RL} {k : Int} : hasL l k = true ↔ ∃ r ∈ l, r.1 ≤ k ∧ k < r.2 := by
  unfold hasL
  rw [List.any_eq_true]
  constructor
  · rintro ⟨r, hr, h⟩
    exact ⟨r, hr, by simpa using h⟩
  · rintro ⟨r, hr, h⟩
    exact ⟨r, hr, by simpa using h⟩
theorem beq_of_iff {a b : Bool} (h : a = true ↔ b = true) : a = b := by
  cases a <;> cases b <;> simp_all
theorem growR_all : ∀ (B : RL) (x : Int × Int), ∀ r ∈ B, (growR x B).1 ≤ r.1 ∧ r.2 ≤ (growR x B).2
  | b :: t, x, r, hr => by
    rw [show growR x (b :: t) = growR (min x.1 b.1, max x.2 b.2) t from rfl]
    rcases List.mem_cons.1 hr with rfl | hr
    · have := growR_le t (min x.1 r.1, max x.2 r.2)
      simp only at this
      omega
    · exact growR_all t _ r hr
theorem has_addL {l : RL} (hg : Gd l) {lo hi most k : Int} (hlt : lo < hi) (h : ((addGo l (lo, hi) false).length : Int) ≤ most) : hasL (addL l lo hi most) k = (hasL l k || (decide (lo ≤ k) && decide (k < hi))) := by
  obtain ⟨A, B, C, s⟩ := add_split hg hlt
  unfold addL
  rw [lst_small h]
  obtain ⟨rfl, ha, hb, hc⟩ := s
  rw [addGo_abc A B C (lo, hi) hg ha hb hc hlt, has_app, has_app, has_app, has_cons]
  have key : inR (growR (lo, hi) B) k = (hasL B k || (decide (lo ≤ k) && decide (k < hi))) := by
    apply beq_of_iff
    rw [inR_iff, Bool.or_eq_true, has_true]
    have h1 := growR_in B (lo, hi)
    have h2 := growR_le B (lo, hi)
    simp only at h1 h2
    constructor
    · rintro ⟨h3, h4⟩
      by_cases hk : lo ≤ k ∧ k < hi
      · right; simp; exact hk
      · left
        by_cases hk1 : k < lo
        · rcases h1.1 with h5 | ⟨r, hr, h5⟩
          · omega
          · exact ⟨r, hr, by omega, by have := hb r hr; omega⟩
        · rcases h1.2 with h5 | ⟨r, hr, h5⟩
          · omega
          · exact ⟨r, hr, by have := hb r hr; omega, by omega⟩
    · rintro (⟨r, hr, h3, h4⟩ | h3)
      · have := growR_all B (lo, hi) r hr
        omega
      · simp at h3
        omega
  rw [key]
  cases hasL A k <;> cases hasL B k <;> cases hasL C k <;> simp
theorem has_addV {l : RL} (hg : Gd l) {lo hi most k : Int} (hh : hi ≤ 4611686018427387904) (h : ((addGo l (lo, hi) false).length : Int) ≤ most) : hasL (addV l lo hi most) k = (hasL l k || (decide (lo ≤ k) && decide (k < hi))) := by
  unfold addV
  split
  · rename_i hc
    exact has_addL hg hc.1 h
  · rename_i hc
    have : (decide (lo ≤ k) && decide (k < hi)) = false := by simp; omega
    rw [this]
    simp
/-- How many of the first numbers are so. -/
def cntF (f : Nat → Bool) : Nat → Int
  | 0 => 0
  | j + 1 => cntF f j + (if f j then 1 else 0)
end
end Go.Proofs.Ytndaikeeikimeaa
