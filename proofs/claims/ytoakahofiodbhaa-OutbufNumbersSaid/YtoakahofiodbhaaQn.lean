/-
  Gaps of ranges below 200 (mathematics).
-/
import Derived.Test.YtoakahofiodbhaaQk
import Derived.Test.YtoakahofiodbhaaQh
namespace Go.Proofs.Ytoakahofiodbhaa
set_option linter.unusedVariables false
set_option linter.unusedSimpArgs false
open Go.RowKit
def Bd (m : Int) (l : RL) : Prop := ∀ r ∈ l, r.2 ≤ m
theorem bd_cut {m : Int} {l : RL} (h : Bd m l) (lo hi : Int) : Bd m (l.flatMap (cutP lo hi)) := fun s hs => by
  rw [List.mem_flatMap] at hs
  obtain ⟨r, hr, hs⟩ := hs
  have h1 := cutP_in _ _ _ _ hs
  have h2 := h r hr
  omega
theorem bd_cutL {m : Int} {l : RL} (h : Bd m l) (lo hi most : Int) : Bd m (cutL l lo hi most) := by
  unfold cutL
  split
  · exact h
  · exact fun s hs => bd_cut h lo hi s (List.mem_of_mem_drop hs)
theorem bd_addGo {m : Int} : ∀ (l : RL) (x : Int × Int) (d : Bool), Bd m l → x.2 ≤ m → Bd m (addGo l x d)
  | [], x, d, _, hx => by
    unfold addGo
    split
    · intro r h; cases h
    · intro r h
      rw [List.mem_singleton] at h
      subst h
      exact hx
  | r :: t, x, d, h, hx => by
    have hr := h r (List.mem_cons_self ..)
    have ht : Bd m t := fun s hs => h s (List.mem_cons_of_mem _ hs)
    have step : ∀ (y : Int × Int) (l' : RL), y.2 ≤ m → Bd m l' → Bd m (y :: l') := fun y l' h1 h2 s hs => (List.mem_cons.1 hs).elim (fun e => e ▸ h1) (h2 s)
    unfold addGo
    split
    · exact step _ _ hr (bd_addGo t x d ht hx)
    · split
      · split
        · exact step _ _ hr (bd_addGo t x true ht hx)
        · exact step _ _ hx (step _ _ hr (bd_addGo t x true ht hx))
      · exact bd_addGo t _ d ht (by show max x.2 r.2 ≤ m; omega)
theorem bd_addV {m : Int} {l : RL} (h : Bd m l) (lo hi most : Int) (hh : hi ≤ m) : Bd m (addV l lo hi most) := by
  unfold addV
  split
  · exact fun s hs => bd_addGo l (lo, hi) false h hh s (List.mem_of_mem_drop hs)
  · exact h
def flg (B : RL) (at_ m : Int) : Nat := match B with | [] => if at_ = m then 0 else 1 | r :: _ => if r.1 = at_ then 0 else 1
structure GapS (m : Int) (l : RL) (A B : RL) (at_ : Int) : Prop where
  e : l = A ++ B
  h0 : 0 ≤ at_
  h1 : at_ ≤ m
  a : ∀ r ∈ A, r.2 ≤ at_
  b : ∀ r ∈ B, at_ ≤ r.1
theorem gap_step {m : Int} {l : RL} (hg : Gd l) (hb : Bd m l) {A B : RL} {at_ : Int} (s : GapS m l A B at_) :
    (m ≤ gapF l at_ ∧ at_ + cntL B = m) ∨ ∃ a e A' B', gapF l at_ = a ∧ gapE l a m = e ∧ at_ ≤ a ∧ a < e ∧ a < m ∧ GapS m l A' B' e ∧ at_ + cntL B + e - a = e + cntL B' ∧ (∀ k, a ≤ k → k < e → hasL l k = false) ∧ B'.length + flg B' e m + 1 ≤ B.length + flg B at_ m := by
  have hlt : ∀ r ∈ B, at_ < r.2 := fun r hr => by
    have h1 := s.b r hr
    have h2 := hg.1 r (by rw [s.e]; exact List.mem_append_right _ hr)
    unfold OkR at h2
    omega
  have hga := gap_at hg s.e s.a hlt
  have hno : ∀ k (a e : Int), (∀ r ∈ l, r.2 ≤ a ∨ e ≤ r.1) → a ≤ k → k < e → hasL l k = false := fun k a e h h1 h2 => by
    unfold hasL
    rw [List.any_eq_false]
    intro r hr
    have := h r hr
    simp
    omega
  cases B with
  | nil =>
    obtain ⟨h1, h2⟩ : gapF l at_ = at_ ∧ ∀ to, gapE l at_ to = to := hga
    by_cases hm : m ≤ at_
    · left
      exact ⟨by rw [h1]; exact hm, by have := s.h1; simp [cntL]; omega⟩
    · right
      refine ⟨at_, m, A, [], h1, h2 m, Int.le_refl _, by omega, by omega, ⟨s.e, by have := s.h0; omega, Int.le_refl _, fun r hr => hb r (by rw [s.e]; simpa using hr), fun r h => by cases h⟩, by omega, fun k => hno k at_ m fun r hr => .inl (s.a r (by rw [s.e] at hr; simpa using hr)), ?_⟩
      have e1 : flg [] m m = 0 := by simp [flg]
      have e2 : flg [] at_ m = 1 := by simp [flg]; omega
      rw [e1, e2]
      simp
  | cons r t =>
    obtain ⟨hA, hB⟩ : (r.1 ≤ at_ → gapF l at_ = r.2 ∧ ∀ to, gapE l r.2 to = minHead t to) ∧ (at_ < r.1 → gapF l at_ = at_ ∧ ∀ to, gapE l at_ to = min to r.1) := hga
    have hgB := (gd_app.1 (s.e ▸ hg)).2.1
    have hgr := gd_cons.1 hgB
    have hrb := hb r (by rw [s.e]; exact List.mem_append_right _ (List.mem_cons_self ..))
    have hra := s.b r (List.mem_cons_self ..)
    have hrk := hgr.1
    unfold OkR at hrk
    by_cases hr : r.1 ≤ at_
    · obtain ⟨h1, h2⟩ := hA hr
      have hre : r.1 = at_ := by omega
      by_cases hm : m ≤ r.2
      · left
        have ht : t = [] := by
          cases t with
          | nil => rfl
          | cons x u =>
            have h3 := hgr.2.2 x (List.mem_cons_self ..)
            have h4 := hb x (by rw [s.e]; exact List.mem_append_right _ (List.mem_cons_of_mem _ (List.mem_cons_self ..)))
            have h5 := hgr.2.1.1 x (List.mem_cons_self ..)
            unfold OkR at h5
            omega
        subst ht
        exact ⟨by rw [h1]; exact hm, by simp [cntL]; omega⟩
      · right
        have e2 : l = (A ++ [r]) ++ t := by rw [s.e]; simp
        have haA : ∀ x ∈ A ++ [r], x.2 ≤ r.2 := fun x hx => by
          rcases List.mem_append.1 hx with hx | hx
          · have := s.a x hx; omega
          · rw [List.mem_singleton] at hx
            subst hx
            omega
        cases t with
        | nil =>
          refine ⟨r.2, m, A ++ [r], [], h1, h2 m, by omega, by omega, by omega, ⟨e2, by have := s.h0; omega, Int.le_refl _, fun x hx => by have := haA x hx; omega, fun x h => by cases h⟩, by simp [cntL]; omega, fun k => hno k r.2 m fun x hx => .inl (haA x (by rw [e2] at hx; simpa using hx)), ?_⟩
          have e1 : flg [] m m = 0 := by simp [flg]
          rw [e1]
          simp
        | cons x u =>
          have hgx := gd_cons.1 hgr.2.1
          have h3 := hgr.2.2 x (List.mem_cons_self ..)
          have h5 := hgx.1
          unfold OkR at h5
          have h4 := hb x (by rw [s.e]; exact List.mem_append_right _ (List.mem_cons_of_mem _ (List.mem_cons_self ..)))
          have hmx : minHead (x :: u) m = x.1 := by show min m x.1 = x.1; omega
          refine ⟨r.2, x.1, A ++ [r], x :: u, h1, by rw [h2]; exact hmx, by omega, h3, by omega, ⟨e2, by omega, by omega, fun y hy => by have := haA y hy; omega, fun y hy => ?_⟩, by simp only [cntL]; omega, fun k => hno k r.2 x.1 fun y hy => ?_, ?_⟩
          · rcases List.mem_cons.1 hy with rfl | hy
            · omega
            · have h6 := hgx.2.2 y hy
              omega
          · rw [e2] at hy
            rcases List.mem_append.1 hy with hy | hy
            · exact .inl (haA y hy)
            · right
              rcases List.mem_cons.1 hy with rfl | hy
              · omega
              · have h6 := hgx.2.2 y hy
                omega
          · have e1 : flg (x :: u) x.1 m = 0 := by simp [flg]
            rw [e1]
            simp only [List.length_cons]
            omega
    · right
      obtain ⟨h1, h2⟩ := hB (by omega)
      refine ⟨at_, r.1, A, r :: t, h1, by rw [h2]; omega, Int.le_refl _, by omega, by omega, ⟨s.e, by have := s.h0; omega, by omega, fun x hx => by have := s.a x hx; omega, fun y hy => ?_⟩, by omega, fun k => hno k at_ r.1 fun y hy => ?_, ?_⟩
      · rcases List.mem_cons.1 hy with rfl | hy
        · omega
        · have h6 := hgr.2.2 y hy
          omega
      · rw [s.e] at hy
        rcases List.mem_append.1 hy with hy | hy
        · exact .inl (s.a y hy)
        · right
          rcases List.mem_cons.1 hy with rfl | hy
          · omega
          · have h6 := hgr.2.2 y hy
            omega
      · have e1 : flg (r :: t) r.1 m = 0 := by simp [flg]
        have e2 : flg (r :: t) at_ m = 1 := by simp [flg]; omega
        rw [e1, e2]
        omega
theorem gapV_no {l : RL} {f to : Int} (h : to ≤ gapF l f) : gapV l f to = #[.agg #[.int .u64 0, .int .u64 0], .bool false] := by unfold gapV; rw [if_pos h]
theorem gapV_yes {l : RL} {f to a e : Int} (h : a < to) (h1 : gapF l f = a) (h2 : gapE l a to = e) : gapV l f to = #[.agg #[.int .u64 a, .int .u64 e], .bool true] := by
  unfold gapV
  rw [h1, if_neg (by omega), h2]
end Go.Proofs.Ytoakahofiodbhaa
