/-
  Sets of numbers as lists of ranges (mathematics).
-/
import Derived.Test.YtndaikeeikimeaaQa
import Derived.WalkKit
import Derived.Deep.RegionLaw
import Derived.Shelf.RegionOpenPlain
namespace Go.Proofs.Ytndaikeeikimeaa
section
set_option linter.unusedVariables false
set_option linter.unusedSimpArgs false
open Go.RowKit
def OkR (r : Int × Int) : Prop := 0 ≤ r.1 ∧ r.1 < r.2 ∧ r.2 ≤ 4611686018427387904
/-- Rising, none meets or touches another. -/
def Gd (l : RL) : Prop := (∀ r ∈ l, OkR r) ∧ l.Pairwise (fun a b => a.2 < b.1)
theorem Gd.nil_ : Gd [] := ⟨fun r h => (by cases h), List.Pairwise.nil⟩
theorem Gd.wd {l : RL} (h : Gd l) : WdL l := fun r hr => by
  have := h.1 r hr
  unfold OkR at this
  omega
theorem gd_app {A B : RL} : Gd (A ++ B) ↔ Gd A ∧ Gd B ∧ ∀ a ∈ A, ∀ b ∈ B, a.2 < b.1 := by
  unfold Gd
  rw [List.pairwise_append]
  constructor
  · rintro ⟨h1, h2, h3, h4⟩
    exact ⟨⟨fun r hr => h1 r (List.mem_append_left _ hr), h2⟩, ⟨fun r hr => h1 r (List.mem_append_right _ hr), h3⟩, h4⟩
  · rintro ⟨⟨h1, h2⟩, ⟨h3, h4⟩, h5⟩
    exact ⟨fun r hr => (List.mem_append.1 hr).elim (h1 r) (h3 r), h2, h4, h5⟩
theorem gd_cons {a : Int × Int} {B : RL} : Gd (a :: B) ↔ OkR a ∧ Gd B ∧ ∀ b ∈ B, a.2 < b.1 := by
  unfold Gd
  rw [List.pairwise_cons]
  constructor
  · rintro ⟨h1, h2, h3⟩
    exact ⟨h1 a (List.mem_cons_self ..), ⟨fun r hr => h1 r (List.mem_cons_of_mem _ hr), h3⟩, h2⟩
  · rintro ⟨h1, ⟨h2, h3⟩, h4⟩
    exact ⟨fun r hr => (List.mem_cons.1 hr).elim (fun e => e ▸ h1) (h2 r), h4, h3⟩
theorem Gd.drop {l : RL} (h : Gd l) (k : Nat) : Gd (l.drop k) := ⟨fun r hr => h.1 r (List.mem_of_mem_drop hr), h.2.sublist (List.drop_sublist k l)⟩
theorem Gd.take {l : RL} (h : Gd l) (k : Nat) : Gd (l.take k) := ⟨fun r hr => h.1 r (List.mem_of_mem_take hr), h.2.sublist (List.take_sublist k l)⟩
/-- Where what rises turns right. -/
theorem split_at (q : Int × Int → Bool) : ∀ l : RL, l.Pairwise (fun a b => q a = true → q b = true) → ∃ A B, l = A ++ B ∧ (∀ r ∈ A, q r = false) ∧ ∀ r ∈ B, q r = true
  | [], _ => ⟨[], [], rfl, fun r h => (by cases h), fun r h => (by cases h)⟩
  | a :: t, h => by
    rw [List.pairwise_cons] at h
    cases hq : q a with
    | true => exact ⟨[], a :: t, rfl, fun r h => (by cases h), fun r hr => (List.mem_cons.1 hr).elim (fun e => e ▸ hq) fun hr => h.1 r hr hq⟩
    | false =>
      obtain ⟨A, B, e, h1, h2⟩ := split_at q t h.2
      exact ⟨a :: A, B, by rw [e]; rfl, fun r hr => (List.mem_cons.1 hr).elim (fun e => e ▸ hq) (h1 r), h2⟩
theorem Gd.mono {l : RL} (h : Gd l) (q : Int × Int → Bool) (hq : ∀ a b, OkR a → OkR b → a.2 < b.1 → q a = true → q b = true) : l.Pairwise (fun a b => q a = true → q b = true) := by
  induction l with
  | nil => exact List.Pairwise.nil
  | cons a t ih =>
    have h' := gd_cons.1 h
    rw [List.pairwise_cons]
    exact ⟨fun b hb => hq a b h'.1 (h'.2.1.1 b hb) (h'.2.2 b hb), ih h'.2.1⟩
theorem idx_left {A B : RL} {t : Nat} {r : Int × Int} (h : (A ++ B)[t]? = some r) (ht : t < A.length) : r ∈ A := by
  rw [List.getElem?_append_left ht] at h
  exact List.mem_of_getElem? h
theorem idx_right {A B : RL} {t : Nat} {r : Int × Int} (h : (A ++ B)[t]? = some r) (ht : A.length ≤ t) : r ∈ B := by
  rw [List.getElem?_append_right ht] at h
  exact List.mem_of_getElem? h
/-- The document's Add, range by range. -/
def addGo : RL → Int × Int → Bool → RL
  | [], x, d => if d then [] else [x]
  | r :: t, x, d => if r.2 < x.1 then r :: addGo t x d else if x.2 < r.1 then (if d then r :: addGo t x true else x :: r :: addGo t x true) else addGo t (min x.1 r.1, max x.2 r.2) d
def growR (x : Int × Int) (B : RL) : Int × Int := B.foldl (fun x r => (min x.1 r.1, max x.2 r.2)) x
theorem addGo_c : ∀ (C : RL) (x : Int × Int), Gd C → (∀ r ∈ C, x.2 < r.1) → x.1 < x.2 → addGo C x true = C
  | [], x, _, _, _ => rfl
  | r :: t, x, h, hc, hx => by
    have h' := gd_cons.1 h
    have h1 := hc r (List.mem_cons_self ..)
    have h2 := h'.1
    unfold OkR at h2
    rw [addGo, if_neg (by omega), if_pos h1, if_pos rfl, addGo_c t x h'.2.1 (fun r hr => hc r (List.mem_cons_of_mem _ hr)) hx]
theorem addGo_bc : ∀ (B C : RL) (x : Int × Int), Gd (B ++ C) → (∀ r ∈ B, x.1 ≤ r.2 ∧ r.1 ≤ x.2) → (∀ r ∈ C, x.2 < r.1) → x.1 < x.2 → addGo (B ++ C) x false = growR x B :: C
  | [], [], x, _, _, _, _ => rfl
  | [], r :: t, x, h, _, hc, hx => by
    have h' := gd_cons.1 h
    have h1 := hc r (List.mem_cons_self ..)
    have h2 := h'.1
    unfold OkR at h2
    rw [List.nil_append, addGo, if_neg (by omega), if_pos h1, if_neg (by simp), addGo_c t x h'.2.1 (fun r hr => hc r (List.mem_cons_of_mem _ hr)) hx]
    rfl
  | r :: t, C, x, h, hb, hc, hx => by
    have h' := gd_cons.1 h
    have h1 := hb r (List.mem_cons_self ..)
    have h2 := h'.1
    unfold OkR at h2
    rw [List.cons_append, addGo, if_neg (by omega), if_neg (by omega), addGo_bc t C _ h'.2.1 ?_ ?_ ?_]
    · rfl
    · intro s hs
      have h3 := hb s (List.mem_cons_of_mem _ hs)
      have h4 := h'.2.2 s (List.mem_append_left _ hs)
      have h5 := h'.2.1.1 s (List.mem_append_left _ hs)
      unfold OkR at h5
      simp only
      omega
    · intro s hs
      have h3 := hc s hs
      have h4 := h'.2.2 s (List.mem_append_right _ hs)
      simp only
      omega
    · simp only; omega
theorem addGo_abc : ∀ (A B C : RL) (x : Int × Int), Gd (A ++ (B ++ C)) → (∀ r ∈ A, r.2 < x.1) → (∀ r ∈ B, x.1 ≤ r.2 ∧ r.1 ≤ x.2) → (∀ r ∈ C, x.2 < r.1) → x.1 < x.2 → addGo (A ++ (B ++ C)) x false = A ++ growR x B :: C
  | [], B, C, x, h, _, hb, hc, hx => addGo_bc B C x h hb hc hx
  | r :: t, B, C, x, h, ha, hb, hc, hx => by
    have h' := gd_cons.1 h
    rw [List.cons_append, addGo, if_pos (ha r (List.mem_cons_self ..)), addGo_abc t B C x h'.2.1 (fun s hs => ha s (List.mem_cons_of_mem _ hs)) hb hc hx]
    rfl
theorem growR_fst : ∀ (B : RL) (x b : Int × Int), Gd (b :: B) → (growR x (b :: B)).1 = min x.1 b.1
  | [], x, b, _ => rfl
  | c :: t, x, b, h => by
    have h' := gd_cons.1 h
    have h2 := h'.1
    have h3 := h'.2.2 c (List.mem_cons_self ..)
    unfold OkR at h2
    show (growR (min x.1 b.1, max x.2 b.2) (c :: t)).1 = _
    rw [growR_fst t _ c h'.2.1]
    simp only
    omega
theorem growR_snd : ∀ (B : RL) (x c : Int × Int), Gd B → B.getLast? = some c → (growR x B).2 = max x.2 c.2
  | [], x, c, _, h => by cases h
  | [b], x, c, _, h => by
    simp at h
    subst h
    rfl
  | b :: d :: t, x, c, h, hl => by
    have h' := gd_cons.1 h
    have hl' : (d :: t).getLast? = some c := by rw [List.getLast?_cons_cons] at hl; exact hl
    show (growR (min x.1 b.1, max x.2 b.2) (d :: t)).2 = _
    rw [growR_snd (d :: t) _ c h'.2.1 hl']
    have hm := List.mem_of_getLast? hl'
    have h3 := h'.2.2 c hm
    have h4 := h'.2.1.1 c hm
    unfold OkR at h4
    simp only
    omega
theorem growR_le : ∀ (B : RL) (x : Int × Int), (growR x B).1 ≤ x.1 ∧ x.2 ≤ (growR x B).2
  | [], x => ⟨Int.le_refl _, Int.le_refl _⟩
  | b :: t, x => by
    have := growR_le t (min x.1 b.1, max x.2 b.2)
    rw [show growR x (b :: t) = growR (min x.1 b.1, max x.2 b.2) t from rfl]
    simp only at this
    omega
/-- Each bound of what has grown is one of those that were there. -/
theorem growR_in : ∀ (B : RL) (x : Int × Int), ((growR x B).1 = x.1 ∨ ∃ r ∈ B, (growR x B).1 = r.1) ∧ ((growR x B).2 = x.2 ∨ ∃ r ∈ B, (growR x B).2 = r.2)
  | [], x => ⟨.inl rfl, .inl rfl⟩
  | b :: t, x => by
    have h := growR_in t (min x.1 b.1, max x.2 b.2)
    simp only at h
    have e : growR x (b :: t) = growR (min x.1 b.1, max x.2 b.2) t := rfl
    rw [e]
    constructor
    · rcases h.1 with h | ⟨r, hr, h⟩
      · rw [h]
        rcases Int.le_total x.1 b.1 with h1 | h1
        · exact .inl (Int.min_eq_left h1)
        · exact .inr ⟨b, List.mem_cons_self .., Int.min_eq_right h1⟩
      · exact .inr ⟨r, List.mem_cons_of_mem _ hr, h⟩
    · rcases h.2 with h | ⟨r, hr, h⟩
      · rw [h]
        rcases Int.le_total x.2 b.2 with h1 | h1
        · exact .inr ⟨b, List.mem_cons_self .., Int.max_eq_right h1⟩
        · exact .inl (Int.max_eq_left h1)
      · exact .inr ⟨r, List.mem_cons_of_mem _ hr, h⟩
structure AddAt (l : RL) (lo hi : Int) (A B C : RL) : Prop where
  e : l = A ++ (B ++ C)
  a : ∀ r ∈ A, r.2 < lo
  b : ∀ r ∈ B, lo ≤ r.2 ∧ r.1 ≤ hi
  c : ∀ r ∈ C, hi < r.1
theorem add_split {l : RL} (h : Gd l) {lo hi : Int} (hlt : lo < hi) : ∃ A B C, AddAt l lo hi A B C := by
  obtain ⟨A, D, e, ha, hd⟩ := split_at (fun r => decide (lo ≤ r.2)) l (h.mono _ fun a b h1 h2 h3 h4 => by unfold OkR at *; simp at *; omega)
  subst e
  have hg := gd_app.1 h
  obtain ⟨B, C, e, hb, hc⟩ := split_at (fun r => decide (hi < r.1)) D (hg.2.1.mono _ fun a b h1 h2 h3 h4 => by unfold OkR at *; simp at *; omega)
  subst e
  refine ⟨A, B, C, rfl, fun r hr => by simpa using ha r hr, fun r hr => ?_, fun r hr => by simpa using hc r hr⟩
  have h1 := hd r (List.mem_append_left _ hr)
  have h2 := hb r hr
  simp at h1 h2
  exact ⟨h1, h2⟩
theorem AddAt.gd {l A B C : RL} {lo hi : Int} (s : AddAt l lo hi A B C) (h : Gd l) (h0 : 0 ≤ lo) (hlt : lo < hi) (hh : hi ≤ 4611686018427387904) : Gd (A ++ growR (lo, hi) B :: C) := by
  obtain ⟨rfl, ha, hb, hc⟩ := s
  have h1 := gd_app.1 h
  have h2 := gd_app.1 h1.2.1
  have hi' := growR_in B (lo, hi)
  have hl' := growR_le B (lo, hi)
  simp only at hi' hl'
  refine gd_app.2 ⟨h1.1, gd_cons.2 ⟨?_, h2.2.1, ?_⟩, ?_⟩
  · unfold OkR
    refine ⟨?_, by omega, ?_⟩
    · rcases hi'.1 with h | ⟨r, hr, h⟩
      · omega
      · have := h2.1.1 r hr
        unfold OkR at this
        omega
    · rcases hi'.2 with h | ⟨r, hr, h⟩
      · omega
      · have := h2.1.1 r hr
        unfold OkR at this
        omega
  · intro c hcc
    have := hc c hcc
    rcases hi'.2 with h | ⟨r, hr, h⟩
    · omega
    · have := h2.2.2 r hr c hcc
      omega
  · intro a haa b hbb
    rcases List.mem_cons.1 hbb with rfl | hbb
    · have := ha a haa
      rcases hi'.1 with h | ⟨r, hr, h⟩
      · omega
      · have := h1.2.2 a haa r (List.mem_append_left _ hr)
        omega
    · exact h1.2.2 a haa b (List.mem_append_right _ hbb)
/-- The highest ranges, as many as may be. -/
def lst (most : Int) (l : RL) : RL := l.drop (l.length - (max most 1).toNat)
theorem lst_gd {l : RL} (h : Gd l) (most : Int) : Gd (lst most l) := h.drop _
theorem lst_small {l : RL} {most : Int} (h : (l.length : Int) ≤ most) : lst most l = l := by
  unfold lst
  rw [show l.length - (max most 1).toNat = 0 by omega]
  rfl
def addL (l : RL) (lo hi most : Int) : RL := lst most (addGo l (lo, hi) false)
theorem addL_gd {l : RL} (h : Gd l) {lo hi : Int} (most : Int) (h0 : 0 ≤ lo) (hlt : lo < hi) (hh : hi ≤ 4611686018427387904) : Gd (addL l lo hi most) := by
  obtain ⟨A, B, C, s⟩ := add_split h hlt
  have := s.gd h h0 hlt hh
  unfold addL
  obtain ⟨rfl, ha, hb, hc⟩ := s
  rw [addGo_abc A B C (lo, hi) h ha hb hc hlt]
  exact lst_gd this most
def hasL (l : RL) (n : Int) : Bool := l.any fun r => decide (r.1 ≤ n) && decide (n < r.2)
def headLe (B : RL) (n : Int) : Bool := match B with | [] => false | r :: _ => decide (r.1 ≤ n)
def minHead (t : RL) (to : Int) : Int := match t with | [] => to | s :: _ => min to s.1
theorem has_at {l : RL} (h : Gd l) {n : Int} {A B : RL} (e : l = A ++ B) (ha : ∀ r ∈ A, r.2 ≤ n) (hb : ∀ r ∈ B, n < r.2) : hasL l n = headLe B n := by
  subst e
  have h' := gd_app.1 h
  have h1 : hasL A n = false := by
    unfold hasL
    rw [List.any_eq_false]
    intro r hr
    have := ha r hr
    simp; omega
  have e2 : hasL (A ++ B) n = (hasL A n || hasL B n) := by unfold hasL; exact List.any_append
  rw [e2, h1, Bool.false_or]
  cases B with
  | nil => rfl
  | cons b t =>
    have hg := gd_cons.1 h'.2.1
    show (_ || hasL t n) = decide (b.1 ≤ n)
    have h2 : hasL t n = true → b.1 ≤ n := fun ht => by
      unfold hasL at ht
      rw [List.any_eq_true] at ht
      obtain ⟨r, hr, hd⟩ := ht
      simp at hd
      have h4 := hg.2.2 r hr
      have h5 := hg.1
      unfold OkR at h5
      omega
    have h3 := hb b (List.mem_cons_self ..)
    by_cases hbn : b.1 ≤ n
    · simp [hbn, h3]
    · cases ht : hasL t n with
      | true => exact absurd (h2 ht) hbn
      | false => simp [hbn]
/-- The document's Gap. -/
def gapF (l : RL) (f : Int) : Int := l.foldl (fun f r => if r.1 ≤ f ∧ f < r.2 then r.2 else f) f
def gapE (l : RL) (f e : Int) : Int := l.foldl (fun e r => if f < r.1 then min e r.1 else e) e
theorem gapF_no : ∀ (l : RL) (f : Int), (∀ r ∈ l, r.2 ≤ f ∨ f < r.1) → gapF l f = f
  | [], f, _ => rfl
  | r :: t, f, h => by
    have h1 := h r (List.mem_cons_self ..)
    show gapF t (if r.1 ≤ f ∧ f < r.2 then r.2 else f) = f
    rw [if_neg (by omega)]
    exact gapF_no t f fun s hs => h s (List.mem_cons_of_mem _ hs)
theorem gapE_no : ∀ (l : RL) (f e : Int), (∀ r ∈ l, ¬ f < r.1 ∨ e ≤ r.1) → gapE l f e = e
  | [], f, e, _ => rfl
  | r :: t, f, e, h => by
    have h1 := h r (List.mem_cons_self ..)
    show gapE t f (if f < r.1 then min e r.1 else e) = e
    rw [show (if f < r.1 then min e r.1 else e) = e by split <;> omega]
    exact gapE_no t f e fun s hs => h s (List.mem_cons_of_mem _ hs)
theorem gapF_app (A B : RL) (f : Int) : gapF (A ++ B) f = gapF B (gapF A f) := by unfold gapF; exact List.foldl_append
theorem gapE_app (A B : RL) (f e : Int) : gapE (A ++ B) f e = gapE B f (gapE A f e) := by unfold gapE; exact List.foldl_append
/-- What the program's Gap goes by: the ranges that end above f; the first of them may hold f. -/
def GapAt (l B : RL) (f : Int) : Prop :=
  match B with
  | [] => gapF l f = f ∧ ∀ to, gapE l f to = to
  | r :: t => (r.1 ≤ f → gapF l f = r.2 ∧ ∀ to, gapE l r.2 to = minHead t to) ∧ (f < r.1 → gapF l f = f ∧ ∀ to, gapE l f to = min to r.1)
theorem gap_at {l : RL} (h : Gd l) {f : Int} {A B : RL} (e : l = A ++ B) (ha : ∀ r ∈ A, r.2 ≤ f) (hb : ∀ r ∈ B, f < r.2) : GapAt l B f := by
  subst e
  have h' := gd_app.1 h
  have hA : gapF A f = f := gapF_no A f fun r hr => .inl (ha r hr)
  have hAE : ∀ g, f ≤ g → ∀ to, gapE A g to = to := fun g hg to => gapE_no A g to fun r hr => .inl (by
    have h1 := ha r hr
    have h2 := h'.1.1 r hr
    unfold OkR at h2
    omega)
  cases B with
  | nil =>
    rw [List.append_nil]
    exact ⟨hA, hAE f (Int.le_refl _)⟩
  | cons r t =>
    have hg := gd_cons.1 h'.2.1
    have hr := hb r (List.mem_cons_self ..)
    have hor := hg.1
    unfold OkR at hor
    refine ⟨fun hrf => ⟨?_, fun to => ?_⟩, fun hrf => ⟨?_, fun to => ?_⟩⟩
    · rw [gapF_app, hA]
      show gapF t (if r.1 ≤ f ∧ f < r.2 then r.2 else f) = r.2
      rw [if_pos ⟨hrf, hr⟩]
      exact gapF_no t _ fun s hs => .inr (hg.2.2 s hs)
    · rw [gapE_app, hAE _ (by omega)]
      show gapE t r.2 (if r.2 < r.1 then min to r.1 else to) = _
      rw [if_neg (by omega)]
      cases t with
      | nil => rfl
      | cons s u =>
        have hs := hg.2.2 s (List.mem_cons_self ..)
        have hg2 := gd_cons.1 hg.2.1
        have hos := hg2.1
        unfold OkR at hos
        show gapE u r.2 (if r.2 < s.1 then min to s.1 else to) = min to s.1
        rw [if_pos hs]
        exact gapE_no u _ _ fun x hx => .inr (by have := hg2.2.2 x hx; omega)
    · rw [gapF_app, hA]
      exact gapF_no (r :: t) _ fun s hs => by
        rcases List.mem_cons.1 hs with rfl | hs
        · exact .inr hrf
        · have := hg.2.2 s hs
          exact .inr (by omega)
    · rw [gapE_app, hAE _ (Int.le_refl _)]
      show gapE t f (if f < r.1 then min to r.1 else to) = _
      rw [if_pos hrf]
      exact gapE_no t _ _ fun x hx => .inr (by have := hg.2.2 x hx; omega)
end
section
set_option linter.unusedVariables false
set_option linter.unusedSimpArgs false
open Go.RowKit
/-- What such a call leaves: a slice of l', in the old block or in a new one; nothing else has changed. -/
def SPost (base : Nat) (v : Value) (l' : RL) (w : World) (e : Ending) (w' : World) : Prop :=
  ∃ v', e = .returned v' ∧ OwnL w' base v' l' ∧ Kept (fun b => v.ownBlock = some b) w w' ∧ ∀ k, v'.ownBlock = some k → v.ownBlock = some k ∨ w.heap.size ≤ k
theorem kept_grown {w w' : World} {v : Value} (h : w.grownBy w' v.ownBlock) : Kept (fun b => v.ownBlock = some b) w w' := Kept.of_grown h fun k hk => .inl hk
section
variable {w : World} {base basev : Nat} {v vv : Value} {l rs : RL}
theorem src_own (hr : OwnL w basev vv rs) (A : Option Addr) (c : Nat) (e : vv = .slice A rs.length c) (h0 : 0 < rs.length) : ∃ ad, A = some ad ∧ ∀ j u, (rlC rs)[j]? = some u → w.cell? (ad.add j) = some u := by
  subst e
  obtain ⟨A', c', e, _, _, hx, h⟩ := ownF_open hr.own
  injection e with e1 _ e3
  subst e1; subst e3
  rcases h with ⟨_, h, _⟩ | ⟨g, cur, rfl, _, _, hA, hl, ht⟩
  · omega
  · refine ⟨_, rfl, fun j u hj => ?_⟩
    rw [Addr.add_lit, Nat.zero_add, hA.cell]
    rw [← ht, List.getElem?_take] at hj
    split at hj
    · exact hj
    · cases hj
theorem overlaps_none (w : World) {g gv : Nat} (hne : gv ≠ g) {cur curv : List Value} (hA : At w g 105 cur) (hV : At w gv 105 curv) (h0 : 0 < cur.length) (h0v : 0 < curv.length) (off la ca lb cb : Nat) :
    (callFunc 74 #[.slice (some ⟨gv, 0, none⟩) la ca, .slice (some ⟨g, off, none⟩) lb cb]).run Try.prog w = .ok (.value (.bool false)) w ∧
    (callFunc 74 #[.slice (some ⟨g, off, none⟩) lb cb, .slice (some ⟨gv, 0, none⟩) la ca]).run Try.prog w = .ok (.value (.bool false)) w := by
  obtain ⟨i, hi, hz, hsz, hby⟩ := rl_parts
  have hs2 : ∀ w, (Go.sizeOf 105).run Try.prog w = .ok 2 w := fun w => by simp [sizeOf, typeInfo, hi, hsz]
  have sh : ∀ (g : Nat) (cur : List Value), At w g 105 cur → w.shape? g = some (105, cur.length) := fun g cur h => by
    have h' : w.heap[g]? = some (.cells cur.toArray 105 (0, 0)) := h
    simp [World.shape?, h']
  have fr : ∀ (g : Nat) (cur : List Value) (o : Nat), At w g 105 cur → w.frozen? ⟨g, o, none⟩ = false := fun g cur o h => h.frozen o
  constructor
  · rw [run_callFunc_extern Try.func74 (by kernel_rfl) (by kernel_rfl) (by kernel_rfl) (e := Extern.SlicesOverlaps.overlaps #[32, 32] #[4]) (by kernel_rfl),
      Lib.run_overlaps_apart w 32 4 105 Try.underlying32 2 hs2 ⟨gv, 0, none⟩ ⟨g, off, none⟩ la ca lb cb hne _ _ _ _ (sh _ _ hV) (sh _ _ hA) (by omega) (fr _ _ _ hV) (fr _ _ _ hV)]
    rfl
  · rw [run_callFunc_extern Try.func74 (by kernel_rfl) (by kernel_rfl) (by kernel_rfl) (e := Extern.SlicesOverlaps.overlaps #[32, 32] #[4]) (by kernel_rfl),
      Lib.run_overlaps_apart w 32 4 105 Try.underlying32 2 hs2 ⟨g, off, none⟩ ⟨gv, 0, none⟩ lb cb la ca (fun e => hne e.symm) _ _ _ _ (sh _ _ hA) (sh _ _ hV) (by omega) (fr _ _ _ hA) (fr _ _ _ hA)]
    rfl
end
theorem spost_mk {base : Nat} {v v' : Value} {l' : RL} {w w' : World} (h1 : OwnF w' base v' l'.length (rlC l')) (wd : WdL l') (hg : w.grownBy w' v.ownBlock) (hv : v'.ownBlock = v.ownBlock ∨ v'.ownBlock = some w.heap.size) : SPost base v l' w (.returned v') w' :=
  ⟨v', rfl, ⟨h1, wd⟩, kept_grown hg, fun k hk => hv.elim (fun h => .inl (h ▸ hk)) fun h => .inr (by rw [h] at hk; injection hk with hk; omega)⟩
theorem ownF_cut {w : World} {base n c i : Nat} {A : Option Addr} {xs : List Value} (h : OwnF w base (.slice A n c) n xs) (hi : i ≤ n) : OwnF w base (.slice A i c) i (xs.take (i * 2)) := by
  obtain ⟨A', c', e, hn, hc, hx, ho⟩ := ownF_open h
  injection e with e1 e2 e3
  subst e1; subst e3
  rcases ho with ⟨rfl, rfl, rfl, rfl⟩ | ⟨g, cur, rfl, hb, hlt, hA, hl, ht⟩
  · obtain rfl : i = 0 := by omega
    exact ⟨rfl, .inl ⟨rfl, rfl⟩⟩
  · refine ownF_mk (by rw [List.length_take]; omega) hb hA (by omega) hc hl ?_
    rw [← ht, List.take_take, Nat.min_eq_left (by omega)]
theorem splice_splice (cur xs ys zs : List Value) (o o2 k : Nat) (hc : cur.take o = xs) (hx : xs.length = o) (h2 : o2 = o + ys.length) (hk : k = o2 + zs.length) (hf : k ≤ cur.length) : (splice (splice cur o ys) o2 zs).take k = xs ++ (ys ++ zs) := by
  subst h2; subst hk
  unfold splice
  rw [hc]
  have e1 : (xs ++ (ys ++ cur.drop (o + ys.length))).take (o + ys.length) = xs ++ ys := by
    rw [← List.append_assoc]
    exact List.take_left' (by simp [hx])
  rw [e1, ← List.append_assoc, List.append_assoc, ← List.append_assoc]
  rw [List.take_left' (by simp [hx]; omega)]
  simp
theorem splice_back (cur xs ys zs : List Value) (o o2 k : Nat) (hc : cur.take o = xs) (hx : xs.length = o) (h2 : o2 = o + ys.length) (hk : k = o2 + zs.length) (hf : k ≤ cur.length) : (splice (splice cur o2 zs) o ys).take k = xs ++ (ys ++ zs) := by
  subst h2; subst hk
  unfold splice
  have e0 : (cur.take (o + ys.length)).length = o + ys.length := by rw [List.length_take]; omega
  have e1 : (cur.take (o + ys.length) ++ (zs ++ cur.drop (o + ys.length + zs.length))).take o = xs := by
    rw [List.take_append_of_le_length (by omega), List.take_take, Nat.min_eq_left (by omega), hc]
  have e2 : (cur.take (o + ys.length) ++ (zs ++ cur.drop (o + ys.length + zs.length))).drop (o + ys.length) = zs ++ cur.drop (o + ys.length + zs.length) := List.drop_left' e0
  rw [e1, e2]
  rw [← List.append_assoc ys, ← List.append_assoc xs]
  rw [List.take_left' (by simp [hx]; omega)]
set_option maxHeartbeats 1000000 in
set_option maxRecDepth 100000 in
theorem linsert_any (base basev : Nat) (v vv : Value) (l rs : RL) (i : Nat) (w : World) (hl : OwnL w base v l) (hr : OwnL w basev vv rs) (hne : ∀ k, v.ownBlock = some k → vv.ownBlock ≠ some k) (hi : i ≤ l.length) (hN : l.length + rs.length ≤ 2000000) (hb : base ≤ w.heap.size) :
    Calls Try.prog 73 #[v, .int .i64 i, vv] w (SPost base v (l.take i ++ rs ++ l.drop i) w) := by
  obtain ⟨A, c, rfl, hn, hcm, hx, ho⟩ := ownF_open hl.own
  obtain ⟨Av, cv, rfl, hnv, hcmv, hxv, hov⟩ := ownF_open hr.own
  have hcm' : c ≤ 9223372036854775807 := by unfold maxLen at hcm; omega
  have hcmv' : cv ≤ 9223372036854775807 := by unfold maxLen at hcmv; omega
  have hiz : (i : Int) ≤ (l.length : Int) := by omega
  by_cases h0 : rs.length = 0
  · obtain rfl : rs = [] := List.eq_nil_of_length_eq_zero h0
    have hE : l.take i ++ [] ++ l.drop i = l := by simp
    rw [hE]
    have HL := Lib.hid hl
    have ho2 : A = none → c = i := fun hA => by
      rcases ho with ⟨_, h1, h2, _⟩ | ⟨g, cur, h1, _⟩
      · omega
      · rw [h1] at hA; cases hA
    clear hl ho hov hr hne hxv hx hE
    generalize hnn : l.length = n at *
    by_cases hci : c = i
    · subst hci
      go_enter Try.func73, Try.ntmps73
      go_wp2
      go_ret
      exact ⟨_, rfl, HL.out, Kept.refl _ _, fun k hk => .inl hk⟩
    · cases A with
      | none => exact absurd (ho2 rfl) hci
      | some ad =>
        clear ho2
        go_enter Try.func73, Try.ntmps73
        go_wp2
        go_ret
        exact ⟨_, rfl, HL.out, Kept.refl _ _, fun k hk => .inl hk⟩
  have hm0 : ¬ ((rs.length : Int) = 0) := by omega
  have hsrc := src_own hr Av cv rfl (by omega)
  by_cases hil : i = l.length
  · subst hil
    have hE : l.take l.length ++ rs ++ l.drop l.length = l ++ rs := by simp
    rw [hE]
    have HX := Lib.hid (show rlC (l ++ rs) = rlC l ++ rlC rs from rlC_app l rs)
    have HW := Lib.hid (hl.wd.app hr.wd)
    have hown := hl.own
    have hrl := rlC_len rs
    have hr1 := rlC_one rs
    have ho2 : A = none → c = l.length := fun hA => by
      rcases ho with ⟨_, h1, h2, _⟩ | ⟨g, cur, h1, _⟩
      · omega
      · rw [h1] at hA; cases hA
    have HLL := Lib.hid (show (l ++ rs).length = l.length + rs.length from List.length_append)
    clear hl ho hov hr hne hxv hx hE
    generalize hnn : l.length = n at *
    generalize hmm : rs.length = m at *
    generalize rlC l = xs at *
    generalize rlC rs = ys at *
    clear hnn hmm
    by_cases hci : c = n
    · subst hci
      go_enter Try.func73, Try.ntmps73
      go_wp2_with (at_builtin; refine wpList_append2 rfl (.tmp 23) (.tmp 24) rfl base _ c xs rfl hown Av m cv rfl ys hrl (fun _ => hsrc) hr1 (by omega) hb ?_; intro v2 w2 hown2 hg2 hv2 _; clear hown)
      go_ret
      exact spost_mk (by rw [HLL.out, HX.out]; exact hown2) HW.out hg2 hv2
    · cases A with
      | none => exact absurd (ho2 rfl) hci
      | some ad =>
        clear ho2
        go_enter Try.func73, Try.ntmps73
        go_wp2_with (at_builtin; refine wpList_append2 rfl (.tmp 23) (.tmp 24) rfl base _ n xs rfl hown Av m cv rfl ys hrl (fun _ => hsrc) hr1 (by omega) hb ?_; intro v2 w2 hown2 hg2 hv2 _; clear hown)
        go_ret
        exact spost_mk (by rw [HLL.out, HX.out]; exact hown2) HW.out hg2 hv2
  -- in the midst
  have hov' : ∃ gv curv, Av = some ⟨gv, 0, none⟩ ∧ At w gv 105 curv ∧ gv < w.heap.size ∧ 0 < curv.length := by
    rcases hov with ⟨_, h, _⟩ | ⟨gv, curv, e, _, h1, h2, h3, h4⟩
    · omega
    · exact ⟨gv, curv, e, h2, h1, by omega⟩
  have ho' : ∃ g cur, A = some ⟨g, 0, none⟩ ∧ base ≤ g ∧ g < w.heap.size ∧ At w g 105 cur ∧ cur.length = c * 2 ∧ cur.take (l.length * 2) = rlC l := by
    rcases ho with ⟨_, h, _⟩ | h
    · omega
    · exact h
  clear ho hov
  obtain ⟨gv, curv, rfl, hAv, hgv, hcv0⟩ := hov'
  obtain ⟨g, cur, rfl, hbg, hg, hA, hcl, hct⟩ := ho'
  have hgg : gv ≠ g := fun e => hne g rfl (by rw [e]; rfl)
  have hXE : rlC (l.take i ++ rs ++ l.drop i) = (rlC l).take (i * 2) ++ (rlC rs ++ (rlC l).drop (i * 2)) := by rw [List.append_assoc, rlC_app, rlC_app, rlC_take, rlC_drop]
  have HX := Lib.hid hXE
  have HW := Lib.hid ((hl.wd.take i).app hr.wd |>.app (hl.wd.drop i))
  have hLE : (l.take i ++ rs ++ l.drop i).length = l.length + rs.length := by simp; omega
  have HLL := Lib.hid hLE
  have hx1 := rlC_one l
  have hr1 := rlC_one rs
  have hown := hl.own
  have hysrc : ∀ j u, (rlC rs)[j]? = some u → w.cell? ((⟨gv, 0, none⟩ : Addr).add j) = some u := fun j u hj => by
    obtain ⟨ad, e, h⟩ := hsrc
    injection e with e
    subst e
    exact h j u hj
  have hxsrc : ∀ j u, ((rlC l).drop (i * 2))[j]? = some u → w.cell? ((⟨g, i * 2, none⟩ : Addr).add j) = some u := fun j u hj => by
    rw [Addr.add_lit, hA.cell]
    rw [List.getElem?_drop, ← hct, List.getElem?_take] at hj
    split at hj
    · exact hj
    · cases hj
  clear hl hr hne hXE hLE hsrc
  obtain ⟨N, hN1, hN2⟩ : ∃ N, N ≤ l.length + rs.length ∧ l.length + rs.length ≤ N := ⟨_, Nat.le_refl _, Nat.le_refl _⟩
  rw [show l.length + rs.length = N by omega] at HLL
  obtain ⟨q, hq1, hq2⟩ : ∃ q, q ≤ i + rs.length ∧ i + rs.length ≤ q := ⟨_, Nat.le_refl _, Nat.le_refl _⟩
  generalize hnn : l.length = n at *
  generalize hmm : rs.length = m at *
  generalize hxs : rlC l = xs at *
  generalize hys : rlC rs = ys at *
  have hiz2 : ¬ ((i : Int) = (n : Int)) := by omega
  have hci : ¬ c = i := by omega
  have hzl : (xs.drop (i * 2)).length = n * 2 - i * 2 := by rw [List.length_drop, hx]
  have hz1 : ∀ u ∈ xs.drop (i * 2), u.oneCell' = true := fun u hu => hx1 u (List.mem_of_mem_drop hu)
  have hxl : (xs.take (i * 2)).length = i * 2 := by rw [List.length_take, hx]; omega
  have hti : cur.take (i * 2) = xs.take (i * 2) := by rw [← hct, List.take_take, Nat.min_eq_left (by omega)]
  have hciz : (i : Int) ≤ (c : Int) := by omega
  have hrl := hxv
  have mixed : Try.prog.follows .mixedOrders = true := by kernel_rfl
  have hqw : IntKind.i64.wrap ((i : Int) + (m : Int)) = (q : Int) := by rw [IntKind.wrap_i64]; omega
  have hqN : (q : Int) ≤ (N : Int) := by omega
  clear hnn hmm hxs hys
  clear hxv hx hx1
  by_cases hroom : c < N
  · obtain ⟨k, hk⟩ : ∃ k, i + k = N := ⟨N - i, by omega⟩
    have hcz : (c : Int) < (n : Int) + (m : Int) := by omega
    have hXS := hown
    have HK := Lib.hid hk; clear hk
    have HT := Lib.hid hct; clear hct
    have HTI := Lib.hid hti; clear hti
    go_enter Try.func73, Try.ntmps73
    go_wp2_with (first | (at_builtin; refine wpList_zeros2 rfl (.tmp 34) (.tmp 39) rfl base i c _ (xs.take (i * 2)) rfl (ownF_cut hown (by omega)) k N HK.out _ rfl (by have := HK.out; omega) (by have := HK.out; omega) (by have := HK.out; omega) (by have := HK.out; omega) ?_; intro w2 g2 cur2 c2 hg2 hA2 hl2 hN2 hc2 ht2 hb2; clear hown; have hc2m : c2 ≤ 9223372036854775807 := (by unfold maxLen at hc2; omega); have hc2i : ¬ c2 = i := (by omega); have hc2j : ¬ c2 = q := (by omega); have hgg2 : g2 ≠ gv := (by omega); have hgg3 : g2 ≠ g := (by omega); have HG2 := Lib.hid hg2; clear hg2; have HT2 := Lib.hid ht2; clear ht2; have HL2 := Lib.hid hl2; clear hl2) | (refine wpList_copy2 rfl (.tmp 43) (.tmp 44) rfl _ _ _ _ _ _ g2 (i * 2) cur2 _ ys rfl rfl hA2 (by rw [hrl]; simp only [Nat.min_def]; split <;> omega) (fun _ => rfl) (fun _ => ⟨_, rfl, fun j u hj => (Kept.cell (Kept.of_below hb2 (fun _ => False)) (by rw [Addr.add_lit]; exact hgv) (fun h => h)).trans (hysrc j u hj)⟩) (by have := HL2.out; omega) hr1 ?_; intro w3 hA3 hk3))
    have hk3' := (Kept.of_below hb2 (fun _ => False)).trans' hk3 (fun j hj => by have := HG2.out; exact .inr (by omega))
    go_region_law_o (go_loud (refine step_copy2 rfl (.tmp 50) (.tmp 53) rfl (some ⟨g2, q * 2, none⟩) (some ⟨g, i * 2, none⟩) (N - q) (c2 - q) (n - i) (c - i) g2 (q * 2) (splice cur2 (i * 2) ys) _ (xs.drop (i * 2)) (by simp [Act.eval, Act.put]) (by simp [Act.eval, Act.put]) hA3.drew (by rw [hzl]; simp only [Nat.min_def]; split <;> omega) (fun _ => rfl) (fun _ => ⟨_, rfl, fun j u hj => (hk3'.drew.cell (by rw [Addr.add_lit]; exact hg) (fun h => h)).trans (hxsrc j u hj)⟩) (by rw [length_splice _ _ _ (by have := HL2.out; omega)]; have := HL2.out; omega) hz1 ?_); intro w4 hA4 hk4)
    have hk4' := hk3'.drew.trans' hk4 (fun j hj => by have := HG2.out; exact .inr (by omega))
    go_wp2
    go_ret
    have hl3 : (splice (splice cur2 (i * 2) ys) (q * 2) (xs.drop (i * 2))).length = c2 * 2 := by
      rw [length_splice _ _ _ (by rw [length_splice _ _ _ (by have := HL2.out; omega), hzl]; have := HL2.out; omega), length_splice _ _ _ (by have := HL2.out; omega)]
      exact HL2.out
    have hct3 : (splice (splice cur2 (i * 2) ys) (q * 2) (xs.drop (i * 2))).take (N * 2) = xs.take (i * 2) ++ (ys ++ xs.drop (i * 2)) :=
      splice_splice cur2 _ ys _ (i * 2) (q * 2) (N * 2) HT2.out hxl (by omega) (by omega) (by have := HL2.out; omega)
    refine ⟨_, rfl, ⟨?_, HW.out⟩, hk4'.mono (fun j hj => hj.elim), fun k2 hk2 => ?_⟩
    · rw [HLL.out, HX.out]
      exact ownF_mk (by rw [← hct3, List.length_take, hl3]; omega) (by have := HG2.out; omega) hA4 (by assumption) hc2 hl3 hct3
    · have hk2' : g2 = k2 := Option.some.inj hk2
      have := HG2.out
      exact .inr (by omega)
  · have hov := (overlaps_none w hgg hA hAv (by omega) hcv0 (q * 2) m cv (n + m - q) (c - q)).1
    have hcq : ¬ c = q := by omega
    have hqn : (q : Int) ≤ (n : Int) + (m : Int) := by omega
    have hin : (i : Int) ≤ (n : Int) + (m : Int) := by omega
    have HT := Lib.hid hct; clear hct
    have HTI := Lib.hid hti; clear hti
    go_enter Try.func73, Try.ntmps73
    go_wp2
    go_region_law_o (go_loud (refine step_copy2 rfl (.tmp 73) (.tmp 76) rfl (some ⟨g, q * 2, none⟩) (some ⟨g, i * 2, none⟩) (n + m - q) (c - q) (n + m - i) (c - i) g (q * 2) cur _ (xs.drop (i * 2)) (by simp [Act.eval, Act.put]) (by simp [Act.eval, Act.put]) hA.drew (by rw [hzl]; simp only [Nat.min_def]; split <;> omega) (fun _ => rfl) (fun _ => ⟨_, rfl, fun j u hj => hxsrc j u hj⟩) (by omega) hz1 ?_); intro w3 hA3 hk3)
    have hA3l : (splice cur (q * 2) (xs.drop (i * 2))).length = c * 2 := by rw [length_splice _ _ _ (by omega)]; exact hcl
    have hys3 : ∀ j u, ys[j]? = some u → w3.cell? ((⟨gv, 0, none⟩ : Addr).add j) = some u := fun j u hj => (hk3.cell (by rw [Addr.add_lit]; exact hgv) (by rw [Addr.add_lit]; exact hgg)).trans (hysrc j u hj)
    go_wp2_with (refine wpList_copy2 rfl (.tmp 80) (.tmp 81) rfl _ _ _ _ _ _ g (i * 2) (splice cur (q * 2) (xs.drop (i * 2))) _ ys rfl rfl hA3 (by rw [hrl]; simp only [Nat.min_def]; split <;> omega) (fun _ => rfl) (fun _ => ⟨_, rfl, hys3⟩) (by omega) hr1 ?_; intro w4 hA4 hk4)
    go_ret
    have hl3 : (splice (splice cur (q * 2) (xs.drop (i * 2))) (i * 2) ys).length = c * 2 := by
      rw [length_splice _ _ _ (by omega)]
      exact hA3l
    have hct3 : (splice (splice cur (q * 2) (xs.drop (i * 2))) (i * 2) ys).take (N * 2) = xs.take (i * 2) ++ (ys ++ xs.drop (i * 2)) :=
      splice_back cur _ ys _ (i * 2) (q * 2) (N * 2) HTI.out hxl (by omega) (by omega) (by omega)
    refine ⟨_, rfl, ⟨?_, HW.out⟩, (hk3.from_drew.trans hk4).mono (fun j hj => .inl (by subst hj; rfl)), fun k2 hk2 => .inl hk2⟩
    rw [HLL.out, HX.out, show n + m = N by omega]
    exact ownF_mk (by rw [← hct3, List.length_take, hl3]; omega) hbg hA4 (by omega) (by unfold maxLen; unfold maxLen at hcm; omega) hl3 hct3
end
end Go.Proofs.Ytndaikeeikimeaa
