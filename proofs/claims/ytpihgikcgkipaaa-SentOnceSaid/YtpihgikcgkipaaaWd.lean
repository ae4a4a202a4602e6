/-
  SentOnce: what was put and what came out, as functions; the tables of sixty.
-/
import Derived.Test.YtpihgikcgkipaaaWb
namespace Go.Proofs.Ytpihgikcgkipaaa
set_option linter.unusedVariables false
set_option linter.unusedSimpArgs false
open Go.RowKit
def tab6 (f : Nat → Bool) : List Value := (List.range 60).map fun k => .bool (f k)
theorem tab6_get (f : Nat → Bool) {k : Nat} (hk : k < 60) : (tab6 f)[k]? = some (.bool (f k)) := by
  unfold tab6
  rw [List.getElem?_map, List.getElem?_range hk]
  rfl
theorem tab6_len (f : Nat → Bool) : (tab6 f).length = 60 := by simp [tab6]
theorem tab6_set (f : Nat → Bool) {k : Nat} (hk : k < 60) (b : Bool) : (tab6 f).set k (.bool b) = tab6 fun t => if t = k then b else f t := by
  refine List.ext_getElem? fun t => ?_
  rcases Nat.lt_or_ge t 60 with ht | ht
  · rw [tab6_get _ ht]
    rcases Nat.decEq k t with h | h
    · rw [List.getElem?_set_ne h, tab6_get _ ht, if_neg (fun e => h e.symm)]
    · subst h
      rw [List.getElem?_set_self (by rw [tab6_len]; exact hk), if_pos rfl]
  · rw [List.getElem?_eq_none (by rw [List.length_set, tab6_len]; exact ht), List.getElem?_eq_none (by rw [tab6_len]; exact ht)]
theorem tab6_eq {f g : Nat → Bool} (h : ∀ n, n < 60 → f n = g n) : tab6 f = tab6 g := by
  unfold tab6
  exact List.map_congr_left fun n hn => by rw [h n (List.mem_range.1 hn)]
/-- What came out, and the packets of L besides. -/
def addG (g : Nat → Bool) (L : PL) : Nat → Bool := fun t => g t || L.any (fun r => r.n == (t : Int))
theorem addG_nil (g : Nat → Bool) : addG g [] = g := by funext t; simp [addG]
theorem addG_true {g : Nat → Bool} {L : PL} {t : Nat} : addG g L t = true ↔ g t = true ∨ ∃ r ∈ L, r.n = t := by
  unfold addG
  rw [Bool.or_eq_true, List.any_eq_true]
  constructor
  · rintro (h | ⟨r, h1, h2⟩)
    · exact .inl h
    · exact .inr ⟨r, h1, by simpa using h2⟩
  · rintro (h | ⟨r, h1, h2⟩)
    · exact .inl h
    · exact .inr ⟨r, h1, by simpa using h2⟩
theorem addG_false {g : Nat → Bool} {L : PL} {t : Nat} (h : g t = false) (k : ∀ r ∈ L, r.n ≠ t) : addG g L t = false := by
  rcases hb : addG g L t with _ | _
  · rfl
  · rcases addG_true.1 hb with h1 | ⟨r, h1, h2⟩
    · rw [h] at h1; cases h1
    · exact absurd h2 (k r h1)
theorem addG_step (g : Nat → Bool) (M : PL) (j k : Nat) (r : PK) (hr : M[j]? = some r) (hk : r.n = k) : (fun t => if t = k then true else addG g (M.take j) t) = addG g (M.take (j + 1)) := by
  funext t
  have e : M.take (j + 1) = M.take j ++ [r] := by rw [List.take_add_one, hr]; rfl
  rw [e]
  by_cases h : t = k
  · rw [if_pos h]
    exact (addG_true.2 (.inr ⟨r, by simp, by rw [hk, h]⟩)).symm
  · rw [if_neg h]
    unfold addG
    rw [List.any_append]
    have : (r.n == (t : Int)) = false := by rw [hk]; simp; omega
    simp [this]
/-- What was put, what came out, what is kept. -/
structure Mi (i : Nat) (l : PL) (f g : Nat → Bool) : Prop where
  hl : ∀ r ∈ l, 0 ≤ r.n ∧ r.n < i ∧ f r.n.toNat = true ∧ g r.n.toNat = false
  fl : ∀ n, f n = true → g n = false → ∃ r ∈ l, r.n = n
  gf : ∀ n, g n = true → f n = true
  fi : ∀ n, f n = true → n < i
  nd : l.Pairwise (fun a b => a.n ≠ b.n)
  ln : l.length ≤ i
theorem Mi.start : Mi 0 [] (fun _ => false) (fun _ => false) := ⟨fun r h => (by cases h), fun n h => (by cases h), fun n h => (by cases h), fun n h => (by cases h), List.Pairwise.nil, Nat.le_refl _⟩
theorem Mi.add {i : Nat} {l : PL} {f g : Nat → Bool} (h : Mi i l f g) (b : Bool) (r : PK) (hr : r.n = i) : Mi (i + 1) (if b then l ++ [r] else l) (fun t => if t = i then b else f t) g := by
  have gi : g i = false := by
    rcases hg : g i with _ | _
    · rfl
    · have := h.fi i (h.gf i hg); omega
  have old : ∀ x ∈ l, 0 ≤ x.n ∧ x.n < ((i + 1 : Nat) : Int) ∧ (if x.n.toNat = i then b else f x.n.toNat) = true ∧ g x.n.toNat = false := fun x hx => by
    obtain ⟨h1, h2, h3, h4⟩ := h.hl x hx
    exact ⟨h1, by omega, by rw [if_neg (by omega)]; exact h3, h4⟩
  have gf : ∀ n, g n = true → (if n = i then b else f n) = true := fun n hn => by
    have h1 := h.gf n hn
    have h2 := h.fi n h1
    rw [if_neg (by omega)]; exact h1
  have fi : ∀ n, (if n = i then b else f n) = true → n < i + 1 := fun n hn => by
    by_cases e : n = i
    · omega
    · rw [if_neg e] at hn; have := h.fi n hn; omega
  cases b with
  | true =>
    rw [if_pos rfl]
    refine ⟨fun x hx => ?_, fun n hn hg => ?_, gf, fi, ?_, by rw [List.length_append]; have := h.ln; simp; omega⟩
    · rcases List.mem_append.1 hx with hx | hx
      · exact old x hx
      · rw [List.mem_singleton] at hx
        subst hx
        exact ⟨by omega, by omega, by rw [hr]; simp, by rw [hr]; simpa using gi⟩
    · by_cases e : n = i
      · exact ⟨r, by simp, by rw [hr, e]⟩
      · simp only [if_neg e] at hn
        obtain ⟨x, hx, hxn⟩ := h.fl n hn hg
        exact ⟨x, List.mem_append_left _ hx, hxn⟩
    · rw [List.pairwise_append]
      refine ⟨h.nd, List.pairwise_singleton _ _, fun a ha c hc => ?_⟩
      rw [List.mem_singleton] at hc
      subst hc
      have := (h.hl a ha).2.1
      omega
  | false =>
    rw [if_neg (by decide)]
    refine ⟨old, fun n hn hg => ?_, gf, fi, h.nd, Nat.le_succ_of_le h.ln⟩
    by_cases e : n = i
    · rw [if_pos e] at hn; cases hn
    · simp only [if_neg e] at hn
      exact h.fl n hn hg
/-- What comes out of a ledger, and what stays. -/
structure Spl (l M L : PL) : Prop where
  mem : ∀ r, r ∈ l ↔ r ∈ M ∨ r ∈ L
  nd : M.Pairwise (fun a b => a.n ≠ b.n)
  ndl : L.Pairwise (fun a b => a.n ≠ b.n)
  ap : ∀ a ∈ M, ∀ b ∈ L, a.n ≠ b.n
  ln : L.length ≤ l.length
  lm : M.length ≤ l.length
theorem Spl.none {l : PL} (h : l.Pairwise (fun a b => a.n ≠ b.n)) : Spl l [] l := ⟨fun r => by simp, List.Pairwise.nil, h, fun a ha => (by cases ha), Nat.le_refl _, Nat.zero_le _⟩
theorem Spl.all {l : PL} (h : l.Pairwise (fun a b => a.n ≠ b.n)) : Spl l l [] := ⟨fun r => by simp, h, List.Pairwise.nil, fun a _ b hb => (by cases hb), Nat.zero_le _, Nat.le_refl _⟩
theorem len_part {α : Type} (l : List α) (p : α → Bool) : (l.filter p).length + (l.filter (fun x => !p x)).length = l.length := by
  induction l with
  | nil => rfl
  | cons a t ih =>
    rcases h : p a with _ | _ <;> simp [List.filter_cons, h] <;> omega
theorem Spl.ack {l : PL} (p d : Int → Bool) (h : l.Pairwise (fun a b => a.n ≠ b.n)) :
    Spl l (l.filter (fun r => p r.n) ++ (l.filter (fun r => !p r.n)).filter (fun r => d r.n)) ((l.filter (fun r => !p r.n)).filter (fun r => !d r.n)) := by
  refine ⟨fun r => ?_, ?_, (h.filter _).filter _, fun a ha b hb e => ?_, ?_, ?_⟩
  · simp only [List.mem_append, List.mem_filter]
    cases hp : p r.n <;> cases hd : d r.n <;> simp
  · rw [List.pairwise_append]
    refine ⟨h.filter _, (h.filter _).filter _, fun a ha b hb e => ?_⟩
    have h1 := (List.mem_filter.1 ha).2
    have h2 := (List.mem_filter.1 (List.mem_filter.1 hb).1).2
    rw [e] at h1
    rw [h1] at h2; cases h2
  · have h2 := (List.mem_filter.1 (List.mem_filter.1 hb).1).2
    have h3 := (List.mem_filter.1 hb).2
    rcases List.mem_append.1 ha with ha | ha
    · have h1 := (List.mem_filter.1 ha).2
      rw [e] at h1
      rw [h1] at h2; cases h2
    · have h1 := (List.mem_filter.1 ha).2
      rw [e] at h1
      rw [h1] at h3; cases h3
  · exact Nat.le_trans (List.length_filter_le _ _) (List.length_filter_le _ _)
  · rw [List.length_append]
    have h1 := len_part l (fun r => p r.n)
    have h2 := List.length_filter_le (fun r : PK => d r.n) (l.filter (fun r => !p r.n))
    omega
theorem Mi.out {i : Nat} {l M L : PL} {f g : Nat → Bool} (h : Mi i l f g) (s : Spl l M L) : Mi i L f (addG g M) := by
  refine ⟨fun r hr => ?_, fun n hn hg => ?_, fun n hn => ?_, h.fi, s.ndl, Nat.le_trans s.ln h.ln⟩
  · obtain ⟨h1, h2, h3, h4⟩ := h.hl r ((s.mem r).2 (.inr hr))
    exact ⟨h1, h2, h3, addG_false h4 fun a ha => by have := s.ap a ha r hr; omega⟩
  · have hg0 : g n = false := by
      rcases hx : g n with _ | _
      · rfl
      · rw [addG_true.2 (.inl hx)] at hg; cases hg
    obtain ⟨r, hr, hrn⟩ := h.fl n hn hg0
    rcases (s.mem r).1 hr with hr | hr
    · rw [addG_true.2 (.inr ⟨r, hr, hrn⟩)] at hg; cases hg
    · exact ⟨r, hr, hrn⟩
  · rcases addG_true.1 hn with hn | ⟨r, hr, hrn⟩
    · exact h.gf n hn
    · have := (h.hl r ((s.mem r).2 (.inl hr))).2.2.1
      rw [hrn] at this
      simpa using this
/-- A packet that comes out was put, and is not out yet. -/
theorem Mi.one {i : Nat} {l M L : PL} {f g : Nat → Bool} (h : Mi i l f g) (s : Spl l M L) {j : Nat} {r : PK} (hr : M[j]? = some r) : ∃ k : Nat, r.n = k ∧ k < i ∧ f k = true ∧ addG g (M.take j) k = false := by
  obtain ⟨h1, h2, h3, h4⟩ := h.hl r ((s.mem r).2 (.inl (List.mem_of_getElem? hr)))
  refine ⟨r.n.toNat, by omega, by omega, h3, addG_false h4 fun a ha e => ?_⟩
  obtain ⟨x, hx⟩ := List.mem_iff_getElem?.1 ha
  rw [List.getElem?_take] at hx
  split at hx
  · rename_i hxj
    have := List.pairwise_iff_getElem.1 s.nd x j (List.getElem?_eq_some_iff.1 hx).1 (List.getElem?_eq_some_iff.1 hr).1 hxj
    rw [(List.getElem?_eq_some_iff.1 hx).2, (List.getElem?_eq_some_iff.1 hr).2] at this
    omega
  · cases hx
/-- Behind all that is kept what was put is what came out. -/
theorem Mi.end_ {i : Nat} {l : PL} {f g : Nat → Bool} (h : Mi i l f g) : ∀ n, f n = addG g l n := fun n => by
  have k := h.out (Spl.all h.nd)
  rcases hf : f n with _ | _
  · rcases hg : addG g l n with _ | _
    · rfl
    · rw [k.gf n hg] at hf; cases hf
  · rcases hg : addG g l n with _ | _
    · obtain ⟨r, hr, _⟩ := k.fl n hf hg
      cases hr
    · rfl
/-- Two tables that are the same are equal. -/
theorem lits6 (f : Nat → Bool) (D : Nat) : ∀ is : List Nat, (∀ j ∈ is, j < 60) → is.mapM (fun i => Try.prog.keyLits (D + 1) 4 (((tab6 f).toArray.toList.drop (i * Try.prog.cellsOf 4)).take (Try.prog.cellsOf 4))) = some (is.map fun k => [Lit.bool (f k)])
  | [], _ => rfl
  | j :: is, h => by
    have hc : Try.prog.cellsOf 4 = 1 := by kernel_rfl
    have hu : Try.prog.underlying 4 = some .bool := Try.underlying4
    have hj := h j List.mem_cons_self
    have e1 : ((tab6 f).toArray.toList.drop (j * Try.prog.cellsOf 4)).take (Try.prog.cellsOf 4) = [.bool (f j)] := by
      have hl : j < (tab6 f).length := by rw [tab6_len]; exact hj
      have hg := tab6_get f hj
      rw [List.getElem?_eq_getElem hl] at hg
      have hg := Option.some.inj hg
      rw [hc, Nat.mul_one, List.toList_toArray, List.drop_eq_getElem_cons hl, hg]
      rfl
    rw [List.mapM_cons, e1, lits6 f D is fun k hk => h k (List.mem_cons_of_mem _ hk)]
    simp [Program.keyLits, hu]
set_option maxRecDepth 100000 in
theorem run_tab6 (W : World) (f : Nat → Bool) : (Op.equalIn 10000 45 (.agg (tab6 f).toArray) (.agg (tab6 f).toArray)).run Try.prog W = .ok true W := by
  have hp : Try.prog.plainKey 4 = true := by kernel_rfl
  obtain ⟨i, hi⟩ : ∃ i, Try.prog.info? 4 = some i := by
    cases h : Try.prog.info? 4 with
    | some i => exact ⟨i, rfl⟩
    | none => exact absurd (show (Try.prog.info? 4).isSome = true by kernel_rfl) (by rw [h]; simp)
  rw [show (10000 : Nat) = 9999 + 1 from rfl, run_equalIn_array (w := W) 9999 _ _ (n := 60) Try.underlying45 hi, show (9999 : Nat) = 9998 + 1 from rfl]
  have hl := lits6 f 0 (List.range 60) (fun j hj => List.mem_range.1 hj)
  obtain ⟨r, hr, hiff⟩ := run_eqItems_plain W 9998 hp (tab6 f).toArray (tab6 f).toArray (List.range 60) _ _ hl hl
  rw [hr, hiff.2 rfl]
end Go.Proofs.Ytpihgikcgkipaaa
