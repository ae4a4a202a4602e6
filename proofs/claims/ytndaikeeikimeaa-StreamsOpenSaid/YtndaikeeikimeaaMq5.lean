/-
  outbuf: what a buffer is by its document (OS), its calls as functions; what all went means: mathematics alone.
-/
import Derived.Test.YtndaikeeikimeaaMq1
import Derived.Test.YtndaikeeikimeaaMq4
import Derived.Test.YtndaikeeikimeaaMq0
namespace Go.Proofs.Ytndaikeeikimeaa
section
set_option linter.unusedVariables false
set_option linter.unusedSimpArgs false
/-- How many from i on are so without a break, m at most. -/
def runF (f : Nat → Bool) (i : Nat) : Nat → Nat
  | 0 => 0
  | m + 1 => if f i then runF f (i + 1) m + 1 else 0
theorem runF_le (f : Nat → Bool) : ∀ m i, runF f i m ≤ m
  | 0, i => Nat.le_refl _
  | m + 1, i => by
    unfold runF
    have := runF_le f m (i + 1)
    split <;> omega
theorem runF_all (f : Nat → Bool) : ∀ m i j, j < runF f i m → f (i + j) = true
  | 0, i, j, h => absurd h (by unfold runF; omega)
  | m + 1, i, j, h => by
    unfold runF at h
    split at h
    · rename_i h0
      cases j with
      | zero => exact h0
      | succ j =>
        have := runF_all f m (i + 1) j (by omega)
        rw [show i + (j + 1) = i + 1 + j by omega]
        exact this
    · omega
theorem runF_stop (f : Nat → Bool) : ∀ m i, runF f i m < m → f (i + runF f i m) = false
  | 0, i, h => absurd h (by omega)
  | m + 1, i, h => by
    unfold runF at h ⊢
    by_cases h0 : f i = true
    · rw [if_pos h0] at h ⊢
      have := runF_stop f m (i + 1) (by omega)
      rw [show i + (runF f (i + 1) m + 1) = i + 1 + runF f (i + 1) m by omega]
      exact this
    · rw [if_neg h0]
      simpa using h0
/-- Such a run is this one. -/
theorem runF_is {f : Nat → Bool} {i m r : Nat} (h1 : r ≤ m) (h2 : ∀ j, j < r → f (i + j) = true) (h3 : r < m → f (i + r) = false) : runF f i m = r := by
  have k1 := runF_le f m i
  rcases Nat.lt_trichotomy (runF f i m) r with h | h | h
  · have a := h2 _ h
    rw [runF_stop f m i (by omega)] at a
    cases a
  · exact h
  · have a := runF_all f m i r h
    rw [h3 (by omega)] at a
    cases a
/-- A buffer: its bytes; which are acknowledged, which are to be sent again; how many were sent; Finish was called; the end was sent, is acknowledged, is lost. -/
structure OS where
  bs : List Int
  ak : Nat → Bool
  ag : Nat → Bool
  gn : Nat
  ov : Bool
  en : Bool
  ea : Bool
  el : Bool
def os0 : OS := ⟨[], fun _ => false, fun _ => false, 0, false, false, false, false⟩
def baseO (S : OS) : Nat := runF S.ak 0 S.bs.length
structure OS.ok (S : OS) : Prop where
  byt : Byt S.bs
  gl : S.gn ≤ S.bs.length
  ka : ∀ n, S.ak n = true → n < S.gn
  kg : ∀ n, S.ag n = true → n < S.gn ∧ S.ak n = false
  rm : S.bs.length ≤ baseO S + 2048
  eo : S.en = true → S.ov = true ∧ S.gn = S.bs.length
  ee : S.ea = true → S.en = true
theorem os0_ok : os0.ok := ⟨fun x hx => (by cases hx), Nat.le_refl _, fun n h => (by cases h), fun n h => (by cases h), Nat.zero_le _, fun h => (by cases h), fun h => (by cases h)⟩
def endO (S : OS) : Bool := S.ov && !S.ea && (!S.en || S.el)
/-- The first that is to be sent again: gn, if none is. -/
def firstO (S : OS) : Nat := runF (fun n => !S.ag n) 0 S.gn
def fromO (S : OS) (most limit : Nat) : Nat × Nat :=
  if firstO S < S.gn then (firstO S, firstO S + runF S.ag (firstO S) (min most (S.gn - firstO S)))
  else (S.gn, max S.gn (min (min S.bs.length limit) (S.gn + most)))
/-- What Next tells: offset, bytes from it on so many, the end, yes. -/
structure NxO where
  off : Nat
  n : Nat
  fin : Bool
  yes : Bool
def nextR (S : OS) (most limit : Nat) : NxO :=
  if (fromO S most limit).1 = (fromO S most limit).2 then
    if firstO S = S.gn ∧ S.gn = S.bs.length ∧ endO S = true then ⟨S.bs.length, 0, true, true⟩ else ⟨0, 0, false, false⟩
  else ⟨(fromO S most limit).1, (fromO S most limit).2 - (fromO S most limit).1, decide ((fromO S most limit).2 = S.bs.length) && endO S, true⟩
/-- What that leaves: so many bytes from off on are sent, or the end. -/
def sentO (S : OS) (off n : Nat) (fin : Bool) : OS :=
  { S with ag := fun j => S.ag j && !(decide (off ≤ j) && decide (j < off + n)), gn := max S.gn (if n = 0 then 0 else off + n), en := S.en || fin, el := S.el && !fin }
def nextO (S : OS) (most limit : Nat) : OS := sentO S (nextR S most limit).off (nextR S most limit).n (nextR S most limit).fin
def inT (S : OS) (off n : Nat) (j : Nat) : Bool := decide (off ≤ j) && decide (j < off + n) && decide (j < S.gn)
def lostO (S : OS) (off n : Nat) (fin : Bool) : OS :=
  { S with ag := fun j => S.ag j || (inT S off n j && !S.ak j), el := S.el || (fin && S.en) }
def wholeO (S : OS) : Bool := S.ov && decide (baseO S = S.bs.length) && S.ea
def waitsO (S : OS) (limit : Nat) : Bool := (nextR S 1 limit).yes
theorem firstO_le (S : OS) : firstO S ≤ S.gn := runF_le _ _ _
theorem firstO_ag {S : OS} (h : firstO S < S.gn) : S.ag (firstO S) = true := by
  have := runF_stop (fun n => !S.ag n) S.gn 0 h
  rw [Nat.zero_add] at this
  simpa [firstO] using this
theorem firstO_no {S : OS} (j : Nat) (h : j < firstO S) : S.ag j = false := by
  have := runF_all (fun n => !S.ag n) S.gn 0 j h
  rw [Nat.zero_add] at this
  simpa using this
/-- What Next tells lies among the bytes that were written, no more than was asked. -/
theorem nextR_in {S : OS} (h : S.ok) (most limit : Nat) : (nextR S most limit).off + (nextR S most limit).n ≤ S.bs.length ∧ (nextR S most limit).n ≤ most
    ∧ ((nextR S most limit).fin = true → (nextR S most limit).off + (nextR S most limit).n = S.bs.length ∧ endO S = true ∧ (nextR S most limit).yes = true ∧ ((nextR S most limit).n = 0 → S.gn = S.bs.length))
    ∧ ((nextR S most limit).n ≠ 0 → (nextR S most limit).yes = true)
    ∧ ((nextR S most limit).yes = true → (nextR S most limit).n = 0 → (nextR S most limit).fin = true) := by
  have hg := h.gl
  have hf := firstO_le S
  have hr := runF_le S.ag (min most (S.gn - firstO S)) (firstO S)
  unfold nextR fromO
  by_cases h1 : firstO S < S.gn
  · simp only [if_pos h1]
    split
    · split
      · rename_i k0
        exact ⟨Nat.le_refl _, Nat.zero_le _, fun _ => ⟨rfl, k0.2.2, rfl, fun _ => k0.2.1⟩, fun k => absurd rfl k, fun _ _ => rfl⟩
      · exact ⟨Nat.zero_le _, Nat.zero_le _, fun k => (by cases k), fun k => absurd rfl k, fun k => (by cases k)⟩
    · refine ⟨?_, ?_, ?_, ?_, ?_⟩ <;> dsimp only
      · omega
      · omega
      · intro k
        rw [Bool.and_eq_true, decide_eq_true_eq] at k
        exact ⟨by omega, k.2, rfl, fun k' => (by omega)⟩
      · exact fun _ => rfl
      · intro _ k
        omega
  · simp only [if_neg h1]
    split
    · split
      · rename_i k0
        exact ⟨Nat.le_refl _, Nat.zero_le _, fun _ => ⟨rfl, k0.2.2, rfl, fun _ => k0.2.1⟩, fun k => absurd rfl k, fun _ _ => rfl⟩
      · exact ⟨Nat.zero_le _, Nat.zero_le _, fun k => (by cases k), fun k => absurd rfl k, fun k => (by cases k)⟩
    · refine ⟨?_, ?_, ?_, ?_, ?_⟩ <;> dsimp only
      · omega
      · omega
      · intro k
        rw [Bool.and_eq_true, decide_eq_true_eq] at k
        exact ⟨by omega, k.2, rfl, fun k' => (by omega)⟩
      · exact fun _ => rfl
      · intro _ k
        omega
/-- The bytes that Next tells are to be sent again, or were not sent yet: none is acknowledged. -/
theorem nextR_new {S : OS} (h : S.ok) (most limit : Nat) (j : Nat) (h1 : (nextR S most limit).off ≤ j) (h2 : j < (nextR S most limit).off + (nextR S most limit).n) : S.ak j = false := by
  have hr := runF_all S.ag (min most (S.gn - firstO S)) (firstO S)
  unfold nextR fromO at h1 h2
  by_cases hf : firstO S < S.gn
  · simp only [if_pos hf] at h1 h2
    split at h1
    · rename_i k
      rw [if_pos k] at h2
      split at h1
      · rename_i k2
        rw [if_pos k2] at h2
        dsimp only at h1 h2
        omega
      · rename_i k2
        rw [if_neg k2] at h2
        dsimp only at h1 h2
        omega
    · rename_i k
      rw [if_neg k] at h2
      dsimp only at h1 h2
      have := hr (j - firstO S) (by omega)
      rw [show firstO S + (j - firstO S) = j by omega] at this
      exact (h.kg j this).2
  · simp only [if_neg hf] at h1 h2
    split at h1
    · rename_i k
      rw [if_pos k] at h2
      split at h1
      · rename_i k2
        rw [if_pos k2] at h2
        dsimp only at h1 h2
        omega
      · rename_i k2
        rw [if_neg k2] at h2
        dsimp only at h1 h2
        omega
    · rename_i k
      rw [if_neg k] at h2
      dsimp only at h1 h2
      cases ha : S.ak j with
      | false => rfl
      | true => have := h.ka j ha; omega
/-- Where there is nothing to tell: nothing is to be sent again, all is sent, so is the end. -/
theorem nextR_none {S : OS} (h : S.ok) {most limit : Nat} (hm : 0 < most) (hl : S.bs.length ≤ limit) (hn : (nextR S most limit).yes = false) : (∀ j, S.ag j = false) ∧ S.gn = S.bs.length ∧ endO S = false := by
  have hg := h.gl
  unfold nextR at hn
  split at hn
  · rename_i k
    split at hn
    · cases hn
    · rename_i k2
      unfold fromO at k
      by_cases hf : firstO S < S.gn
      · simp only [if_pos hf] at k
        have hs : runF S.ag (firstO S) (min most (S.gn - firstO S)) = 0 := by omega
        have := runF_stop S.ag (min most (S.gn - firstO S)) (firstO S) (by omega)
        rw [hs, Nat.add_zero, firstO_ag hf] at this
        cases this
      · simp only [if_neg hf] at k
        have hl' : S.gn = S.bs.length := by omega
        have hfe : firstO S = S.gn := by have := firstO_le S; omega
        refine ⟨fun j => ?_, hl', ?_⟩
        · cases ha : S.ag j with
          | false => rfl
          | true =>
            have := (h.kg j ha).1
            rw [firstO_no j (by omega)] at ha
            cases ha
        · cases he : endO S with
          | false => rfl
          | true => exact absurd ⟨hfe, hl', he⟩ k2
  · cases hn
theorem nextO_ok {S : OS} (h : S.ok) (most limit : Nat) : (nextO S most limit).ok := by
  obtain ⟨k1, k2, k3, k4, k5⟩ := nextR_in h most limit
  have hg := h.gl
  unfold nextO
  generalize nextR S most limit = r at *
  refine ⟨h.byt, ?_, fun n hn => ?_, fun n hn => ?_, h.rm, fun he => ?_, fun he => ?_⟩
  · show max S.gn (if r.n = 0 then 0 else r.off + r.n) ≤ S.bs.length
    split <;> omega
  · have := h.ka n hn
    show n < max S.gn _
    omega
  · have hn' : (S.ag n && !(decide (r.off ≤ n) && decide (n < r.off + r.n))) = true := hn
    rw [Bool.and_eq_true] at hn'
    have := h.kg n hn'.1
    exact ⟨by show n < max S.gn _; omega, this.2⟩
  · have he' : (S.en || r.fin) = true := he
    show S.ov = true ∧ max S.gn (if r.n = 0 then 0 else r.off + r.n) = S.bs.length
    rcases (Bool.or_eq_true _ _).mp he' with k | k
    · have := h.eo k
      refine ⟨this.1, ?_⟩
      split <;> omega
    · have := k3 k
      have ho := this.2.1
      unfold endO at ho
      simp only [Bool.and_eq_true] at ho
      refine ⟨ho.1.1, ?_⟩
      split
      · rename_i h0
        have := this.2.2.2 h0
        omega
      · omega
  · show (S.en || r.fin) = true
    rw [h.ee he]
    rfl
theorem inT_gn {S : OS} {off n j : Nat} (h : inT S off n j = true) : off ≤ j ∧ j < off + n ∧ j < S.gn := by
  unfold inT at h
  simp only [Bool.and_eq_true, decide_eq_true_eq] at h
  exact ⟨h.1.1, h.1.2, h.2⟩
theorem lostO_ok {S : OS} (h : S.ok) (off n : Nat) (fin : Bool) : (lostO S off n fin).ok := by
  refine ⟨h.byt, h.gl, h.ka, fun j hj => ?_, h.rm, h.eo, h.ee⟩
  have hj' : (S.ag j || (inT S off n j && !S.ak j)) = true := hj
  rcases (Bool.or_eq_true _ _).mp hj' with k | k
  · exact h.kg j k
  · rw [Bool.and_eq_true] at k
    exact ⟨(inT_gn k.1).2.2, show S.ak j = false by simpa using k.2⟩
/-- Of what went each byte is lost or acknowledged; so is the end. -/
structure Cv (S : OS) : Prop where
  ok : S.ok
  ov : S.ov = true
  al : ∀ j, j < S.gn → S.ag j = true ∨ S.ak j = true
  an : S.en = true → S.ea = true ∨ S.el = true
/-- What is not acknowledged yet, the end too. -/
def lackO (S : OS) : Int := cntF (fun j => !S.ak j) S.bs.length + (if S.ea then 0 else 1)
section
variable {S : OS} {most limit : Nat}
/-- Behind S.gn nothing is told but what comes next. -/
theorem nextR_from (h : S.ok) : (nextR S most limit).n ≠ 0 → (nextR S most limit).off ≤ S.gn := by
  intro hn
  have hf := firstO_le S
  unfold nextR fromO at hn ⊢
  by_cases h1 : firstO S < S.gn
  · simp only [if_pos h1] at hn ⊢
    split at hn
    · split at hn <;> exact absurd rfl hn
    · rename_i k
      rw [if_neg k]
      dsimp only
      omega
  · simp only [if_neg h1] at hn ⊢
    split at hn
    · split at hn <;> exact absurd rfl hn
    · rename_i k
      rw [if_neg k]
      dsimp only
      omega
theorem inT_next (h : S.ok) (j : Nat) : inT (nextO S most limit) (nextR S most limit).off (nextR S most limit).n j = (decide ((nextR S most limit).off ≤ j) && decide (j < (nextR S most limit).off + (nextR S most limit).n)) := by
  unfold inT
  by_cases hj : (nextR S most limit).off ≤ j ∧ j < (nextR S most limit).off + (nextR S most limit).n
  · have hn : (nextR S most limit).n ≠ 0 := by omega
    have : j < (nextO S most limit).gn := by
      show j < max S.gn (if _ then _ else _)
      rw [if_neg hn]
      omega
    simp [this]
  · rcases Nat.lt_or_ge j (nextR S most limit).off with k | k
    · simp [show ¬ (nextR S most limit).off ≤ j by omega]
    · simp [show ¬ j < (nextR S most limit).off + (nextR S most limit).n by omega]
theorem al_next (h : Cv S) (j : Nat) (hj : j < (nextO S most limit).gn) : (decide ((nextR S most limit).off ≤ j) && decide (j < (nextR S most limit).off + (nextR S most limit).n)) = true ∨ ((nextO S most limit).ag j = true ∨ S.ak j = true) := by
  have hfr := nextR_from (most := most) (limit := limit) h.ok
  have hj' : j < max S.gn (if (nextR S most limit).n = 0 then 0 else (nextR S most limit).off + (nextR S most limit).n) := hj
  cases hd : (decide ((nextR S most limit).off ≤ j) && decide (j < (nextR S most limit).off + (nextR S most limit).n)) with
  | true => exact .inl rfl
  | false =>
    right
    have hg : j < S.gn := by
      rcases Nat.lt_or_ge j S.gn with k | k
      · exact k
      · split at hj'
        · omega
        · rename_i hn
          have := hfr hn
          simp only [Bool.and_eq_false_iff, decide_eq_false_iff_not] at hd
          omega
    rcases h.al j hg with k | k
    · left
      show (S.ag j && !_) = true
      rw [k, hd]
      rfl
    · exact .inr k
theorem en_next (h : Cv S) (he : (nextO S most limit).en = true) : (nextR S most limit).fin = true ∨ (nextO S most limit).ea = true ∨ (nextO S most limit).el = true := by
  have he' : (S.en || (nextR S most limit).fin) = true := he
  cases hf : (nextR S most limit).fin with
  | true => exact .inl rfl
  | false =>
    right
    rw [hf, Bool.or_false] at he'
    rcases h.an he' with k | k
    · exact .inl k
    · right
      show (S.el && !(nextR S most limit).fin) = true
      rw [hf, k]
      rfl
theorem Cv.lost (h : Cv S) : Cv (lostO (nextO S most limit) (nextR S most limit).off (nextR S most limit).n (nextR S most limit).fin) := by
  refine ⟨lostO_ok (nextO_ok h.ok _ _) _ _ _, h.ov, fun j hj => ?_, fun he => ?_⟩
  · show ((nextO S most limit).ag j || (inT _ _ _ j && !S.ak j)) = true ∨ S.ak j = true
    rw [inT_next h.ok]
    cases ha : S.ak j with
    | true => exact .inr rfl
    | false =>
      left
      rcases al_next (most := most) (limit := limit) h j hj with k | k | k
      · rw [k]
        simp
      · rw [k]
        rfl
      · rw [ha] at k
        cases k
  · have he' : (nextO S most limit).en = true := he
    show (nextO S most limit).ea = true ∨ ((nextO S most limit).el || ((nextR S most limit).fin && (nextO S most limit).en)) = true
    rcases en_next h he' with k | k | k
    · right
      rw [k, he']
      simp
    · exact .inl k
    · right
      rw [k]
      rfl
theorem lack_lost (S : OS) : lackO (lostO (nextO S most limit) (nextR S most limit).off (nextR S most limit).n (nextR S most limit).fin) = lackO S := rfl
/-- All that went is acknowledged, and all went. -/
theorem Cv.all (h : Cv S) (hm : 0 < most) (hl : S.bs.length ≤ limit) (hn : (nextR S most limit).yes = false) : (∀ j, j < S.bs.length → S.ak j = true) ∧ S.ea = true ∧ wholeO S = true := by
  obtain ⟨k1, k2, k3⟩ := nextR_none h.ok hm hl hn
  have ha : ∀ j, j < S.bs.length → S.ak j = true := fun j hj => by
    rcases h.al j (by omega) with k | k
    · rw [k1 j] at k
      cases k
    · exact k
  have he : S.ea = true := by
    cases hc : S.ea with
    | true => rfl
    | false =>
      unfold endO at k3
      rw [h.ov, hc] at k3
      cases hen : S.en with
      | false => rw [hen] at k3; cases k3
      | true =>
        rcases h.an hen with k | k
        · rw [hc] at k; cases k
        · rw [hen, k] at k3; cases k3
  refine ⟨ha, he, ?_⟩
  unfold wholeO
  rw [h.ov, he, show baseO S = S.bs.length from runF_is (Nat.le_refl _) (fun j hj => by rw [Nat.zero_add]; exact ha j hj) fun hl => absurd hl (by omega)]
  simp
end
end
section
set_option linter.unusedVariables false
set_option linter.unusedSimpArgs false
/-- Ranges that say which numbers are so. -/
def Says (l : RL) (f : Nat → Bool) : Prop := ∀ j : Nat, hasL l (j : Int) = f j
end
end Go.Proofs.Ytndaikeeikimeaa
