/-
  outbuf: what a buffer is by its document (OS), its calls as functions; what all went means: mathematics alone.
-/
import Derived.Test.YtbejpafephofaaaGreatMq1
import Derived.Test.YtbejpafephofaaaGreatMq4
import Derived.Test.YtbejpafephofaaaGreatMq0
namespace Go.Proofs.YtbejpafephofaaaGreat
section
set_option linter.unusedVariables false
set_option linter.unusedSimpArgs false
/-- How many from i on are so without a break, m at most. -/
def runF (f : Nat → Bool) (i : Nat) : Nat → Nat
  | 0 => 0
  | m + 1 => if f i then runF f (i + 1) m + 1 else 0
theorem runF_le (f : Nat → Bool) : ∀ m i, runF f i m ≤ m
  | 0, i => Nat.le_refl _
  | m + 1, i => by
    unfold runF
    have := runF_le f m (i + 1)
    split <;> omega
theorem runF_all (f : Nat → Bool) : ∀ m i j, j < runF f i m → f (i + j) = true
  | 0, i, j, h => absurd h (by unfold runF; omega)
  | m + 1, i, j, h => by
    unfold runF at h
    split at h
    · rename_i h0
      cases j with
      | zero => exact h0
      | succ j =>
        have := runF_all f m (i + 1) j (by omega)
        rw [show i + (j + 1) = i + 1 + j by omega]
        exact this
    · omega
theorem runF_stop (f : Nat → Bool) : ∀ m i, runF f i m < m → f (i + runF f i m) = false
  | 0, i, h => absurd h (by omega)
  | m + 1, i, h => by
    unfold runF at h ⊢
    by_cases h0 : f i = true
    · rw [if_pos h0] at h ⊢
      have := runF_stop f m (i + 1) (by omega)
      rw [show i + (runF f (i + 1) m + 1) = i + 1 + runF f (i + 1) m by omega]
      exact this
    · rw [if_neg h0]
      simpa using h0
/-- Such a run is this one. -/
theorem runF_is {f : Nat → Bool} {i m r : Nat} (h1 : r ≤ m) (h2 : ∀ j, j < r → f (i + j) = true) (h3 : r < m → f (i + r) = false) : runF f i m = r := by
  have k1 := runF_le f m i
  rcases Nat.lt_trichotomy (runF f i m) r with h | h | h
  · have a := h2 _ h
    rw [runF_stop f m i (by omega)] at a
    cases a
  · exact h
  · have a := runF_all f m i r h
    rw [h3 (by omega)] at a
    cases a
/-- One that ends further off is no shorter. -/
theorem runF_mono {f g : Nat → Bool} {i m : Nat} (h : ∀ j, j < m → f (i + j) = true → g (i + j) = true) : runF f i m ≤ runF g i m := by
  rcases Nat.lt_or_ge (runF g i m) (runF f i m) with hl | hl
  · have k := runF_le f m i
    have a := h _ (by omega) (runF_all f m i _ hl)
    rw [runF_stop g m i (by omega)] at a
    cases a
  · exact hl
/-- A buffer: its bytes; which are acknowledged, which are to be sent again; how many were sent; Finish was called; the end was sent, is acknowledged, is lost. -/
structure OS where
  bs : List Int
  ak : Nat → Bool
  ag : Nat → Bool
  gn : Nat
  ov : Bool
  en : Bool
  ea : Bool
  el : Bool
def os0 : OS := ⟨[], fun _ => false, fun _ => false, 0, false, false, false, false⟩
def baseO (S : OS) : Nat := runF S.ak 0 S.bs.length
structure OS.ok (S : OS) : Prop where
  byt : Byt S.bs
  gl : S.gn ≤ S.bs.length
  ka : ∀ n, S.ak n = true → n < S.gn
  kg : ∀ n, S.ag n = true → n < S.gn ∧ S.ak n = false
  rm : S.bs.length ≤ baseO S + 2048
  eo : S.en = true → S.ov = true ∧ S.gn = S.bs.length
  ee : S.ea = true → S.en = true
theorem os0_ok : os0.ok := ⟨fun x hx => (by cases hx), Nat.le_refl _, fun n h => (by cases h), fun n h => (by cases h), Nat.zero_le _, fun h => (by cases h), fun h => (by cases h)⟩
def roomO (S : OS) : Nat := if S.ov then 0 else 2048 - (S.bs.length - baseO S)
def writeN (S : OS) (n : Nat) : Nat := min n (roomO S)
def writeO (S : OS) (d : List Int) : OS := { S with bs := S.bs ++ d.take (writeN S d.length) }
def finO (S : OS) : OS := { S with ov := true }
def endO (S : OS) : Bool := S.ov && !S.ea && (!S.en || S.el)
/-- The first that is to be sent again: gn, if none is. -/
def firstO (S : OS) : Nat := runF (fun n => !S.ag n) 0 S.gn
def fromO (S : OS) (most limit : Nat) : Nat × Nat :=
  if firstO S < S.gn then (firstO S, firstO S + runF S.ag (firstO S) (min most (S.gn - firstO S)))
  else (S.gn, max S.gn (min (min S.bs.length limit) (S.gn + most)))
/-- What Next tells: offset, bytes from it on so many, the end, yes. -/
structure NxO where
  off : Nat
  n : Nat
  fin : Bool
  yes : Bool
def nextR (S : OS) (most limit : Nat) : NxO :=
  if (fromO S most limit).1 = (fromO S most limit).2 then
    if firstO S = S.gn ∧ S.gn = S.bs.length ∧ endO S = true then ⟨S.bs.length, 0, true, true⟩ else ⟨0, 0, false, false⟩
  else ⟨(fromO S most limit).1, (fromO S most limit).2 - (fromO S most limit).1, decide ((fromO S most limit).2 = S.bs.length) && endO S, true⟩
/-- What that leaves: so many bytes from off on are sent, or the end. -/
def sentO (S : OS) (off n : Nat) (fin : Bool) : OS :=
  { S with ag := fun j => S.ag j && !(decide (off ≤ j) && decide (j < off + n)), gn := max S.gn (if n = 0 then 0 else off + n), en := S.en || fin, el := S.el && !fin }
def nextO (S : OS) (most limit : Nat) : OS := sentO S (nextR S most limit).off (nextR S most limit).n (nextR S most limit).fin
def inT (S : OS) (off n : Nat) (j : Nat) : Bool := decide (off ≤ j) && decide (j < off + n) && decide (j < S.gn)
def ackO (S : OS) (off n : Nat) (fin : Bool) : OS :=
  { S with ak := fun j => S.ak j || inT S off n j, ag := fun j => S.ag j && !inT S off n j, ea := S.ea || (fin && S.en) }
def lostO (S : OS) (off n : Nat) (fin : Bool) : OS :=
  { S with ag := fun j => S.ag j || (inT S off n j && !S.ak j), el := S.el || (fin && S.en) }
def wholeO (S : OS) : Bool := S.ov && decide (baseO S = S.bs.length) && S.ea
def waitsO (S : OS) (limit : Nat) : Bool := (nextR S 1 limit).yes
theorem baseO_le (S : OS) : baseO S ≤ S.bs.length := runF_le _ _ _
theorem baseO_gn {S : OS} (h : S.ok) : baseO S ≤ S.gn := by
  rcases Nat.eq_zero_or_pos (baseO S) with h0 | h0
  · omega
  · have := h.ka _ (runF_all S.ak S.bs.length 0 (baseO S - 1) (by unfold baseO at h0 ⊢; omega))
    omega
theorem firstO_le (S : OS) : firstO S ≤ S.gn := runF_le _ _ _
theorem firstO_ag {S : OS} (h : firstO S < S.gn) : S.ag (firstO S) = true := by
  have := runF_stop (fun n => !S.ag n) S.gn 0 h
  rw [Nat.zero_add] at this
  simpa [firstO] using this
theorem firstO_no {S : OS} (j : Nat) (h : j < firstO S) : S.ag j = false := by
  have := runF_all (fun n => !S.ag n) S.gn 0 j h
  rw [Nat.zero_add] at this
  simpa using this
/-- What Next tells lies among the bytes that were written, no more than was asked. -/
theorem nextR_in {S : OS} (h : S.ok) (most limit : Nat) : (nextR S most limit).off + (nextR S most limit).n ≤ S.bs.length ∧ (nextR S most limit).n ≤ most
    ∧ ((nextR S most limit).fin = true → (nextR S most limit).off + (nextR S most limit).n = S.bs.length ∧ endO S = true ∧ (nextR S most limit).yes = true ∧ ((nextR S most limit).n = 0 → S.gn = S.bs.length))
    ∧ ((nextR S most limit).n ≠ 0 → (nextR S most limit).yes = true)
    ∧ ((nextR S most limit).yes = true → (nextR S most limit).n = 0 → (nextR S most limit).fin = true) := by
  have hg := h.gl
  have hf := firstO_le S
  have hr := runF_le S.ag (min most (S.gn - firstO S)) (firstO S)
  unfold nextR fromO
  by_cases h1 : firstO S < S.gn
  · simp only [if_pos h1]
    split
    · split
      · rename_i k0
        exact ⟨Nat.le_refl _, Nat.zero_le _, fun _ => ⟨rfl, k0.2.2, rfl, fun _ => k0.2.1⟩, fun k => absurd rfl k, fun _ _ => rfl⟩
      · exact ⟨Nat.zero_le _, Nat.zero_le _, fun k => (by cases k), fun k => absurd rfl k, fun k => (by cases k)⟩
    · refine ⟨?_, ?_, ?_, ?_, ?_⟩ <;> dsimp only
      · omega
      · omega
      · intro k
        rw [Bool.and_eq_true, decide_eq_true_eq] at k
        exact ⟨by omega, k.2, rfl, fun k' => (by omega)⟩
      · exact fun _ => rfl
      · intro _ k
        omega
  · simp only [if_neg h1]
    split
    · split
      · rename_i k0
        exact ⟨Nat.le_refl _, Nat.zero_le _, fun _ => ⟨rfl, k0.2.2, rfl, fun _ => k0.2.1⟩, fun k => absurd rfl k, fun _ _ => rfl⟩
      · exact ⟨Nat.zero_le _, Nat.zero_le _, fun k => (by cases k), fun k => absurd rfl k, fun k => (by cases k)⟩
    · refine ⟨?_, ?_, ?_, ?_, ?_⟩ <;> dsimp only
      · omega
      · omega
      · intro k
        rw [Bool.and_eq_true, decide_eq_true_eq] at k
        exact ⟨by omega, k.2, rfl, fun k' => (by omega)⟩
      · exact fun _ => rfl
      · intro _ k
        omega
/-- The bytes that Next tells are to be sent again, or were not sent yet: none is acknowledged. -/
theorem nextR_new {S : OS} (h : S.ok) (most limit : Nat) (j : Nat) (h1 : (nextR S most limit).off ≤ j) (h2 : j < (nextR S most limit).off + (nextR S most limit).n) : S.ak j = false := by
  have hr := runF_all S.ag (min most (S.gn - firstO S)) (firstO S)
  unfold nextR fromO at h1 h2
  by_cases hf : firstO S < S.gn
  · simp only [if_pos hf] at h1 h2
    split at h1
    · rename_i k
      rw [if_pos k] at h2
      split at h1
      · rename_i k2
        rw [if_pos k2] at h2
        dsimp only at h1 h2
        omega
      · rename_i k2
        rw [if_neg k2] at h2
        dsimp only at h1 h2
        omega
    · rename_i k
      rw [if_neg k] at h2
      dsimp only at h1 h2
      have := hr (j - firstO S) (by omega)
      rw [show firstO S + (j - firstO S) = j by omega] at this
      exact (h.kg j this).2
  · simp only [if_neg hf] at h1 h2
    split at h1
    · rename_i k
      rw [if_pos k] at h2
      split at h1
      · rename_i k2
        rw [if_pos k2] at h2
        dsimp only at h1 h2
        omega
      · rename_i k2
        rw [if_neg k2] at h2
        dsimp only at h1 h2
        omega
    · rename_i k
      rw [if_neg k] at h2
      dsimp only at h1 h2
      cases ha : S.ak j with
      | false => rfl
      | true => have := h.ka j ha; omega
/-- Where there is nothing to tell: nothing is to be sent again, all is sent, so is the end. -/
theorem nextR_none {S : OS} (h : S.ok) {most limit : Nat} (hm : 0 < most) (hl : S.bs.length ≤ limit) (hn : (nextR S most limit).yes = false) : (∀ j, S.ag j = false) ∧ S.gn = S.bs.length ∧ endO S = false := by
  have hg := h.gl
  unfold nextR at hn
  split at hn
  · rename_i k
    split at hn
    · cases hn
    · rename_i k2
      unfold fromO at k
      by_cases hf : firstO S < S.gn
      · simp only [if_pos hf] at k
        have hs : runF S.ag (firstO S) (min most (S.gn - firstO S)) = 0 := by omega
        have := runF_stop S.ag (min most (S.gn - firstO S)) (firstO S) (by omega)
        rw [hs, Nat.add_zero, firstO_ag hf] at this
        cases this
      · simp only [if_neg hf] at k
        have hl' : S.gn = S.bs.length := by omega
        have hfe : firstO S = S.gn := by have := firstO_le S; omega
        refine ⟨fun j => ?_, hl', ?_⟩
        · cases ha : S.ag j with
          | false => rfl
          | true =>
            have := (h.kg j ha).1
            rw [firstO_no j (by omega)] at ha
            cases ha
        · cases he : endO S with
          | false => rfl
          | true => exact absurd ⟨hfe, hl', he⟩ k2
  · cases hn
theorem writeO_base {S : OS} (h : S.ok) (d : List Int) : baseO (writeO S d) = baseO S := by
  have hb := baseO_gn h
  have hg := h.gl
  refine runF_is (by show baseO S ≤ (S.bs ++ _).length; simp; have := baseO_le S; omega) (fun j hj => runF_all S.ak S.bs.length 0 j hj) fun _ => ?_
  rcases Nat.lt_or_ge (baseO S) S.bs.length with hl | hl
  · exact runF_stop S.ak S.bs.length 0 hl
  · show S.ak (0 + baseO S) = false
    rw [Nat.zero_add]
    cases ha : S.ak (baseO S) with
    | false => rfl
    | true => have := h.ka _ ha; omega
theorem writeO_ok {S : OS} (h : S.ok) {d : List Int} (hd : Byt d) : (writeO S d).ok := by
  have hb := writeO_base h d
  have hlen : (writeO S d).bs.length = S.bs.length + writeN S d.length := by
    show (S.bs ++ d.take _).length = _
    have : writeN S d.length ≤ d.length := Nat.min_le_left _ _
    simp; omega
  have hn : writeN S d.length ≤ roomO S := Nat.min_le_right _ _
  have hr : S.ov = true → roomO S = 0 := fun k => by unfold roomO; rw [if_pos k]
  refine ⟨fun x hx => ?_, by rw [hlen]; have := h.gl; show S.gn ≤ _; omega, h.ka, h.kg, ?_, fun he => ?_, h.ee⟩
  · have hx' : x ∈ S.bs ++ d.take (writeN S d.length) := hx
    rcases List.mem_append.1 hx' with k | k
    · exact h.byt x k
    · exact hd x (List.mem_of_mem_take k)
  · rw [hb, hlen]
    have := h.rm
    have := baseO_le S
    unfold roomO at hn
    split at hn <;> omega
  · have := h.eo he
    have h0 := hr this.1
    exact ⟨this.1, by rw [hlen]; have := this.2; show S.gn = _; omega⟩
theorem finO_ok {S : OS} (h : S.ok) : (finO S).ok := ⟨h.byt, h.gl, h.ka, h.kg, h.rm, fun he => ⟨rfl, (h.eo he).2⟩, h.ee⟩
theorem nextO_ok {S : OS} (h : S.ok) (most limit : Nat) : (nextO S most limit).ok := by
  obtain ⟨k1, k2, k3, k4, k5⟩ := nextR_in h most limit
  have hg := h.gl
  unfold nextO
  generalize nextR S most limit = r at *
  refine ⟨h.byt, ?_, fun n hn => ?_, fun n hn => ?_, h.rm, fun he => ?_, fun he => ?_⟩
  · show max S.gn (if r.n = 0 then 0 else r.off + r.n) ≤ S.bs.length
    split <;> omega
  · have := h.ka n hn
    show n < max S.gn _
    omega
  · have hn' : (S.ag n && !(decide (r.off ≤ n) && decide (n < r.off + r.n))) = true := hn
    rw [Bool.and_eq_true] at hn'
    have := h.kg n hn'.1
    exact ⟨by show n < max S.gn _; omega, this.2⟩
  · have he' : (S.en || r.fin) = true := he
    show S.ov = true ∧ max S.gn (if r.n = 0 then 0 else r.off + r.n) = S.bs.length
    rcases (Bool.or_eq_true _ _).mp he' with k | k
    · have := h.eo k
      refine ⟨this.1, ?_⟩
      split <;> omega
    · have := k3 k
      have ho := this.2.1
      unfold endO at ho
      simp only [Bool.and_eq_true] at ho
      refine ⟨ho.1.1, ?_⟩
      split
      · rename_i h0
        have := this.2.2.2 h0
        omega
      · omega
  · show (S.en || r.fin) = true
    rw [h.ee he]
    rfl
theorem inT_gn {S : OS} {off n j : Nat} (h : inT S off n j = true) : off ≤ j ∧ j < off + n ∧ j < S.gn := by
  unfold inT at h
  simp only [Bool.and_eq_true, decide_eq_true_eq] at h
  exact ⟨h.1.1, h.1.2, h.2⟩
theorem ackO_base (S : OS) (off n : Nat) (fin : Bool) : baseO S ≤ baseO (ackO S off n fin) :=
  runF_mono fun j _ hj => by
    show (S.ak (0 + j) || _) = true
    rw [hj]
    rfl
theorem ackO_ok {S : OS} (h : S.ok) (off n : Nat) (fin : Bool) : (ackO S off n fin).ok := by
  have hb := ackO_base S off n fin
  refine ⟨h.byt, h.gl, fun j hj => ?_, fun j hj => ?_, ?_, h.eo, fun he => ?_⟩
  · have hj' : (S.ak j || inT S off n j) = true := hj
    rcases (Bool.or_eq_true _ _).mp hj' with k | k
    · exact h.ka j k
    · exact (inT_gn k).2.2
  · have hj' : (S.ag j && !inT S off n j) = true := hj
    rw [Bool.and_eq_true] at hj'
    have := h.kg j hj'.1
    refine ⟨this.1, ?_⟩
    show (S.ak j || inT S off n j) = false
    rw [this.2]
    simpa using hj'.2
  · have := h.rm
    show S.bs.length ≤ baseO (ackO S off n fin) + 2048
    omega
  · have he' : (S.ea || (fin && S.en)) = true := he
    rcases (Bool.or_eq_true _ _).mp he' with k | k
    · exact h.ee k
    · rw [Bool.and_eq_true] at k
      exact k.2
theorem lostO_ok {S : OS} (h : S.ok) (off n : Nat) (fin : Bool) : (lostO S off n fin).ok := by
  refine ⟨h.byt, h.gl, h.ka, fun j hj => ?_, h.rm, h.eo, h.ee⟩
  have hj' : (S.ag j || (inT S off n j && !S.ak j)) = true := hj
  rcases (Bool.or_eq_true _ _).mp hj' with k | k
  · exact h.kg j k
  · rw [Bool.and_eq_true] at k
    exact ⟨(inT_gn k.1).2.2, show S.ak j = false by simpa using k.2⟩
/-- Of what went each byte is lost or acknowledged; so is the end. -/
structure Cv (S : OS) : Prop where
  ok : S.ok
  ov : S.ov = true
  al : ∀ j, j < S.gn → S.ag j = true ∨ S.ak j = true
  an : S.en = true → S.ea = true ∨ S.el = true
/-- What is not acknowledged yet, the end too. -/
def lackO (S : OS) : Int := cntF (fun j => !S.ak j) S.bs.length + (if S.ea then 0 else 1)
theorem cntF_sub (f g : Nat → Bool) (h : ∀ k, f k = true → g k = true) : ∀ m, cntF f m ≤ cntF g m
  | 0 => Int.le_refl _
  | m + 1 => by
    rw [cntF, cntF]
    have := cntF_sub f g h m
    have := h m
    cases hf : f m <;> cases hg : g m <;> simp_all <;> omega
theorem cntF_less (f g : Nat → Bool) (h : ∀ k, f k = true → g k = true) (j : Nat) (h1 : g j = true) (h2 : f j = false) : ∀ m, j < m → cntF f m < cntF g m
  | 0, hj => absurd hj (by omega)
  | m + 1, hj => by
    rw [cntF, cntF]
    rcases Nat.lt_or_ge j m with hl | hl
    · have := cntF_less f g h j h1 h2 m hl
      have := h m
      cases hf : f m <;> cases hg : g m <;> simp_all <;> omega
    · have e : j = m := by omega
      subst e
      have := cntF_sub f g h j
      rw [h1, h2]
      simp
      omega
section
variable {S : OS} {most limit : Nat}
/-- Behind S.gn nothing is told but what comes next. -/
theorem nextR_from (h : S.ok) : (nextR S most limit).n ≠ 0 → (nextR S most limit).off ≤ S.gn := by
  intro hn
  have hf := firstO_le S
  unfold nextR fromO at hn ⊢
  by_cases h1 : firstO S < S.gn
  · simp only [if_pos h1] at hn ⊢
    split at hn
    · split at hn <;> exact absurd rfl hn
    · rename_i k
      rw [if_neg k]
      dsimp only
      omega
  · simp only [if_neg h1] at hn ⊢
    split at hn
    · split at hn <;> exact absurd rfl hn
    · rename_i k
      rw [if_neg k]
      dsimp only
      omega
theorem inT_next (h : S.ok) (j : Nat) : inT (nextO S most limit) (nextR S most limit).off (nextR S most limit).n j = (decide ((nextR S most limit).off ≤ j) && decide (j < (nextR S most limit).off + (nextR S most limit).n)) := by
  unfold inT
  by_cases hj : (nextR S most limit).off ≤ j ∧ j < (nextR S most limit).off + (nextR S most limit).n
  · have hn : (nextR S most limit).n ≠ 0 := by omega
    have : j < (nextO S most limit).gn := by
      show j < max S.gn (if _ then _ else _)
      rw [if_neg hn]
      omega
    simp [this]
  · rcases Nat.lt_or_ge j (nextR S most limit).off with k | k
    · simp [show ¬ (nextR S most limit).off ≤ j by omega]
    · simp [show ¬ j < (nextR S most limit).off + (nextR S most limit).n by omega]
theorem al_next (h : Cv S) (j : Nat) (hj : j < (nextO S most limit).gn) : (decide ((nextR S most limit).off ≤ j) && decide (j < (nextR S most limit).off + (nextR S most limit).n)) = true ∨ ((nextO S most limit).ag j = true ∨ S.ak j = true) := by
  have hfr := nextR_from (most := most) (limit := limit) h.ok
  have hj' : j < max S.gn (if (nextR S most limit).n = 0 then 0 else (nextR S most limit).off + (nextR S most limit).n) := hj
  cases hd : (decide ((nextR S most limit).off ≤ j) && decide (j < (nextR S most limit).off + (nextR S most limit).n)) with
  | true => exact .inl rfl
  | false =>
    right
    have hg : j < S.gn := by
      rcases Nat.lt_or_ge j S.gn with k | k
      · exact k
      · split at hj'
        · omega
        · rename_i hn
          have := hfr hn
          simp only [Bool.and_eq_false_iff, decide_eq_false_iff_not] at hd
          omega
    rcases h.al j hg with k | k
    · left
      show (S.ag j && !_) = true
      rw [k, hd]
      rfl
    · exact .inr k
theorem en_next (h : Cv S) (he : (nextO S most limit).en = true) : (nextR S most limit).fin = true ∨ (nextO S most limit).ea = true ∨ (nextO S most limit).el = true := by
  have he' : (S.en || (nextR S most limit).fin) = true := he
  cases hf : (nextR S most limit).fin with
  | true => exact .inl rfl
  | false =>
    right
    rw [hf, Bool.or_false] at he'
    rcases h.an he' with k | k
    · exact .inl k
    · right
      show (S.el && !(nextR S most limit).fin) = true
      rw [hf, k]
      rfl
theorem Cv.lost (h : Cv S) : Cv (lostO (nextO S most limit) (nextR S most limit).off (nextR S most limit).n (nextR S most limit).fin) := by
  refine ⟨lostO_ok (nextO_ok h.ok _ _) _ _ _, h.ov, fun j hj => ?_, fun he => ?_⟩
  · show ((nextO S most limit).ag j || (inT _ _ _ j && !S.ak j)) = true ∨ S.ak j = true
    rw [inT_next h.ok]
    cases ha : S.ak j with
    | true => exact .inr rfl
    | false =>
      left
      rcases al_next (most := most) (limit := limit) h j hj with k | k | k
      · rw [k]
        simp
      · rw [k]
        rfl
      · rw [ha] at k
        cases k
  · have he' : (nextO S most limit).en = true := he
    show (nextO S most limit).ea = true ∨ ((nextO S most limit).el || ((nextR S most limit).fin && (nextO S most limit).en)) = true
    rcases en_next h he' with k | k | k
    · right
      rw [k, he']
      simp
    · exact .inl k
    · right
      rw [k]
      rfl
theorem Cv.acked (h : Cv S) : Cv (ackO (nextO S most limit) (nextR S most limit).off (nextR S most limit).n (nextR S most limit).fin) := by
  refine ⟨ackO_ok (nextO_ok h.ok _ _) _ _ _, h.ov, fun j hj => ?_, fun he => ?_⟩
  · show ((nextO S most limit).ag j && !inT _ _ _ j) = true ∨ (S.ak j || inT _ _ _ j) = true
    rw [inT_next h.ok]
    rcases al_next (most := most) (limit := limit) h j hj with k | k | k
    · right
      rw [k]
      simp
    · rw [k]
      cases (decide ((nextR S most limit).off ≤ j) && decide (j < (nextR S most limit).off + (nextR S most limit).n)) with
      | true => right; simp
      | false => left; rfl
    · right
      rw [k]
      rfl
  · have he' : (nextO S most limit).en = true := he
    show ((nextO S most limit).ea || ((nextR S most limit).fin && (nextO S most limit).en)) = true ∨ (nextO S most limit).el = true
    rcases en_next h he' with k | k | k
    · left
      rw [k, he']
      simp
    · left
      rw [k]
      rfl
    · exact .inr k
/-- What comes is not acknowledged yet: it is less that lacks. -/
theorem lack_acked (h : Cv S) (hy : (nextR S most limit).yes = true) : lackO (ackO (nextO S most limit) (nextR S most limit).off (nextR S most limit).n (nextR S most limit).fin) < lackO S := by
  obtain ⟨k1, k2, k3, k4, k5⟩ := nextR_in h.ok most limit
  have hs := cntF_sub (fun j => !((ackO (nextO S most limit) (nextR S most limit).off (nextR S most limit).n (nextR S most limit).fin).ak j)) (fun j => !S.ak j) (fun k hk => by
    have hk' : (!(S.ak k || inT (nextO S most limit) (nextR S most limit).off (nextR S most limit).n k)) = true := hk
    cases ha : S.ak k with
    | false => rfl
    | true => rw [ha] at hk'; cases hk') S.bs.length
  have hea : S.ea = true → (ackO (nextO S most limit) (nextR S most limit).off (nextR S most limit).n (nextR S most limit).fin).ea = true := fun k => by
    show (S.ea || _) = true
    rw [k]
    rfl
  by_cases hn : (nextR S most limit).n = 0
  · have hf := k5 hy hn
    have he := (k3 hf).2.1
    have h1 : S.ea = false := by
      unfold endO at he
      simp only [Bool.and_eq_true] at he
      simpa using he.1.2
    have h2 : (ackO (nextO S most limit) (nextR S most limit).off (nextR S most limit).n (nextR S most limit).fin).ea = true := by
      show (S.ea || ((nextR S most limit).fin && (S.en || (nextR S most limit).fin))) = true
      rw [hf]
      simp
    unfold lackO
    rw [h1, h2]
    show cntF _ S.bs.length + _ < cntF _ S.bs.length + _
    simp
    omega
  · have hl := cntF_less (fun j => !((ackO (nextO S most limit) (nextR S most limit).off (nextR S most limit).n (nextR S most limit).fin).ak j)) (fun j => !S.ak j) (fun k hk => by
      have hk' : (!(S.ak k || inT (nextO S most limit) (nextR S most limit).off (nextR S most limit).n k)) = true := hk
      cases ha : S.ak k with
      | false => rfl
      | true => rw [ha] at hk'; cases hk') (nextR S most limit).off (by
        rw [nextR_new h.ok most limit _ (Nat.le_refl _) (by omega)]
        rfl) (by
        show (!(S.ak _ || inT _ _ _ _)) = false
        rw [inT_next h.ok]
        simp
        omega) S.bs.length (by omega)
    unfold lackO
    show cntF _ S.bs.length + _ < cntF _ S.bs.length + _
    cases h1 : S.ea with
    | true =>
      rw [hea h1]
      simp
      omega
    | false =>
      simp
      split <;> omega
theorem lack_lost (S : OS) : lackO (lostO (nextO S most limit) (nextR S most limit).off (nextR S most limit).n (nextR S most limit).fin) = lackO S := rfl
/-- All that went is acknowledged, and all went. -/
theorem Cv.all (h : Cv S) (hm : 0 < most) (hl : S.bs.length ≤ limit) (hn : (nextR S most limit).yes = false) : (∀ j, j < S.bs.length → S.ak j = true) ∧ S.ea = true ∧ wholeO S = true := by
  obtain ⟨k1, k2, k3⟩ := nextR_none h.ok hm hl hn
  have ha : ∀ j, j < S.bs.length → S.ak j = true := fun j hj => by
    rcases h.al j (by omega) with k | k
    · rw [k1 j] at k
      cases k
    · exact k
  have he : S.ea = true := by
    cases hc : S.ea with
    | true => rfl
    | false =>
      unfold endO at k3
      rw [h.ov, hc] at k3
      cases hen : S.en with
      | false => rw [hen] at k3; cases k3
      | true =>
        rcases h.an hen with k | k
        · rw [hc] at k; cases k
        · rw [hen, k] at k3; cases k3
  refine ⟨ha, he, ?_⟩
  unfold wholeO
  rw [h.ov, he, show baseO S = S.bs.length from runF_is (Nat.le_refl _) (fun j hj => by rw [Nat.zero_add]; exact ha j hj) fun hl => absurd hl (by omega)]
  simp
end
end
section
set_option linter.unusedVariables false
set_option linter.unusedSimpArgs false
/-- Ranges that say which numbers are so. -/
def Says (l : RL) (f : Nat → Bool) : Prop := ∀ j : Nat, hasL l (j : Int) = f j
theorem says_nil {f : Nat → Bool} (h : Says [] f) (j : Nat) : f j = false := (h j).symm
/-- Within the first range all are so, behind it there is one that is not, before it none. -/
theorem says_head {r : Int × Int} {t : RL} {f : Nat → Bool} (hg : Gd (r :: t)) (h : Says (r :: t) f) : (∀ j : Nat, (j : Int) < r.1 → f j = false) ∧ (∀ j : Nat, r.1 ≤ (j : Int) → (j : Int) < r.2 → f j = true) ∧ (∀ j : Nat, (j : Int) = r.2 → f j = false) := by
  obtain ⟨h1, h2, h3⟩ := gd_cons.1 hg
  unfold OkR at h1
  refine ⟨fun j hj => ?_, fun j h4 h5 => ?_, fun j hj => ?_⟩
  · rw [← h j]
    cases hc : hasL (r :: t) (j : Int) with
    | false => rfl
    | true =>
      obtain ⟨s, hs, h4⟩ := has_true.1 hc
      rcases List.mem_cons.1 hs with rfl | hs
      · omega
      · have := h3 s hs
        omega
  · rw [← h j]
    exact has_true.2 ⟨r, List.mem_cons_self .., h4, h5⟩
  · rw [← h j]
    cases hc : hasL (r :: t) (j : Int) with
    | false => rfl
    | true =>
      obtain ⟨s, hs, h4⟩ := has_true.1 hc
      rcases List.mem_cons.1 hs with rfl | hs
      · omega
      · have := h3 s hs
        omega
/-- The run from the first range's beginning on. -/
theorem says_run {r : Int × Int} {t : RL} {f : Nat → Bool} (hg : Gd (r :: t)) (h : Says (r :: t) f) {i k : Nat} (hi : (i : Int) = r.1) (hk : (k : Int) = r.2) (m : Nat) : runF f i m = min m (k - i) := by
  obtain ⟨h1, _, _⟩ := gd_cons.1 hg
  unfold OkR at h1
  obtain ⟨k1, k2, k3⟩ := says_head hg h
  refine runF_is (Nat.min_le_left _ _) (fun j hj => k2 _ (by omega) (by omega)) fun hl => ?_
  have e : i + min m (k - i) = k := by omega
  rw [e]
  exact k3 k hk
/-- The first that is to be sent again. -/
theorem says_first {S : OS} (hok : S.ok) {r : Int × Int} {t : RL} (hg : Gd (r :: t)) (h : Says (r :: t) S.ag) {i k : Nat} (hi : (i : Int) = r.1) (hk : (k : Int) = r.2) : firstO S = i ∧ i < k ∧ k ≤ S.gn := by
  obtain ⟨h1, _, _⟩ := gd_cons.1 hg
  unfold OkR at h1
  obtain ⟨k1, k2, k3⟩ := says_head hg h
  have hkg : k ≤ S.gn := by
    have := (hok.kg (k - 1) (k2 _ (by omega) (by omega))).1
    omega
  refine ⟨runF_is (by omega) (fun j hj => ?_) fun _ => ?_, by omega, hkg⟩
  · rw [Nat.zero_add, k1 j (by omega)]
    rfl
  · rw [Nat.zero_add, k2 i (by omega) (by omega)]
    rfl
theorem says_first_nil {S : OS} (h : Says [] S.ag) : firstO S = S.gn :=
  runF_is (Nat.le_refl _) (fun j _ => by rw [says_nil h]; rfl) fun hl => absurd hl (by omega)
/-- From where Next takes, and up to where. -/
theorem says_from {S : OS} (hok : S.ok) {r : Int × Int} {t : RL} (hg : Gd (r :: t)) (h : Says (r :: t) S.ag) {i k : Nat} (hi : (i : Int) = r.1) (hk : (k : Int) = r.2) (most limit : Nat) : fromO S most limit = (i, i + min most (k - i)) := by
  obtain ⟨h1, h2, h3⟩ := says_first hok hg h hi hk
  unfold fromO
  rw [h1, if_pos (by omega), says_run hg h hi hk]
  congr 1
  omega
theorem says_from_nil {S : OS} (h : Says [] S.ag) (most limit : Nat) : fromO S most limit = (S.gn, max S.gn (min (min S.bs.length limit) (S.gn + most))) := by
  unfold fromO
  rw [says_first_nil h, if_neg (Nat.lt_irrefl _)]
end
end Go.Proofs.YtbejpafephofaaaGreat
