/-
  outbuf: a buffer of which nothing is lost (OutbufRoom); rows of flags as functions (the document's Acks, Again): mathematics alone.
-/
import Derived.Test.YtoakahofiodbhaaDa
namespace Go.Proofs.Ytoakahofiodbhaa
set_option linter.unusedVariables false
set_option linter.unusedSimpArgs false
/-- Nothing is lost, the first are acknowledged, Finish was not called. -/
structure Fr (S : OS) (total base : Nat) : Prop where
  ok : S.ok
  len : S.bs.length = total
  ak : ∀ j, S.ak j = decide (j < base)
  ag : ∀ j, S.ag j = false
  ov : S.ov = false
  bg : base ≤ S.gn
theorem fr0 : Fr os0 0 0 := ⟨os0_ok, rfl, fun j => by simp [os0], fun j => rfl, rfl, Nat.le_refl _⟩
section
variable {S : OS} {total base : Nat}
theorem Fr.le (h : Fr S total base) : base ≤ S.gn ∧ S.gn ≤ total := ⟨h.bg, by have := h.ok.gl; have := h.len; omega⟩
theorem Fr.bas (h : Fr S total base) : baseO S = base := by
  have := h.le
  refine runF_is (by rw [h.len]; omega) (fun j hj => by rw [Nat.zero_add, h.ak]; simpa using hj) fun _ => by rw [Nat.zero_add, h.ak]; simp
theorem Fr.room (h : Fr S total base) : roomO S = 2048 - (total - base) := by
  unfold roomO
  rw [h.ov, h.bas, h.len]
  rfl
theorem Fr.roomy (h : Fr S total base) : total - base ≤ 2048 := by
  have := h.ok.rm
  rw [h.bas, h.len] at this
  omega
theorem Fr.write (h : Fr S total base) {d : List Int} (hd : Byt d) : Fr (writeO S d) (total + min d.length (2048 - (total - base))) base := by
  refine ⟨writeO_ok h.ok hd, ?_, h.ak, h.ag, h.ov, h.bg⟩
  show (S.bs ++ d.take (writeN S d.length)).length = _
  have hw : writeN S d.length = min d.length (2048 - (total - base)) := by rw [writeN, h.room]
  rw [List.length_append, List.length_take, h.len, hw]
  omega
theorem Fr.first (h : Fr S total base) : firstO S = S.gn := runF_is (Nat.le_refl _) (fun j hj => by rw [h.ag]; rfl) fun hl => absurd hl (by omega)
theorem Fr.end_ (h : Fr S total base) : endO S = false := by unfold endO; rw [h.ov]; rfl
/-- What is not sent yet goes. -/
theorem Fr.next (h : Fr S total base) {limit : Nat} (hl : total ≤ limit) (most : Nat) : nextR S most limit = if min total (S.gn + most) = S.gn then ⟨0, 0, false, false⟩ else ⟨S.gn, min total (S.gn + most) - S.gn, false, true⟩ := by
  have hle := h.le
  unfold nextR fromO
  rw [h.first, if_neg (Nat.lt_irrefl _), h.end_, h.len]
  have e : max S.gn (min (min total limit) (S.gn + most)) = min total (S.gn + most) := by omega
  dsimp only
  rw [e]
  by_cases hc : min total (S.gn + most) = S.gn
  · rw [if_pos hc, if_pos hc.symm, if_neg (by simp)]
  · rw [if_neg hc, if_neg (fun k => hc k.symm)]
    simp
theorem Fr.sent (h : Fr S total base) {limit : Nat} (hl : total ≤ limit) (most : Nat) : Fr (nextO S most limit) total base ∧ (nextO S most limit).gn = min total (S.gn + most) := by
  have hle := h.le
  have hg : (nextO S most limit).gn = min total (S.gn + most) := by
    show max S.gn (if (nextR S most limit).n = 0 then 0 else (nextR S most limit).off + (nextR S most limit).n) = _
    rw [h.next hl most]
    by_cases hc : min total (S.gn + most) = S.gn
    · rw [if_pos hc]
      dsimp only
      rw [if_pos rfl]
      omega
    · rw [if_neg hc]
      dsimp only
      rw [if_neg (by omega)]
      omega
  refine ⟨⟨nextO_ok h.ok _ _, h.len, h.ak, fun j => ?_, h.ov, by rw [hg]; omega⟩, hg⟩
  show (S.ag j && _) = false
  rw [h.ag]
  rfl
theorem Fr.ack (h : Fr S total base) (k : Nat) (hk : base + k ≤ S.gn) : Fr (ackO S base k false) total (base + k) := by
  refine ⟨ackO_ok h.ok _ _ _, h.len, fun j => ?_, fun j => ?_, h.ov, hk⟩
  · show (S.ak j || inT S base k j) = _
    rw [h.ak]
    unfold inT
    by_cases h1 : j < base
    · have : j < base + k := by omega
      simp [h1, this]
    · by_cases h2 : j < base + k
      · have : j < S.gn := by omega
        have : base ≤ j := by omega
        simp [*]
      · simp [h1, h2]
  · show (S.ag j && _) = false
    rw [h.ag]
    rfl
end
/-- A row of flags. -/
def tabB (f : Nat → Bool) (n : Nat) : List Bool := (List.range n).map f
theorem tabB_len (f : Nat → Bool) (n : Nat) : (tabB f n).length = n := by simp [tabB]
theorem tabB_get (f : Nat → Bool) (n i : Nat) (h : i < n) : (tabB f n)[i]? = some (f i) := by simp [tabB, h]
theorem tabB_congr {f g : Nat → Bool} {n : Nat} (h : ∀ j, j < n → f j = g j) : tabB f n = tabB g n := by
  apply List.ext_getElem?
  intro i
  by_cases hi : i < n
  · rw [tabB_get _ _ _ hi, tabB_get _ _ _ hi, h i hi]
  · rw [List.getElem?_eq_none (by rw [tabB_len]; omega), List.getElem?_eq_none (by rw [tabB_len]; omega)]
theorem tabB_set (f : Nat → Bool) (n i : Nat) (v : Bool) : (tabB f n).set i v = tabB (fun j => if j = i then v else f j) n := by
  apply List.ext_getElem?
  intro j
  rw [List.getElem?_set, tabB_len]
  by_cases hj : j < n
  · rw [tabB_get _ _ _ hj, tabB_get _ _ _ hj]
    by_cases e : i = j
    · subst e
      simp [hj]
    · simp [e, show ¬ j = i from fun k => e k.symm]
  · rw [List.getElem?_eq_none (by rw [tabB_len]; omega), List.getElem?_eq_none (by rw [tabB_len]; omega)]
    split
    · rw [if_neg (by omega)]
    · rfl
theorem tabB_more (f : Nat → Bool) (n : Nat) (h : f n = false) : tabB f n ++ [false] = tabB f (n + 1) := by
  unfold tabB
  rw [List.range_succ, List.map_append, List.map_singleton, h]
/-- The document's rows of flags keep what is acknowledged, what is to be sent again. -/
structure Rf (S : OS) (C A : List Bool) : Prop where
  c : C = tabB S.ak S.bs.length
  a : ∃ aw : Nat → Bool, A = tabB aw S.bs.length ∧ (∀ j, S.ag j = (aw j && !S.ak j)) ∧ ∀ j, aw j = true → j < S.gn
theorem rf0 : Rf os0 [] [] := ⟨rfl, fun _ => false, rfl, fun j => rfl, fun j h => by cases h⟩
theorem tabB_app (f : Nat → Bool) (n : Nat) : ∀ k, (∀ j, n ≤ j → f j = false) → tabB f n ++ List.replicate k false = tabB f (n + k)
  | 0, _ => by simp
  | k + 1, h => by
    rw [List.replicate_succ', ← List.append_assoc, tabB_app f n k h, tabB_more f (n + k) (h _ (by omega))]
    rfl
section
variable {S : OS} {C A : List Bool}
theorem Rf.len (r : Rf S C A) : C.length = S.bs.length ∧ A.length = S.bs.length := by
  obtain ⟨h1, aw, h2, _⟩ := r
  rw [h1, h2, tabB_len, tabB_len]
  exact ⟨rfl, rfl⟩
theorem Rf.write (r : Rf S C A) (h : S.ok) (d : List Int) : Rf (writeO S d) (C ++ List.replicate (writeN S d.length) false) (A ++ List.replicate (writeN S d.length) false) := by
  obtain ⟨h1, aw, h2, h3, h4⟩ := r
  have hg := h.gl
  have hlen : (writeO S d).bs.length = S.bs.length + writeN S d.length := by
    show (S.bs ++ d.take _).length = _
    have : writeN S d.length ≤ d.length := Nat.min_le_left _ _
    simp; omega
  refine ⟨?_, aw, ?_, h3, h4⟩
  · rw [hlen, h1, tabB_app]
    · rfl
    · intro j hj
      cases ha : S.ak j with
      | false => rfl
      | true => have := h.ka j ha; omega
  · rw [hlen, h2, tabB_app]
    intro j hj
    cases ha : aw j with
    | false => rfl
    | true => have := h4 j ha; omega
theorem Rf.ack (h1 : C = tabB S.ak S.bs.length) {aw : Nat → Bool} (h2 : A = tabB aw S.bs.length) (h3 : ∀ j, S.ag j = (aw j && !S.ak j)) (h4 : ∀ j, aw j = true → j < S.gn) (off n : Nat) (fin : Bool) : Rf (ackO S off n fin) (tabB (fun j => S.ak j || inT S off n j) S.bs.length) A := by
  refine ⟨rfl, aw, h2, fun j => ?_, h4⟩
  show (S.ag j && !inT S off n j) = (aw j && !(S.ak j || inT S off n j))
  rw [h3]
  cases aw j <;> cases S.ak j <;> cases inT S off n j <;> rfl
theorem Rf.lost (h1 : C = tabB S.ak S.bs.length) {aw : Nat → Bool} (h2 : A = tabB aw S.bs.length) (h3 : ∀ j, S.ag j = (aw j && !S.ak j)) (h4 : ∀ j, aw j = true → j < S.gn) (off n : Nat) (fin : Bool) : Rf (lostO S off n fin) C (tabB (fun j => aw j || inT S off n j) S.bs.length) := by
  refine ⟨h1, fun j => aw j || inT S off n j, rfl, fun j => ?_, fun j hj => ?_⟩
  · show (S.ag j || (inT S off n j && !S.ak j)) = ((aw j || inT S off n j) && !S.ak j)
    rw [h3]
    cases aw j <;> cases S.ak j <;> cases inT S off n j <;> rfl
  · rcases (Bool.or_eq_true _ _).mp hj with k | k
    · exact h4 j k
    · exact (inT_gn k).2.2
theorem Rf.sent (h1 : C = tabB S.ak S.bs.length) {aw : Nat → Bool} (h2 : A = tabB aw S.bs.length) (h3 : ∀ j, S.ag j = (aw j && !S.ak j)) (h4 : ∀ j, aw j = true → j < S.gn) (off n : Nat) (fin : Bool) : Rf (sentO S off n fin) C (tabB (fun j => aw j && !(decide (off ≤ j) && decide (j < off + n))) S.bs.length) := by
  refine ⟨h1, _, rfl, fun j => ?_, fun j hj => ?_⟩
  · show (S.ag j && !(decide (off ≤ j) && decide (j < off + n))) = ((aw j && !(decide (off ≤ j) && decide (j < off + n))) && !S.ak j)
    rw [h3]
    cases aw j <;> cases S.ak j <;> cases (decide (off ≤ j) && decide (j < off + n)) <;> rfl
  · rw [Bool.and_eq_true] at hj
    have := h4 j hj.1
    show j < max S.gn _
    omega
end
end Go.Proofs.Ytoakahofiodbhaa
