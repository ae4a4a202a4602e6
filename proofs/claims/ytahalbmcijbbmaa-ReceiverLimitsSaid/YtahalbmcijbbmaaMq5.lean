/-
  A receiver by its document (QS): what On, Read, Stop, Next, Lost make of it. Mathematics alone.
-/
import Derived.Test.YtahalbmcijbbmaaMq4
namespace Go.Proofs.Ytahalbmcijbbmaa
section
set_option linter.unusedVariables false
set_option linter.unusedSimpArgs false
open Go.RowKit
/-- So many bytes are there without a gap, m at most. -/
def rdyN (g : Nat → Option Int) : Nat → Nat → Nat
  | 0, _ => 0
  | m + 1, rd => if (g rd).isSome = true then rdyN g m (rd + 1) + 1 else 0
theorem rdyN_eq (g : Nat → Option Int) : ∀ (m rd k : Nat), IsR g rd k → k ≤ m → rdyN g m rd = k
  | 0, rd, k, _, h => (by omega : 0 = k)
  | m + 1, rd, k, h, hk => by
    unfold rdyN
    cases k with
    | zero =>
      have := h.2
      rw [Nat.add_zero] at this
      rw [this]
      rfl
    | succ j =>
      have h0 := h.1 0 (by omega)
      rw [Nat.add_zero] at h0
      rw [if_pos h0, rdyN_eq g m (rd + 1) j ⟨fun i hi => by rw [show rd + 1 + i = rd + (i + 1) by omega]; exact h.1 (i + 1) (by omega), by rw [show rd + 1 + j = rd + (j + 1) by omega]; exact h.2⟩ (by omega)]
def rdyS (S : BS) : Nat := rdyN S.g (S.hi - S.rd) S.rd
theorem rdyS_is {S : BS} (h : S.ok) : IsR S.g S.rd (rdyS S) := by
  obtain ⟨k, h1, h2⟩ := h.ready
  have := rdyN_eq S.g (S.hi - S.rd) S.rd k h2 (by omega)
  unfold rdyS
  rw [this]
  exact h2
theorem rdyS_eq {S : BS} (h : S.ok) {k : Nat} (hk : IsR S.g S.rd k) : rdyS S = k := (rdyS_is h).uniq hk
def wholeB (S : BS) : Bool := S.en && decide (S.rd + rdyS S = S.fi)
/-- A receiver's numbers, its buffer. -/
structure QS where
  id : Nat
  win : Nat
  lim : Nat
  st : Nat
  code : Nat
  fin : Nat
  asked : Bool
  stop : Nat
  due : Bool
  again : Bool
  b : BS
def qs0 (id win : Nat) : QS := ⟨id, min win 2048, min win 2048, 1, 0, 0, false, 0, false, false, bs0⟩
structure QS.ok (X : QS) : Prop where
  b : X.b.ok
  id : X.id < 18446744073709551616
  win : X.win ≤ 2048
  code : X.code < 18446744073709551616
  fl : 5 ≤ X.st → X.fin ≤ X.lim
  hl : X.st < 5 → X.b.hi ≤ X.lim
  lw : X.lim ≤ X.b.rd + X.win
  st : X.st = 1 ∨ X.st = 2 ∨ X.st = 3 ∨ X.st = 4 ∨ X.st = 5 ∨ X.st = 6
  s1 : X.st = 1 → X.b.en = false
  s2 : X.st = 2 → X.b.en = true ∧ wholeB X.b = false
  du : X.due = true → X.st ≤ 2 ∧ X.asked = true
  sp : X.stop ≤ 4611686018427387903
  ef : X.b.en = true → X.b.hi ≤ X.b.fi
theorem qs0_ok (id win : Nat) (h : id < 18446744073709551616) : (qs0 id win).ok :=
  ⟨bs0_ok, h, Nat.min_le_right _ _, (by show 0 < _; omega), fun h => (by have h' : 5 ≤ 1 := h; omega), fun _ => Nat.zero_le _, (by show min win 2048 ≤ 0 + min win 2048; omega), .inl rfl, fun _ => rfl, fun h => (by have h' : 1 = 2 := h; omega), fun h => (by have h' : false = true := h; cases h'), (by show 0 ≤ _; omega), fun h => (by have h' : false = true := h; cases h')⟩
def highQ (X : QS) : Nat := if 5 ≤ X.st then X.fin else X.b.hi
def takenQ (X : QS) : Nat := if 5 ≤ X.st then X.fin else X.b.rd
/-- The state as what came tells it. -/
def settleQ (X : QS) : QS := if X.st ≤ 2 then (if wholeB X.b = true then { X with st := 3, due := false } else if X.b.en = true then { X with st := 2 } else X) else X
theorem settle_id {X : QS} (h : X.ok) : settleQ X = X := by
  unfold settleQ
  split
  · rename_i hle
    rcases h.st with e | e | e | e | e | e
    · have h1 := h.s1 e
      have h2 : wholeB X.b = false := by unfold wholeB; rw [h1]; rfl
      rw [h1, h2]
      rfl
    · have h1 := h.s2 e
      rw [h1.1, h1.2]
      simp
      rw [← e]
    all_goals omega
  · rfl
/-- On of a Stream frame: the error's number; what it is then. -/
def onSE (X : QS) (off n : Nat) (fin : Bool) : Int :=
  if X.lim < off + n then 23
  else if 5 ≤ X.st then (if X.fin < off + n ∨ (fin = true ∧ off + n ≠ X.fin) then 30 else 0)
  else addE X.b off n fin
def onSX (X : QS) (off : Nat) (bs : List Int) (fin : Bool) : QS := if onSE X off bs.length fin = 0 ∧ X.st < 5 then settleQ { X with b := addS X.b off bs fin } else X
/-- On of a Reset. -/
def onRE (X : QS) (f : Nat) : Int :=
  if X.lim < f then 23
  else if (if 5 ≤ X.st then f ≠ X.fin else (X.b.en = true ∧ f ≠ X.b.fi) ∨ f < X.b.hi) then 30 else 0
def onRX (X : QS) (f code : Nat) : QS := if onRE X f = 0 ∧ X.st ≤ 2 then { X with st := 5, code := code, fin := f, due := false } else X
/-- Read: is it the end, the code, the error's number, the bytes; what it is then. -/
structure RdQ where
  fl : Bool
  cd : Nat
  er : Int
  bs : List Int
def readQ (X : QS) (most : Int) : RdQ :=
  if X.st = 5 then ⟨false, X.code, 29, []⟩
  else if X.st = 4 ∨ X.st = 6 then ⟨false, 0, 24, []⟩
  else if min most.toNat (rdyS X.b) = 0 ∧ (X.b.en && decide (X.b.rd = X.b.fi)) = false then ⟨false, 0, 26, []⟩
  else ⟨X.b.en && decide (X.b.rd + min most.toNat (rdyS X.b) = X.b.fi), 0, 0, outB X.b.g X.b.rd (min most.toNat (rdyS X.b))⟩
def readX (X : QS) (most : Int) : QS :=
  if X.st = 5 then { X with st := 6 }
  else if X.st = 4 ∨ X.st = 6 then X
  else { X with b := takeS X.b (min most.toNat (rdyS X.b)), st := if (X.b.en && decide (X.b.rd + min most.toNat (rdyS X.b) = X.b.fi)) = true then 4 else X.st }
def nextX (X : QS) (k : Nat) : QS := if k = 1 then { X with due := false } else if k = 2 then { X with lim := X.b.rd + X.win, again := false } else X
section
variable {X : QS}
theorem addE_zero {S : BS} {off len : Nat} {fin : Bool} (h : addE S off len fin = 0) : off ≤ 1099511627776 ∧ len ≤ 512 ∧ off + len ≤ S.rd + 2048 := by
  unfold addE at h
  split at h
  · cases h
  · split at h
    · cases h
    · split at h
      · cases h
      · omega
theorem settleQ_st (X : QS) : (settleQ X).st = if X.st ≤ 2 then (if wholeB X.b = true then 3 else if X.b.en = true then 2 else X.st) else X.st := by
  unfold settleQ
  split
  · split
    · rfl
    · split <;> rfl
  · rfl
theorem settleQ_b (X : QS) : (settleQ X).b = X.b ∧ (settleQ X).id = X.id ∧ (settleQ X).win = X.win ∧ (settleQ X).lim = X.lim ∧ (settleQ X).code = X.code ∧ (settleQ X).fin = X.fin ∧ (settleQ X).asked = X.asked ∧ (settleQ X).stop = X.stop ∧ (settleQ X).again = X.again := by
  unfold settleQ
  split
  · split
    · exact ⟨rfl, rfl, rfl, rfl, rfl, rfl, rfl, rfl, rfl⟩
    · split <;> exact ⟨rfl, rfl, rfl, rfl, rfl, rfl, rfl, rfl, rfl⟩
  · exact ⟨rfl, rfl, rfl, rfl, rfl, rfl, rfl, rfl, rfl⟩
theorem settleQ_due (X : QS) : (settleQ X).due = (if X.st ≤ 2 ∧ wholeB X.b = true then false else X.due) := by
  by_cases h1 : X.st ≤ 2
  · by_cases h2 : wholeB X.b = true
    · unfold settleQ
      rw [if_pos h1, if_pos h2, if_pos ⟨h1, h2⟩]
    · rw [if_neg (fun h => h2 h.2)]
      unfold settleQ
      rw [if_pos h1, if_neg h2]
      split <;> rfl
  · rw [if_neg (fun h => h1 h.1)]
    unfold settleQ
    rw [if_neg h1]
theorem onSX_ok (h : X.ok) (off : Nat) (bs : List Int) (fin : Bool) (hb : Byt bs) : (onSX X off bs fin).ok := by
  unfold onSX
  split
  · rename_i hc
    obtain ⟨he, hst⟩ := hc
    unfold onSE at he
    split at he
    · cases he
    · rename_i hl
      rw [if_neg (by omega)] at he
      obtain ⟨e1, e2, e3⟩ := addE_zero he
      have ok1 := addS_ok h.b fin hb e1 e2 e3
      obtain ⟨q1, q2, q3, q4, q5, q6, q7, q8, q9⟩ := settleQ_b { X with b := addS X.b off bs fin }
      have qs := settleQ_st { X with b := addS X.b off bs fin }
      have qd := settleQ_due { X with b := addS X.b off bs fin }
      simp only at q1 q2 q3 q4 q5 q6 q7 q8 q9 qs qd
      have hst' := h.st
      refine ⟨?_, ?_, ?_, ?_, ?_, ?_, ?_, ?_, ?_, ?_, ?_, ?_, ?_⟩
      · rw [q1]; exact ok1
      · rw [q2]; exact h.id
      · rw [q3]; exact h.win
      · rw [q5]; exact h.code
      · intro h5
        exfalso
        rw [qs] at h5
        split at h5
        · split at h5
          · omega
          · split at h5 <;> omega
        · omega
      · intro _
        rw [q1, q4]
        show max X.b.hi (off + bs.length) ≤ X.lim
        have := h.hl hst
        omega
      · rw [q4, q1, q3]
        exact h.lw
      · rw [qs]
        split
        · split
          · omega
          · split <;> omega
        · omega
      · intro h1
        rw [qs] at h1
        rw [q1]
        split at h1
        · split at h1
          · omega
          · split at h1
            · omega
            · rename_i hn; simpa using hn
        · omega
      · intro h2
        rw [qs] at h2
        rw [q1]
        split at h2
        · split at h2
          · omega
          · rename_i hw
            have hw' : wholeB (addS X.b off bs fin) = false := by simpa using hw
            split at h2
            · rename_i he2; exact ⟨he2, hw'⟩
            · rename_i he2
              have := h.s2 h2
              have hen : (addS X.b off bs fin).en = (X.b.en || fin) := rfl
              rw [hen, this.1] at he2
              simp at he2
        · omega
      · intro hd
        rw [qd] at hd
        rw [q7]
        split at hd
        · cases hd
        · rename_i hn
          obtain ⟨d1, d2⟩ := h.du hd
          refine ⟨?_, d2⟩
          rw [qs, if_pos d1]
          split
          · rename_i hw; exact absurd ⟨d1, hw⟩ hn
          · split <;> omega
      · rw [q8]; exact h.sp
      · rw [q1]
        intro hen
        have hen' : (X.b.en || fin) = true := hen
        show max X.b.hi (off + bs.length) ≤ if fin = true then off + bs.length else X.b.fi
        unfold addE at he
        rw [if_neg (by omega)] at he
        split at he
        · cases he
        · rename_i hag
          have hef := h.ef
          cases hfi : fin <;> cases hee : X.b.en <;> rw [hfi, hee] at hag hen' <;> simp at hag hen' ⊢
          · have := hef hee; omega
          · omega
          · omega
  · exact h
theorem onRX_ok (h : X.ok) (f code : Nat) (hc : code < 18446744073709551616) : (onRX X f code).ok := by
  unfold onRX
  split
  · rename_i h1
    obtain ⟨he, hst⟩ := h1
    have hf : f ≤ X.lim := by
      unfold onRE at he
      split at he
      · cases he
      · omega
    exact ⟨h.b, h.id, h.win, hc, fun _ => hf, fun h5 => (by have h5' : 5 < 5 := h5; omega), h.lw, .inr (.inr (.inr (.inr (.inl rfl)))), fun h5 => (by have h5' : 5 = 1 := h5; omega), fun h5 => (by have h5' : 5 = 2 := h5; omega), fun hd => (by cases hd), h.sp, h.ef⟩
  · exact h
theorem readX_ok (h : X.ok) (most : Int) : (readX X most).ok := by
  have hst' := h.st
  unfold readX
  split
  · rename_i e
    exact ⟨h.b, h.id, h.win, h.code, fun _ => h.fl (by omega), fun h5 => (by have h5' : 6 < 5 := h5; omega), h.lw, .inr (.inr (.inr (.inr (.inr rfl)))), fun h5 => (by have h5' : 6 = 1 := h5; omega), fun h5 => (by have h5' : 6 = 2 := h5; omega), fun hd => (by have := h.du hd; omega), h.sp, h.ef⟩
  · split
    · exact h
    · rename_i e1 e2
      have hr := rdyS_is h.b
      have ok1 := takeS_ok h.b hr (Nat.min_le_right most.toNat (rdyS X.b))
      have hlw := h.lw
      have hst5 : X.st < 5 := by omega
      refine ⟨ok1, h.id, h.win, h.code, ?_, ?_, ?_, ?_, ?_, ?_, ?_, h.sp, h.ef⟩
      · intro h5
        have h5' : 5 ≤ (if (X.b.en && decide (X.b.rd + min most.toNat (rdyS X.b) = X.b.fi)) = true then 4 else X.st) := h5
        split at h5' <;> omega
      · exact fun _ => h.hl hst5
      · show X.lim ≤ X.b.rd + min most.toNat (rdyS X.b) + X.win
        omega
      · show (if (X.b.en && decide (X.b.rd + min most.toNat (rdyS X.b) = X.b.fi)) = true then 4 else X.st) = 1 ∨ (if (X.b.en && decide (X.b.rd + min most.toNat (rdyS X.b) = X.b.fi)) = true then 4 else X.st) = 2 ∨ (if (X.b.en && decide (X.b.rd + min most.toNat (rdyS X.b) = X.b.fi)) = true then 4 else X.st) = 3 ∨ (if (X.b.en && decide (X.b.rd + min most.toNat (rdyS X.b) = X.b.fi)) = true then 4 else X.st) = 4 ∨ (if (X.b.en && decide (X.b.rd + min most.toNat (rdyS X.b) = X.b.fi)) = true then 4 else X.st) = 5 ∨ (if (X.b.en && decide (X.b.rd + min most.toNat (rdyS X.b) = X.b.fi)) = true then 4 else X.st) = 6
        split <;> omega
      · intro h1
        have h1' : (if (X.b.en && decide (X.b.rd + min most.toNat (rdyS X.b) = X.b.fi)) = true then 4 else X.st) = 1 := h1
        split at h1'
        · omega
        · exact h.s1 h1'
      · intro h2
        have h2' : (if (X.b.en && decide (X.b.rd + min most.toNat (rdyS X.b) = X.b.fi)) = true then 4 else X.st) = 2 := h2
        split at h2'
        · omega
        · obtain ⟨a, b⟩ := h.s2 h2'
          refine ⟨a, ?_⟩
          have hk : IsR (takeS X.b (min most.toNat (rdyS X.b))).g (takeS X.b (min most.toNat (rdyS X.b))).rd (rdyS X.b - min most.toNat (rdyS X.b)) := by
            refine ⟨fun i hi => ?_, ?_⟩
            · show (X.b.g (X.b.rd + min most.toNat (rdyS X.b) + i)).isSome = true
              rw [Nat.add_assoc]
              exact hr.1 _ (by omega)
            · show X.b.g (X.b.rd + min most.toNat (rdyS X.b) + (rdyS X.b - min most.toNat (rdyS X.b))) = none
              rw [Nat.add_assoc, Nat.add_sub_cancel' (Nat.min_le_right _ _)]
              exact hr.2
          have hrd := rdyS_eq ok1 hk
          unfold wholeB at b ⊢
          rw [hrd]
          show (X.b.en && decide (X.b.rd + min most.toNat (rdyS X.b) + (rdyS X.b - min most.toNat (rdyS X.b)) = X.b.fi)) = false
          rw [Nat.add_assoc, Nat.add_sub_cancel' (Nat.min_le_right _ _)]
          exact b
      · intro hd
        have := h.du hd
        obtain ⟨d1, d2⟩ := this
        refine ⟨?_, d2⟩
        show (if (X.b.en && decide (X.b.rd + min most.toNat (rdyS X.b) = X.b.fi)) = true then 4 else X.st) ≤ 2
        split
        · rename_i hw
          exfalso
          have hen : X.b.en = true := by simp at hw; exact hw.1
          have hrf : X.b.rd + min most.toNat (rdyS X.b) = X.b.fi := by simp at hw; exact hw.2
          rcases hst' with e | e | e | e | e | e
          · have := h.s1 e; rw [hen] at this; cases this
          · have := (h.s2 e).2
            unfold wholeB at this
            rw [hen] at this
            simp at this
            have hle := hr.le h.b
            have hef := h.ef hen
            omega
          all_goals omega
        · exact d1
end
end
section
set_option linter.unusedVariables false
set_option linter.unusedSimpArgs false
open Go.RowKit
/-- The row is long enough for so many. -/
def padW (W : List Int) (n : Nat) : List Int := W ++ List.replicate (n - W.length) 0
theorem padW_len (W : List Int) (n : Nat) : (padW W n).length = max W.length n := by simp [padW]; omega
theorem padW_id {W : List Int} {n : Nat} (h : n ≤ W.length) : padW W n = W := by
  unfold padW
  rw [show n - W.length = 0 by omega]
  simp
theorem padW_get {W : List Int} {n i : Nat} {x : Int} (h : W[i]? = some x) : (padW W n)[i]? = some x := by
  unfold padW
  have := (List.getElem?_eq_some_iff.1 h).1
  rw [List.getElem?_append_left this]
  exact h
theorem padW_byt {W : List Int} (h : Byt W) (n : Nat) : Byt (padW W n) := h.app fun y hy => by rw [List.eq_of_mem_replicate hy]; omega
theorem splice_get_out {α : Type} (L cs : List α) (o i : Nat) (h : i < o ∨ o + cs.length ≤ i) (ho : o + cs.length ≤ L.length) : (splice L o cs)[i]? = L[i]? := by
  unfold splice
  rcases h with h | h
  · rw [List.getElem?_append_left (by simp; omega), List.getElem?_take_of_lt h]
  · rw [List.getElem?_append_right (by simp; omega), List.getElem?_append_right (by simp; omega), List.getElem?_drop]
    congr 1
    simp; omega
theorem splice_get_in {α : Type} (L cs : List α) (o i : Nat) (h : o ≤ i) (h2 : i < o + cs.length) (ho : o + cs.length ≤ L.length) : (splice L o cs)[i]? = cs[i - o]? := by
  unfold splice
  rw [List.getElem?_append_right (by simp; omega), List.getElem?_append_left (by simp; omega)]
  congr 1
  simp; omega
theorem splice_byt {W bs : List Int} (h : Byt W) (hb : Byt bs) (o : Nat) : Byt (splice W o bs) := (h.take o).app (hb.app (h.drop _))
theorem splice_map {α β : Type} (f : α → β) (L cs : List α) (o : Nat) : splice (L.map f) o (cs.map f) = (splice L o cs).map f := by simp [splice]
theorem has_rng {rd : Nat} {l : RL} {W : List Int} {g : Nat → Option Int} (h : Pm rd l W g) {k : Int} (hk : hasL l k = true) : (rd : Int) ≤ k ∧ k < rd + W.length := by
  obtain ⟨r, hr, h1, h2⟩ := has_true.1 hk
  have := h.rng r hr
  omega
theorem mem_has {l : RL} (hg : Gd l) {r : Int × Int} (hr : r ∈ l) : hasL l r.1 = true ∧ hasL l (r.2 - 1) = true := by
  have := hg.1 r hr
  unfold OkR at this
  exact ⟨has_true.2 ⟨r, hr, by omega, by omega⟩, has_true.2 ⟨r, hr, by omega, by omega⟩⟩
theorem pm_lay {rd off : Nat} {l : RL} {W bs : List Int} {g : Nat → Option Int} (h : Pm rd l W g) (h1 : rd ≤ off) (h2 : off + bs.length ≤ rd + 2048) (hm : rd ≤ 1099511628288)
    (hno : ∀ n, off ≤ n → n < off + bs.length → g n = none) :
    Pm rd (addV l off (off + bs.length : Nat) 2048) (splice (padW W (off + bs.length - rd)) (off - rd) bs) (addG g off bs) := by
  have hgd := addV_gd h.gd off (off + bs.length : Nat) 2048 (by omega)
  have hlen := addGo_len l ((off : Int), ((off + bs.length : Nat) : Int)) false
  have hl := h.len
  have hhas : ∀ k : Int, hasL (addV l off (off + bs.length : Nat) 2048) k = (hasL l k || (decide ((off : Int) ≤ k) && decide (k < (off + bs.length : Nat)))) := fun k => has_addV h.gd (by omega) (by omega)
  have hpl := padW_len W (off + bs.length - rd)
  have hfit : off - rd + bs.length ≤ (padW W (off + bs.length - rd)).length := by rw [hpl]; omega
  have hsl : (splice (padW W (off + bs.length - rd)) (off - rd) bs).length = max W.length (off + bs.length - rd) := by rw [length_splice _ _ _ hfit, hpl]
  refine ⟨hgd, fun r hr => ?_, ?_, fun n hn => ?_, fun n x hn hx => ?_⟩
  · obtain ⟨k1, k2⟩ := mem_has hgd hr
    rw [hhas] at k1 k2
    rw [hsl]
    rw [Bool.or_eq_true, Bool.and_eq_true, decide_eq_true_eq, decide_eq_true_eq] at k1 k2
    constructor
    · rcases k1 with k1 | k1
      · exact (has_rng h k1).1
      · omega
    · rcases k2 with k2 | k2
      · have := (has_rng h k2).2
        omega
      · omega
  · rw [hsl]
    have := h.wl
    omega
  · rw [hhas, addG_isSome, h.has n hn]
    congr 1
    have e1 : ((off : Int) ≤ (n : Int)) = (off ≤ n) := by simp
    have e2 : ((n : Int) < ((off + bs.length : Nat) : Int)) = (n < off + bs.length) := by simp only [eq_iff_iff]; omega
    simp only [e1, e2]
  · by_cases hc : off ≤ n ∧ n < off + bs.length
    · rw [addG_none (hno n hc.1 hc.2)] at hx
      rw [splice_get_in _ _ _ _ (by omega) (by omega) hfit]
      unfold pieceB at hx
      rw [if_pos hc.1] at hx
      rw [← hx]
      congr 1
      omega
    · have hgx : g n = some x := by
        cases hg : g n with
        | some y =>
          rw [addG_some (by rw [hg]; rfl), hg] at hx
          exact hx
        | none =>
          rw [addG_none hg, pieceB_out (by omega)] at hx
          cases hx
      rw [splice_get_out _ _ _ _ (by omega) hfit]
      exact padW_get (h.byt n x hn hgx)
theorem pm_ready_le {rd k : Nat} {l : RL} {W : List Int} {g : Nat → Option Int} (h : Pm rd l W g) (hk : IsR g rd k) : k ≤ W.length := by
  rcases Nat.eq_zero_or_pos k with rfl | h0
  · omega
  · have h1 := hk.1 (k - 1) (by omega)
    rw [← h.has _ (by omega)] at h1
    have := has_rng h h1
    omega
theorem pm_out {rd k n : Nat} {l : RL} {W : List Int} {g : Nat → Option Int} (h : Pm rd l W g) (hk : IsR g rd k) (hn : n ≤ k) : W.take n = outB g rd n := by
  have hkw := pm_ready_le h hk
  apply List.ext_getElem?
  intro i
  by_cases hi : i < n
  · have h1 := hk.1 i (by omega)
    obtain ⟨x, hx⟩ := Option.isSome_iff_exists.1 h1
    have h2 := h.byt (rd + i) x (by omega) hx
    rw [show rd + i - rd = i by omega] at h2
    rw [List.getElem?_take_of_lt hi, h2]
    unfold outB
    rw [List.getElem?_map, List.getElem?_range hi]
    simp [hx]
  · rw [List.getElem?_eq_none (by simp; omega), List.getElem?_eq_none (by rw [outB_len]; omega)]
theorem pm_cut {rd k n : Nat} {l : RL} {W : List Int} {g : Nat → Option Int} (h : Pm rd l W g) (hk : IsR g rd k) (hn : n ≤ k) : Pm (rd + n) (cutL l rd (rd + n : Nat) 2048) (W.drop n) g := by
  have hkw := pm_ready_le h hk
  have hgd := cutL_gd h.gd rd (rd + n : Nat) 2048
  have hlen : ((rd + n : Nat) : Int) ≤ (rd : Int) ∨ ((l.flatMap (cutP rd (rd + n : Nat))).length : Int) ≤ 2048 := by
    rcases Nat.eq_zero_or_pos n with rfl | h0
    · exact .inl (by omega)
    · right
      have hg2 := cut_gd rd (rd + n : Nat) (by omega) l h.gd
      have := gd_len _ rd (rd + W.length) hg2 (fun s hs => by
        rw [List.mem_flatMap] at hs
        obtain ⟨r, hr, hs⟩ := hs
        have h1 := cutP_in _ _ _ _ hs
        have h2 := h.rng r hr
        omega) (by omega)
      have := h.wl
      omega
  have hhas : ∀ k : Int, hasL (cutL l rd (rd + n : Nat) 2048) k = (hasL l k && !(decide ((rd : Int) ≤ k) && decide (k < (rd + n : Nat)))) := fun k => has_cutL hlen
  refine ⟨hgd, fun r hr => ?_, by have := h.wl; rw [List.length_drop]; omega, fun m hm => ?_, fun m x hm hx => ?_⟩
  · obtain ⟨k1, k2⟩ := mem_has hgd hr
    rw [hhas, Bool.and_eq_true] at k1 k2
    have j1 := has_rng h k1.1
    have j2 := has_rng h k2.1
    have j3 := k1.2
    simp at j3
    rw [List.length_drop]
    omega
  · rw [hhas, h.has m (by omega)]
    have : (decide ((rd : Int) ≤ (m : Int)) && decide ((m : Int) < ((rd + n : Nat) : Int))) = false := by simp; omega
    rw [this]
    simp
  · have := h.byt m x (by omega) hx
    rw [List.getElem?_drop, ← this]
    congr 1
    omega
/-- Laying the next gap's bytes of a piece. -/
theorem addG_glue (g : Nat → Option Int) {off from_ a e : Nat} {bs : List Int} (h0 : off ≤ from_) (h1 : from_ ≤ a) (h2 : a ≤ e) (h3 : e ≤ off + bs.length)
    (hs : ∀ n, from_ ≤ n → n < a → (addG g off (bs.take (from_ - off)) n).isSome = true) :
    addG (addG g off (bs.take (from_ - off))) a ((bs.take (e - off)).drop (a - off)) = addG g off (bs.take (e - off)) := by
  funext n
  cases hg : g n with
  | some x =>
    have e1 : addG g off (bs.take (from_ - off)) n = some x := by unfold addG; rw [hg]; rfl
    rw [addG_some (by rw [e1]; rfl), e1]
    unfold addG
    rw [hg]
    rfl
  | none =>
    have e1 : addG g off (bs.take (from_ - off)) n = pieceB off (bs.take (from_ - off)) n := addG_none hg
    rw [addG_none (g := g) hg]
    by_cases c1 : n < from_
    · have e2 : pieceB off (bs.take (from_ - off)) n = pieceB off (bs.take (e - off)) n := by
        unfold pieceB
        by_cases hh : off ≤ n
        · rw [if_pos hh, if_pos hh, List.getElem?_take_of_lt (by omega), List.getElem?_take_of_lt (by omega)]
        · rw [if_neg hh, if_neg hh]
      have e3 : pieceB a ((bs.take (e - off)).drop (a - off)) n = none := by
        unfold pieceB
        rw [if_neg (by omega)]
      unfold addG
      rw [hg, e3, e2]
      simp
    · have e2 : pieceB off (bs.take (from_ - off)) n = none := pieceB_out (by simp; omega)
      by_cases c2 : n < a
      · have := hs n (by omega) c2
        rw [e1, e2] at this
        cases this
      · rw [addG_none (by rw [e1, e2])]
        unfold pieceB
        rw [if_pos (by omega), if_pos (by omega), List.getElem?_drop]
        congr 1
        omega
theorem addG_full (g : Nat → Option Int) {off from_ : Nat} {bs : List Int} (h0 : off ≤ from_)
    (hs : ∀ n, from_ ≤ n → n < off + bs.length → (addG g off (bs.take (from_ - off)) n).isSome = true) : addG g off (bs.take (from_ - off)) = addG g off bs := by
  funext n
  cases hg : g n with
  | some x => unfold addG; rw [hg]; rfl
  | none =>
    rw [addG_none hg, addG_none hg]
    by_cases c : n < from_
    · unfold pieceB
      by_cases hh : off ≤ n
      · rw [if_pos hh, if_pos hh, List.getElem?_take_of_lt (by omega)]
      · rw [if_neg hh, if_neg hh]
    · by_cases c2 : n < off + bs.length
      · have := hs n (by omega) c2
        rw [addG_none hg, pieceB_out (by simp; omega)] at this
        cases this
      · rw [pieceB_out (by simp; omega), pieceB_out (by omega)]
/-- What stands below rd stands anyway: the piece begins there. -/
theorem addG_start (S : BS) (h : S.ok) (off : Nat) (bs : List Int) : addG S.g off (bs.take (max off S.rd - off)) = S.g := by
  funext n
  unfold addG
  cases hg : S.g n with
  | some x => rfl
  | none =>
    show pieceB off (bs.take (max off S.rd - off)) n = none
    have hn : ¬ n < S.rd := fun hh => by
      have := h.al n hh
      rw [hg] at this
      cases this
    exact pieceB_out (by simp; omega)
end
end Go.Proofs.Ytahalbmcijbbmaa
