/-
  A receiver by its document (QS): what On, Read, Stop, Next, Lost make of it. Mathematics alone.
-/
import Derived.Test.YtphpdaldplkgmaaGreatMq12
import Derived.Test.YtphpdaldplkgmaaGreatMq14
import Derived.BigRegion
import Derived.BigQuiet
import Derived.Deep.RegionHeld3
import Derived.Test.YtphpdaldplkgmaaGreatQk
import Derived.StillTailTactics
namespace Go.Proofs.YtphpdaldplkgmaaGreat
section
set_option linter.unusedVariables false
set_option linter.unusedSimpArgs false
open Go.RowKit
/-- So many bytes are there without a gap, m at most. -/
def rdyN (g : Nat → Option Int) : Nat → Nat → Nat
  | 0, _ => 0
  | m + 1, rd => if (g rd).isSome = true then rdyN g m (rd + 1) + 1 else 0
theorem rdyN_eq (g : Nat → Option Int) : ∀ (m rd k : Nat), IsR g rd k → k ≤ m → rdyN g m rd = k
  | 0, rd, k, _, h => (by omega : 0 = k)
  | m + 1, rd, k, h, hk => by
    unfold rdyN
    cases k with
    | zero =>
      have := h.2
      rw [Nat.add_zero] at this
      rw [this]
      rfl
    | succ j =>
      have h0 := h.1 0 (by omega)
      rw [Nat.add_zero] at h0
      rw [if_pos h0, rdyN_eq g m (rd + 1) j ⟨fun i hi => by rw [show rd + 1 + i = rd + (i + 1) by omega]; exact h.1 (i + 1) (by omega), by rw [show rd + 1 + j = rd + (j + 1) by omega]; exact h.2⟩ (by omega)]
def rdyS (S : BS) : Nat := rdyN S.g (S.hi - S.rd) S.rd
theorem rdyS_is {S : BS} (h : S.ok) : IsR S.g S.rd (rdyS S) := by
  obtain ⟨k, h1, h2⟩ := h.ready
  have := rdyN_eq S.g (S.hi - S.rd) S.rd k h2 (by omega)
  unfold rdyS
  rw [this]
  exact h2
theorem rdyS_eq {S : BS} (h : S.ok) {k : Nat} (hk : IsR S.g S.rd k) : rdyS S = k := (rdyS_is h).uniq hk
def wholeB (S : BS) : Bool := S.en && decide (S.rd + rdyS S = S.fi)
theorem wholeB_en {S : BS} (h : wholeB S = true) : S.en = true := by
  unfold wholeB at h
  simp at h
  exact h.1
/-- A receiver's numbers, its buffer. -/
structure QS where
  id : Nat
  win : Nat
  lim : Nat
  st : Nat
  code : Nat
  fin : Nat
  asked : Bool
  stop : Nat
  due : Bool
  again : Bool
  b : BS
def qs0 (id win : Nat) : QS := ⟨id, min win 2048, min win 2048, 1, 0, 0, false, 0, false, false, bs0⟩
structure QS.ok (X : QS) : Prop where
  b : X.b.ok
  id : X.id < 18446744073709551616
  win : X.win ≤ 2048
  code : X.code < 18446744073709551616
  fl : 5 ≤ X.st → X.fin ≤ X.lim
  hl : X.st < 5 → X.b.hi ≤ X.lim
  lw : X.lim ≤ X.b.rd + X.win
  st : X.st = 1 ∨ X.st = 2 ∨ X.st = 3 ∨ X.st = 4 ∨ X.st = 5 ∨ X.st = 6
  s1 : X.st = 1 → X.b.en = false
  s2 : X.st = 2 → X.b.en = true ∧ wholeB X.b = false
  du : X.due = true → X.st ≤ 2 ∧ X.asked = true
  sp : X.stop ≤ 4611686018427387903
  ef : X.b.en = true → X.b.hi ≤ X.b.fi
theorem qs0_ok (id win : Nat) (h : id < 18446744073709551616) : (qs0 id win).ok :=
  ⟨bs0_ok, h, Nat.min_le_right _ _, (by show 0 < _; omega), fun h => (by have h' : 5 ≤ 1 := h; omega), fun _ => Nat.zero_le _, (by show min win 2048 ≤ 0 + min win 2048; omega), .inl rfl, fun _ => rfl, fun h => (by have h' : 1 = 2 := h; omega), fun h => (by have h' : false = true := h; cases h'), (by show 0 ≤ _; omega), fun h => (by have h' : false = true := h; cases h')⟩
def highQ (X : QS) : Nat := if 5 ≤ X.st then X.fin else X.b.hi
def takenQ (X : QS) : Nat := if 5 ≤ X.st then X.fin else X.b.rd
/-- The state as what came tells it. -/
def settleQ (X : QS) : QS := if X.st ≤ 2 then (if wholeB X.b = true then { X with st := 3, due := false } else if X.b.en = true then { X with st := 2 } else X) else X
theorem settle_id {X : QS} (h : X.ok) : settleQ X = X := by
  unfold settleQ
  split
  · rename_i hle
    rcases h.st with e | e | e | e | e | e
    · have h1 := h.s1 e
      have h2 : wholeB X.b = false := by unfold wholeB; rw [h1]; rfl
      rw [h1, h2]
      rfl
    · have h1 := h.s2 e
      rw [h1.1, h1.2]
      simp
      rw [← e]
    all_goals omega
  · rfl
/-- On of a Stream frame: the error's number; what it is then. -/
def onSE (X : QS) (off n : Nat) (fin : Bool) : Int :=
  if X.lim < off + n then 23
  else if 5 ≤ X.st then (if X.fin < off + n ∨ (fin = true ∧ off + n ≠ X.fin) then 30 else 0)
  else addE X.b off n fin
def onSX (X : QS) (off : Nat) (bs : List Int) (fin : Bool) : QS := if onSE X off bs.length fin = 0 ∧ X.st < 5 then settleQ { X with b := addS X.b off bs fin } else X
/-- On of a Reset. -/
def onRE (X : QS) (f : Nat) : Int :=
  if X.lim < f then 23
  else if (if 5 ≤ X.st then f ≠ X.fin else (X.b.en = true ∧ f ≠ X.b.fi) ∨ f < X.b.hi) then 30 else 0
def onRX (X : QS) (f code : Nat) : QS := if onRE X f = 0 ∧ X.st ≤ 2 then { X with st := 5, code := code, fin := f, due := false } else X
/-- Read: is it the end, the code, the error's number, the bytes; what it is then. -/
structure RdQ where
  fl : Bool
  cd : Nat
  er : Int
  bs : List Int
def readQ (X : QS) (most : Int) : RdQ :=
  if X.st = 5 then ⟨false, X.code, 29, []⟩
  else if X.st = 4 ∨ X.st = 6 then ⟨false, 0, 24, []⟩
  else if min most.toNat (rdyS X.b) = 0 ∧ (X.b.en && decide (X.b.rd = X.b.fi)) = false then ⟨false, 0, 26, []⟩
  else ⟨X.b.en && decide (X.b.rd + min most.toNat (rdyS X.b) = X.b.fi), 0, 0, outB X.b.g X.b.rd (min most.toNat (rdyS X.b))⟩
def readX (X : QS) (most : Int) : QS :=
  if X.st = 5 then { X with st := 6 }
  else if X.st = 4 ∨ X.st = 6 then X
  else { X with b := takeS X.b (min most.toNat (rdyS X.b)), st := if (X.b.en && decide (X.b.rd + min most.toNat (rdyS X.b) = X.b.fi)) = true then 4 else X.st }
/-- Stop. -/
def haltE (X : QS) (code : Nat) : Int := if 2 < X.st ∨ X.asked = true then 24 else if 4611686018427387903 < code then 1 else 0
def haltX (X : QS) (code : Nat) : QS := if haltE X code = 0 then { X with asked := true, stop := code, due := true } else X
/-- Lost, of a frame by its kind, its stream, its limit. -/
def lostQ (X : QS) (k s l : Int) : QS :=
  if s = X.id then (if k = 5 then (if X.asked = true ∧ X.st ≤ 2 then { X with due := true } else X) else if k = 17 then (if l = X.lim then { X with again := true } else X) else X) else X
def nextX (X : QS) (k : Nat) : QS := if k = 1 then { X with due := false } else if k = 2 then { X with lim := X.b.rd + X.win, again := false } else X
section
variable {X : QS}
theorem addE_zero {S : BS} {off len : Nat} {fin : Bool} (h : addE S off len fin = 0) : off ≤ 1099511627776 ∧ len ≤ 512 ∧ off + len ≤ S.rd + 2048 := by
  unfold addE at h
  split at h
  · cases h
  · split at h
    · cases h
    · split at h
      · cases h
      · omega
theorem settleQ_st (X : QS) : (settleQ X).st = if X.st ≤ 2 then (if wholeB X.b = true then 3 else if X.b.en = true then 2 else X.st) else X.st := by
  unfold settleQ
  split
  · split
    · rfl
    · split <;> rfl
  · rfl
theorem settleQ_b (X : QS) : (settleQ X).b = X.b ∧ (settleQ X).id = X.id ∧ (settleQ X).win = X.win ∧ (settleQ X).lim = X.lim ∧ (settleQ X).code = X.code ∧ (settleQ X).fin = X.fin ∧ (settleQ X).asked = X.asked ∧ (settleQ X).stop = X.stop ∧ (settleQ X).again = X.again := by
  unfold settleQ
  split
  · split
    · exact ⟨rfl, rfl, rfl, rfl, rfl, rfl, rfl, rfl, rfl⟩
    · split <;> exact ⟨rfl, rfl, rfl, rfl, rfl, rfl, rfl, rfl, rfl⟩
  · exact ⟨rfl, rfl, rfl, rfl, rfl, rfl, rfl, rfl, rfl⟩
theorem settleQ_due (X : QS) : (settleQ X).due = (if X.st ≤ 2 ∧ wholeB X.b = true then false else X.due) := by
  by_cases h1 : X.st ≤ 2
  · by_cases h2 : wholeB X.b = true
    · unfold settleQ
      rw [if_pos h1, if_pos h2, if_pos ⟨h1, h2⟩]
    · rw [if_neg (fun h => h2 h.2)]
      unfold settleQ
      rw [if_pos h1, if_neg h2]
      split <;> rfl
  · rw [if_neg (fun h => h1 h.1)]
    unfold settleQ
    rw [if_neg h1]
theorem onSX_ok (h : X.ok) (off : Nat) (bs : List Int) (fin : Bool) (hb : Byt bs) : (onSX X off bs fin).ok := by
  unfold onSX
  split
  · rename_i hc
    obtain ⟨he, hst⟩ := hc
    unfold onSE at he
    split at he
    · cases he
    · rename_i hl
      rw [if_neg (by omega)] at he
      obtain ⟨e1, e2, e3⟩ := addE_zero he
      have ok1 := addS_ok h.b fin hb e1 e2 e3
      obtain ⟨q1, q2, q3, q4, q5, q6, q7, q8, q9⟩ := settleQ_b { X with b := addS X.b off bs fin }
      have qs := settleQ_st { X with b := addS X.b off bs fin }
      have qd := settleQ_due { X with b := addS X.b off bs fin }
      simp only at q1 q2 q3 q4 q5 q6 q7 q8 q9 qs qd
      have hst' := h.st
      refine ⟨?_, ?_, ?_, ?_, ?_, ?_, ?_, ?_, ?_, ?_, ?_, ?_, ?_⟩
      · rw [q1]; exact ok1
      · rw [q2]; exact h.id
      · rw [q3]; exact h.win
      · rw [q5]; exact h.code
      · intro h5
        exfalso
        rw [qs] at h5
        split at h5
        · split at h5
          · omega
          · split at h5 <;> omega
        · omega
      · intro _
        rw [q1, q4]
        show max X.b.hi (off + bs.length) ≤ X.lim
        have := h.hl hst
        omega
      · rw [q4, q1, q3]
        exact h.lw
      · rw [qs]
        split
        · split
          · omega
          · split <;> omega
        · omega
      · intro h1
        rw [qs] at h1
        rw [q1]
        split at h1
        · split at h1
          · omega
          · split at h1
            · omega
            · rename_i hn; simpa using hn
        · omega
      · intro h2
        rw [qs] at h2
        rw [q1]
        split at h2
        · split at h2
          · omega
          · rename_i hw
            have hw' : wholeB (addS X.b off bs fin) = false := by simpa using hw
            split at h2
            · rename_i he2; exact ⟨he2, hw'⟩
            · rename_i he2
              have := h.s2 h2
              have hen : (addS X.b off bs fin).en = (X.b.en || fin) := rfl
              rw [hen, this.1] at he2
              simp at he2
        · omega
      · intro hd
        rw [qd] at hd
        rw [q7]
        split at hd
        · cases hd
        · rename_i hn
          obtain ⟨d1, d2⟩ := h.du hd
          refine ⟨?_, d2⟩
          rw [qs, if_pos d1]
          split
          · rename_i hw; exact absurd ⟨d1, hw⟩ hn
          · split <;> omega
      · rw [q8]; exact h.sp
      · rw [q1]
        intro hen
        have hen' : (X.b.en || fin) = true := hen
        show max X.b.hi (off + bs.length) ≤ if fin = true then off + bs.length else X.b.fi
        unfold addE at he
        rw [if_neg (by omega)] at he
        split at he
        · cases he
        · rename_i hag
          have hef := h.ef
          cases hfi : fin <;> cases hee : X.b.en <;> rw [hfi, hee] at hag hen' <;> simp at hag hen' ⊢
          · have := hef hee; omega
          · omega
          · omega
  · exact h
theorem onRX_ok (h : X.ok) (f code : Nat) (hc : code < 18446744073709551616) : (onRX X f code).ok := by
  unfold onRX
  split
  · rename_i h1
    obtain ⟨he, hst⟩ := h1
    have hf : f ≤ X.lim := by
      unfold onRE at he
      split at he
      · cases he
      · omega
    exact ⟨h.b, h.id, h.win, hc, fun _ => hf, fun h5 => (by have h5' : 5 < 5 := h5; omega), h.lw, .inr (.inr (.inr (.inr (.inl rfl)))), fun h5 => (by have h5' : 5 = 1 := h5; omega), fun h5 => (by have h5' : 5 = 2 := h5; omega), fun hd => (by cases hd), h.sp, h.ef⟩
  · exact h
theorem readX_ok (h : X.ok) (most : Int) : (readX X most).ok := by
  have hst' := h.st
  unfold readX
  split
  · rename_i e
    exact ⟨h.b, h.id, h.win, h.code, fun _ => h.fl (by omega), fun h5 => (by have h5' : 6 < 5 := h5; omega), h.lw, .inr (.inr (.inr (.inr (.inr rfl)))), fun h5 => (by have h5' : 6 = 1 := h5; omega), fun h5 => (by have h5' : 6 = 2 := h5; omega), fun hd => (by have := h.du hd; omega), h.sp, h.ef⟩
  · split
    · exact h
    · rename_i e1 e2
      have hr := rdyS_is h.b
      have ok1 := takeS_ok h.b hr (Nat.min_le_right most.toNat (rdyS X.b))
      have hlw := h.lw
      have hst5 : X.st < 5 := by omega
      refine ⟨ok1, h.id, h.win, h.code, ?_, ?_, ?_, ?_, ?_, ?_, ?_, h.sp, h.ef⟩
      · intro h5
        have h5' : 5 ≤ (if (X.b.en && decide (X.b.rd + min most.toNat (rdyS X.b) = X.b.fi)) = true then 4 else X.st) := h5
        split at h5' <;> omega
      · exact fun _ => h.hl hst5
      · show X.lim ≤ X.b.rd + min most.toNat (rdyS X.b) + X.win
        omega
      · show (if (X.b.en && decide (X.b.rd + min most.toNat (rdyS X.b) = X.b.fi)) = true then 4 else X.st) = 1 ∨ (if (X.b.en && decide (X.b.rd + min most.toNat (rdyS X.b) = X.b.fi)) = true then 4 else X.st) = 2 ∨ (if (X.b.en && decide (X.b.rd + min most.toNat (rdyS X.b) = X.b.fi)) = true then 4 else X.st) = 3 ∨ (if (X.b.en && decide (X.b.rd + min most.toNat (rdyS X.b) = X.b.fi)) = true then 4 else X.st) = 4 ∨ (if (X.b.en && decide (X.b.rd + min most.toNat (rdyS X.b) = X.b.fi)) = true then 4 else X.st) = 5 ∨ (if (X.b.en && decide (X.b.rd + min most.toNat (rdyS X.b) = X.b.fi)) = true then 4 else X.st) = 6
        split <;> omega
      · intro h1
        have h1' : (if (X.b.en && decide (X.b.rd + min most.toNat (rdyS X.b) = X.b.fi)) = true then 4 else X.st) = 1 := h1
        split at h1'
        · omega
        · exact h.s1 h1'
      · intro h2
        have h2' : (if (X.b.en && decide (X.b.rd + min most.toNat (rdyS X.b) = X.b.fi)) = true then 4 else X.st) = 2 := h2
        split at h2'
        · omega
        · obtain ⟨a, b⟩ := h.s2 h2'
          refine ⟨a, ?_⟩
          have hk : IsR (takeS X.b (min most.toNat (rdyS X.b))).g (takeS X.b (min most.toNat (rdyS X.b))).rd (rdyS X.b - min most.toNat (rdyS X.b)) := by
            refine ⟨fun i hi => ?_, ?_⟩
            · show (X.b.g (X.b.rd + min most.toNat (rdyS X.b) + i)).isSome = true
              rw [Nat.add_assoc]
              exact hr.1 _ (by omega)
            · show X.b.g (X.b.rd + min most.toNat (rdyS X.b) + (rdyS X.b - min most.toNat (rdyS X.b))) = none
              rw [Nat.add_assoc, Nat.add_sub_cancel' (Nat.min_le_right _ _)]
              exact hr.2
          have hrd := rdyS_eq ok1 hk
          unfold wholeB at b ⊢
          rw [hrd]
          show (X.b.en && decide (X.b.rd + min most.toNat (rdyS X.b) + (rdyS X.b - min most.toNat (rdyS X.b)) = X.b.fi)) = false
          rw [Nat.add_assoc, Nat.add_sub_cancel' (Nat.min_le_right _ _)]
          exact b
      · intro hd
        have := h.du hd
        obtain ⟨d1, d2⟩ := this
        refine ⟨?_, d2⟩
        show (if (X.b.en && decide (X.b.rd + min most.toNat (rdyS X.b) = X.b.fi)) = true then 4 else X.st) ≤ 2
        split
        · rename_i hw
          exfalso
          have hen : X.b.en = true := by simp at hw; exact hw.1
          have hrf : X.b.rd + min most.toNat (rdyS X.b) = X.b.fi := by simp at hw; exact hw.2
          rcases hst' with e | e | e | e | e | e
          · have := h.s1 e; rw [hen] at this; cases this
          · have := (h.s2 e).2
            unfold wholeB at this
            rw [hen] at this
            simp at this
            have hle := hr.le h.b
            have hef := h.ef hen
            omega
          all_goals omega
        · exact d1
theorem haltX_ok (h : X.ok) (code : Nat) : (haltX X code).ok := by
  unfold haltX
  split
  · rename_i he
    unfold haltE at he
    split at he
    · cases he
    · rename_i h1
      split at he
      · cases he
      · exact ⟨h.b, h.id, h.win, h.code, h.fl, h.hl, h.lw, h.st, h.s1, h.s2, fun _ => ⟨by show X.st ≤ 2; omega, rfl⟩, (by show code ≤ _; omega), h.ef⟩
  · exact h
theorem lostQ_ok (h : X.ok) (k s l : Int) : (lostQ X k s l).ok := by
  unfold lostQ
  split
  · split
    · split
      · rename_i h1
        exact ⟨h.b, h.id, h.win, h.code, h.fl, h.hl, h.lw, h.st, h.s1, h.s2, fun _ => ⟨h1.2, h1.1⟩, h.sp, h.ef⟩
      · exact h
    · split
      · split
        · exact ⟨h.b, h.id, h.win, h.code, h.fl, h.hl, h.lw, h.st, h.s1, h.s2, h.du, h.sp, h.ef⟩
        · exact h
      · exact h
  · exact h
end
end
section
set_option linter.unusedVariables false
set_option linter.unusedSimpArgs false
open Go.RowKit
set_option maxHeartbeats 4000000 in
set_option maxRecDepth 100000 in
theorem iready_any (base p : Nat) (O : Nat → Prop) (S : BS) (w : World) (h : Bf w base p O S) (hok : S.ok) (k : Nat) (hk : IsR S.g S.rd k) :
    Calls Tryz.prog 47 #[.pointer (some ⟨p, 0, none⟩)] w fun e w' => e = .returned (.int .i64 k) ∧ Below w.heap.size w w' := by
  obtain ⟨ps, vs, vw, l, W, _, hc⟩ := h
  have h0 := hc.c0
  have h1 := hc.c1
  have h4 := hc.c4
  have hG := Lib.hid (fun X (hX : Below w.heap.size w X) => gap_any' base ps 2048 vs l X (hc.set_.below hX) (by have := hc.pm.len; omega) hc.pm.gd S.rd S.hi)
  have HP : Hid (p < w.heap.size) := Lib.hid hc.at_.lt
  have hrd : S.rd ≤ 1099511628288 := by have := hok.rh; have := hok.hm; omega
  have hhi : S.hi ≤ 1099511628288 := hok.hm
  have hrh := hok.rh
  rcases gap_cases hc.pm.gd S.rd S.hi with ⟨hV, hall⟩ | ⟨a, e, hV, hfa, hae, heE, hall, hnone⟩
  · rw [hV] at hG
    have hkk : S.hi - S.rd = k := IsR.uniq ⟨fun i hi => by rw [← hc.pm.has _ (by omega)]; exact hall _ (by omega) (by omega), by rw [show S.rd + (S.hi - S.rd) = S.hi by omega]; exact hok.no _ (Nat.le_refl _)⟩ hk
    have hz : (S.hi : Int) - (S.rd : Int) = (k : Int) := by omega
    have hkb : k ≤ 1099511628288 := by omega
    clear hall hV hc hok hk
    have hX1 : Below w.heap.size w (w.alloc (.cells #[.int .u64 0, .int .u64 0] 81)).drew := ((Below.refl _ w).alloc (Nat.le_refl _) _).drew
    have hX0 : Below w.heap.size w w.drew := (Below.refl _ w).drew
    have hN1 : At (w.alloc (.cells #[.int .u64 0, .int .u64 0] 81)).drew w.heap.size 81 [.int .u64 0, .int .u64 0] := At.new w _ _
    have HG1 := Lib.hid (hG.out _ hX1)
    have HG0 := Lib.hid (hG.out _ hX0)
    have HX := Lib.hid (And.intro hX0 hX1)
    have HN := Lib.hid hN1
    clear hX0 hX1 hN1 hG
    have KEEP : Hid (∀ W, Below w.heap.size w W → Below w.heap.size w W ∧ W.cell? ⟨p, 4, none⟩ = some (.pointer (some ⟨ps, 0, none⟩)) ∧ W.cell? ⟨p, 0, none⟩ = some (.int .u64 S.rd)) := Lib.hid (fun W hW => ⟨hW, (hW.cell (p := ⟨p, 4, none⟩) HP.out).trans h4, (hW.cell (p := ⟨p, 0, none⟩) HP.out).trans h0⟩)
    go_enter Tryz.func47, Tryz.ntmps47
    go_wp2
    go_region_held3 (fun W => Below w.heap.size w W ∧ W.cell? ⟨p, 4, none⟩ = some (.pointer (some ⟨ps, 0, none⟩)) ∧ W.cell? ⟨p, 0, none⟩ = some (.int .u64 S.rd)) (first | exact ⟨(Below.refl _ w).drew, h4, h0⟩ | exact ⟨((Below.refl _ w).drew.alloc (Nat.le_refl _) _), (World.cell?_alloc_lt _ _ _ HP.out).trans h4, (World.cell?_alloc_lt _ _ _ HP.out).trans h0⟩ | exact KEEP.out _ HB.out | exact KEEP.out _ (HB.out.alloc HB.out.size _) | exact KEEP.out _ ((HB.out.setCell (Nat.le_refl _) _).setCell (Nat.le_refl _) _)) ((go_at_call 63; first | ((with_reducible refine HG0.out.mono ?_); rintro e w2 ⟨rfl, hB2⟩; have HB := Lib.hid (HX.out.1.trans hB2); clear hB2) | ((with_reducible refine HG1.out.mono ?_); rintro e w2 ⟨rfl, hB2⟩; have hA2 := HN.out.below hB2 (by simp); have d0 := hA2.cell 0; have d1 := hA2.cell 1; have f0 := hA2.frozen 0; have f1 := hA2.frozen 1; simp at d0 d1; have HB := Lib.hid (HX.out.2.trans (hB2.mono HX.out.2.size)); clear hB2 hA2)))
    all_goals go_wp2
    all_goals go_ret
    all_goals (refine ⟨by first | rfl | simp [hz], ?_⟩; first | exact HB.out | exact HB.out.alloc HB.out.size _ | exact (HB.out.setCell (Nat.le_refl _) _).setCell (Nat.le_refl _) _ | exact HB.out.setCell (Nat.le_refl _) _)
  · rw [hV] at hG
    have hkk : a - S.rd = k := IsR.uniq ⟨fun i hi => by rw [← hc.pm.has _ (by omega)]; exact hall _ (by omega) (by omega), by
      have := hnone a (Nat.le_refl _) hae
      rw [hc.pm.has _ (by omega)] at this
      rw [show S.rd + (a - S.rd) = a by omega]
      cases hq : S.g a with
      | none => rfl
      | some x => rw [hq] at this; cases this⟩ hk
    have hz : (a : Int) - (S.rd : Int) = (k : Int) := by omega
    have hkb : k ≤ 1099511628288 := by omega
    clear hall hV hc hok hk hnone
    have hX1 : Below w.heap.size w (w.alloc (.cells #[.int .u64 0, .int .u64 0] 81)).drew := ((Below.refl _ w).alloc (Nat.le_refl _) _).drew
    have hX0 : Below w.heap.size w w.drew := (Below.refl _ w).drew
    have hN1 : At (w.alloc (.cells #[.int .u64 0, .int .u64 0] 81)).drew w.heap.size 81 [.int .u64 0, .int .u64 0] := At.new w _ _
    have HG1 := Lib.hid (hG.out _ hX1)
    have HG0 := Lib.hid (hG.out _ hX0)
    have HX := Lib.hid (And.intro hX0 hX1)
    have HN := Lib.hid hN1
    clear hX0 hX1 hN1 hG
    have KEEP : Hid (∀ W, Below w.heap.size w W → Below w.heap.size w W ∧ W.cell? ⟨p, 4, none⟩ = some (.pointer (some ⟨ps, 0, none⟩)) ∧ W.cell? ⟨p, 0, none⟩ = some (.int .u64 S.rd)) := Lib.hid (fun W hW => ⟨hW, (hW.cell (p := ⟨p, 4, none⟩) HP.out).trans h4, (hW.cell (p := ⟨p, 0, none⟩) HP.out).trans h0⟩)
    go_enter Tryz.func47, Tryz.ntmps47
    go_wp2
    go_region_held3 (fun W => Below w.heap.size w W ∧ W.cell? ⟨p, 4, none⟩ = some (.pointer (some ⟨ps, 0, none⟩)) ∧ W.cell? ⟨p, 0, none⟩ = some (.int .u64 S.rd)) (first | exact ⟨(Below.refl _ w).drew, h4, h0⟩ | exact ⟨((Below.refl _ w).drew.alloc (Nat.le_refl _) _), (World.cell?_alloc_lt _ _ _ HP.out).trans h4, (World.cell?_alloc_lt _ _ _ HP.out).trans h0⟩ | exact KEEP.out _ HB.out | exact KEEP.out _ (HB.out.alloc HB.out.size _) | exact KEEP.out _ ((HB.out.setCell (Nat.le_refl _) _).setCell (Nat.le_refl _) _)) ((go_at_call 63; first | ((with_reducible refine HG0.out.mono ?_); rintro e w2 ⟨rfl, hB2⟩; have HB := Lib.hid (HX.out.1.trans hB2); clear hB2) | ((with_reducible refine HG1.out.mono ?_); rintro e w2 ⟨rfl, hB2⟩; have hA2 := HN.out.below hB2 (by simp); have d0 := hA2.cell 0; have d1 := hA2.cell 1; have f0 := hA2.frozen 0; have f1 := hA2.frozen 1; simp at d0 d1; have HB := Lib.hid (HX.out.2.trans (hB2.mono HX.out.2.size)); clear hB2 hA2)))
    all_goals go_wp2
    all_goals go_ret
    all_goals (refine ⟨by first | rfl | simp [hz], ?_⟩; first | exact HB.out | exact HB.out.alloc HB.out.size _ | exact (HB.out.setCell (Nat.le_refl _) _).setCell (Nat.le_refl _) _ | exact HB.out.setCell (Nat.le_refl _) _)
set_option maxHeartbeats 4000000 in
set_option maxRecDepth 100000 in
theorem iwhole_any (base p : Nat) (O : Nat → Prop) (S : BS) (w : World) (h : Bf w base p O S) (hok : S.ok) (k : Nat) (hk : IsR S.g S.rd k) :
    Calls Tryz.prog 82 #[.pointer (some ⟨p, 0, none⟩)] w fun e w' => e = .returned (.bool (S.en && decide (S.rd + k = S.fi))) ∧ Below w.heap.size w w' := by
  have HR := Lib.hid (fun X (hX : Below w.heap.size w X) => iready_any base p O S X (h.below hX) hok k hk)
  obtain ⟨ps, vs, vw, l, W, _, hc⟩ := h
  have h0 := hc.c0
  have h2 := hc.c2
  have h3 := hc.c3
  have HP : Hid (p < w.heap.size) := Lib.hid hc.at_.lt
  have hkb := hk.le hok
  have hhi := hok.hm
  clear hok hk hc
  obtain ⟨rd, hi, fi, en, g⟩ := S
  simp only at *
  cases en
  · go_enter Tryz.func82, Tryz.ntmps82
    go_wp2
    go_quiet (fail)
    go_wp2
    go_ret
    exact ⟨rfl, ⟨rfl, rfl, rfl, Nat.le_refl _, fun _ _ => rfl⟩⟩
  · have KEEP : Hid (∀ W, Below w.heap.size w W → Below w.heap.size w W ∧ W.cell? ⟨p, 0, none⟩ = some (.int .u64 rd) ∧ W.cell? ⟨p, 2, none⟩ = some (.int .u64 fi) ∧ W.cell? ⟨p, 3, none⟩ = some (.bool true)) := Lib.hid (fun W hW => ⟨hW, (hW.cell (p := ⟨p, 0, none⟩) HP.out).trans h0, (hW.cell (p := ⟨p, 2, none⟩) HP.out).trans h2, (hW.cell (p := ⟨p, 3, none⟩) HP.out).trans h3⟩)
    have HX0 : Hid (Below w.heap.size w w.drew) := Lib.hid (Below.refl _ w).drew
    have HR0 := Lib.hid (HR.out _ HX0.out)
    have hww : Hid (IntKind.u64.wrap ((rd : Int) + IntKind.u64.wrap (k : Int)) = ((rd + k : Nat) : Int)) := Lib.hid (by rw [IntKind.wrap_u64, IntKind.wrap_u64]; omega)
    have hrk : (rd : Int) + (k : Int) = ((rd + k : Nat) : Int) := by omega
    have hkb2 : rd + k ≤ 1099511628288 := by omega
    have hQ : Hid (∀ b : Bool, b = decide (rd + k = fi) → (Ending.returned (.bool b) = .returned (.bool (true && decide (rd + k = fi))))) := Lib.hid (fun b h => by rw [h, Bool.true_and])
    go_enter Tryz.func82, Tryz.ntmps82
    go_wp2
    go_region_held3 (fun W => Below w.heap.size w W ∧ W.cell? ⟨p, 0, none⟩ = some (.int .u64 rd) ∧ W.cell? ⟨p, 2, none⟩ = some (.int .u64 fi) ∧ W.cell? ⟨p, 3, none⟩ = some (.bool true)) (first | exact KEEP.out _ HX0.out | exact KEEP.out _ HB.out) ((go_at_call 47; (with_reducible refine HR0.out.mono ?_); rintro e w2 ⟨rfl, hB2⟩; have HB := Lib.hid (HX0.out.trans hB2); clear hB2))
    all_goals go_wp2
    all_goals go_ret
    all_goals (refine ⟨hQ.out _ ?_, HB.out⟩)
    all_goals (first | rw [hww.out] | skip)
    all_goals (rw [Bool.eq_iff_iff]; simp; try omega)
end
section
set_option linter.unusedVariables false
set_option linter.unusedSimpArgs false
open Go.RowKit
/-- What Take leaves. -/
def TPost (base p : Nat) (O : Nat → Prop) (S : BS) (n : Nat) (w : World) (e : Ending) (w' : World) : Prop :=
  ∃ v, e = .returned (.tuple #[v, .bool (S.en && decide (S.rd + n = S.fi))]) ∧ Own w' w.heap.size 5 v (outB S.g S.rd n) ∧ ∃ O', Bf w' base p O' (takeS S n) ∧ Kept O w w' ∧ ∀ j, O' j → O j ∨ w.heap.size ≤ j
theorem take_fin {w w1 w2 w3 Y w5 : World} {base p ps n k : Nat} {vs vw v v' r : Value} {e : Ending} {l : RL} {W : List Int} {S : BS} (hc : Bc w base p ps vs vw l W S) (hk : IsR S.g S.rd k) (hn : n ≤ k)
    (h1 : Below w.heap.size w w1) (h2 : Below w1.heap.size w1 w2) (hv : Own w2 w1.heap.size 5 v (W.take n)) (h3 : Own w3 base 5 v' (W.drop n)) (k3 : Kept (fun b => vw.ownBlock = some b) w2 w3)
    (ho : ∀ j, v'.ownBlock = some j → vw.ownBlock = some j) (hY : Y = (w3.setCell ⟨p, 5, none⟩ v').drew) (hA : SetPost r base ps 2048 vs (cutL l S.rd (S.rd + n : Nat) 2048) Y e w5) :
    Own (w5.setCell ⟨p, 0, none⟩ (.int .u64 (S.rd + n : Nat))) w.heap.size 5 v (outB S.g S.rd n) ∧ ∃ O', Bf (w5.setCell ⟨p, 0, none⟩ (.int .u64 (S.rd + n : Nat))) base p O' (takeS S n) ∧ Kept (bO p ps vs vw) w (w5.setCell ⟨p, 0, none⟩ (.int .u64 (S.rd + n : Nat))) ∧ ∀ j, O' j → bO p ps vs vw j ∨ w.heap.size ≤ j := by
  obtain ⟨_, vs', hs', k6, hvs⟩ := hA
  have hl := hc.lt
  have hp := (hl p (.inl rfl)).2
  have hps := (hl ps (.inr (.inl rfl))).2
  have b2 : Below w.heap.size w w2 := h1.trans (h2.mono h1.size)
  have n3 : v'.ownBlock ≠ some p := fun e => hc.n3 (ho p e)
  have n4 : v'.ownBlock ≠ some ps := fun e => hc.n4 (ho ps e)
  have n5 : ∀ k, vs.ownBlock = some k → v'.ownBlock ≠ some k := fun k hk e => hc.n5 k hk (ho k e)
  have kY : Kept (fun b => b = p ∨ vw.ownBlock = some b) w2 Y := by
    rw [hY]
    exact ((k3.mono fun j hj => .inl (.inr hj)).setCell (.inl (.inl rfl)) _).drew
  have c2 := hc.kept (Kept.of_below b2 (fun _ => False)) (fun _ _ h => h)
  have aY : At Y p 74 [.int .u64 S.rd, .int .u64 S.hi, .int .u64 S.fi, .bool S.en, .pointer (some ⟨ps, 0, none⟩), v'] := by
    rw [hY]
    exact ((c2.at_.kept k3 hc.n3).set 5 v').drew
  have oY : Own Y base 5 v' (W.drop n) := by
    rw [hY]
    exact (h3.keep fun j hj => Below.heap_setCell _ _ _ _ (by rintro rfl; exact n3 hj)).drew
  have bv := hv.block_lt
  have vY : Own Y w1.heap.size 5 v (W.take n) := hv.kept kY fun j hj e => by
    have := (bv j hj).1
    have := h1.size
    rcases e with rfl | e
    · omega
    · have := (hl j (.inr (.inr (.inr e)))).2; omega
  have bY : w2.heap.size ≤ Y.heap.size := kY.size
  have b2s := b2.size
  have a5 : At w5 p 74 _ := aY.kept k6 fun e => e.elim hc.n1 fun e => hc.n2 e
  have o5 : Own w5 base 5 v' (W.drop n) := oY.kept k6 fun j hj e => e.elim (fun e => n4 (by rw [hj, e])) fun e => n5 j e hj
  have v5 : Own w5 w1.heap.size 5 v (W.take n) := vY.kept k6 fun j hj e => by
    have := (bv j hj).1
    have := h1.size
    rcases e with rfl | e
    · omega
    · have := (hl j (.inr (.inr (.inl e)))).2; omega
  have vs'p : vs'.ownBlock ≠ some p := fun e => (hvs p e).elim hc.n2 fun h => by omega
  have kZ : Kept (fun b => b = p) w5 (w5.setCell ⟨p, 0, none⟩ (.int .u64 (S.rd + n : Nat))) := (Kept.refl (fun b => b = p) w5).setCell (p := ⟨p, 0, none⟩) (.inl rfl) _
  refine ⟨?_, _, ⟨ps, vs', v', _, W.drop n, rfl, ⟨a5.set 0 (.int .u64 (S.rd + n : Nat)), hs'.kept kZ (fun e => hc.n1 e.symm) (fun j hj e => vs'p (by rw [hj, e])), o5.kept kZ (fun j hj e => n3 (by rw [hj, e])), hc.n1, vs'p, n3, n4, ?_, hc.bp, pm_cut hc.pm hk hn⟩⟩, ?_, ?_⟩
  · rw [← pm_out hc.pm hk hn]
    refine (v5.kept kZ fun j hj e => ?_).base_ h1.size
    have := (bv j hj).1
    have := h1.size
    omega
  · intro j hj e
    rcases hvs j hj with h | h
    · exact n5 j h e
    · have := (hl j (.inr (.inr (.inr (ho j e))))).2; omega
  · refine (((Kept.of_below b2 (bO p ps vs vw)).trans' kY fun j hj => ?_).trans' k6 fun j hj => ?_).trans' kZ fun j hj => .inl (.inl hj)
    · exact .inl (hj.elim .inl fun h => .inr (.inr (.inr h)))
    · exact .inl (hj.elim (fun h => .inr (.inl h)) fun h => .inr (.inr (.inl h)))
  · rintro j (rfl | rfl | hj | hj)
    · exact .inl (.inl rfl)
    · exact .inl (.inr (.inl rfl))
    · rcases hvs j hj with h | h
      · exact .inl (.inr (.inr (.inl h)))
      · exact .inr (by omega)
    · exact .inl (.inr (.inr (.inr (ho j hj))))
set_option maxHeartbeats 8000000 in
set_option maxRecDepth 100000 in
theorem itake_any (base p : Nat) (O : Nat → Prop) (S : BS) (most : Int) (w : World) (h : Bf w base p O S) (hok : S.ok) (hb : base ≤ w.heap.size) (hm : -9223372036854775808 ≤ most ∧ most < 9223372036854775808) (k : Nat) (hk : IsR S.g S.rd k) :
    Calls Tryz.prog 30 #[.pointer (some ⟨p, 0, none⟩), .int .i64 most] w (TPost base p O S (min most.toNat k) w) := by
  have HRY := Lib.hid (iready_any base p O S w h hok k hk)
  obtain ⟨ps, vs, vw, l, W, rfl, hc⟩ := h
  have hkw := pm_ready_le hc.pm hk
  have hkh := hk.le hok
  have hhi := hok.hm
  have hwl := hc.pm.wl
  obtain ⟨n, hn⟩ : ∃ n, n = min most.toNat k := ⟨_, rfl⟩
  have hnk : n ≤ k := by omega
  rw [← hn]
  obtain ⟨M, hM⟩ : ∃ M : Int, (if most < 0 then 0 else most) = M := ⟨_, rfl⟩
  have hMn : (if (k : Int) < M then (k : Int) else M) = (n : Int) := by
    rw [← hM, hn]
    split <;> split at * <;> omega
  clear hn
  have h0 := hc.c0
  have h2 := hc.c2
  have h3 := hc.c3
  have h5 := hc.c5
  have HC := Lib.hid hc
  have HK := Lib.hid hk
  have hnW : n ≤ W.length := by omega
  obtain ⟨A, c, e1, hnc, hcm, ho⟩ := ow_open (own_ow hc.own)
  rw [List.length_map] at e1 hnc ho
  subst e1
  have hA : A = none → c = 0 := by
    rintro rfl
    rcases ho with ⟨_, h, _⟩ | ⟨g, cur, h, _⟩
    · exact h
    · cases h
  obtain ⟨_, _, e2, _, _, hrd0⟩ := hc.own.open_
  injection e2 with e3 _ e4
  subst e3; subst e4
  have HRD : Hid (∀ w1, Below w.heap.size w w1 → Rd w1 w1.heap.size A n (W.take n)) := Lib.hid (fun w1 hB => ((hrd0.cutTo hnW).below hB).more hB.size)
  have HOW : Hid (∀ w2, Below w.heap.size w w2 → Own w2 base 5 (.slice A W.length c) W) := Lib.hid (fun w2 hB => hc.own.below hB (Nat.le_refl _))
  have HAT : Hid (∀ w2, Below w.heap.size w w2 → At w2 p 74 [.int .u64 S.rd, .int .u64 S.hi, .int .u64 S.fi, .bool S.en, .pointer (some ⟨ps, 0, none⟩), .slice A W.length c]) := Lib.hid (fun w2 hB => hc.at_.below hB hc.at_.lt)
  have HCL : Hid (∀ w1, Below w.heap.size w w1 → Calls Tryz.prog 48 #[.slice A n c] w1 fun e w' => ∃ v, e = .returned v ∧ Own w' w1.heap.size 5 v (W.take n) ∧ Below w1.heap.size w1 w') := Lib.hid (fun w1 hB => clone8 A n c _ w1 (HRD.out w1 hB) (by omega) hA)
  have HDE : Hid (∀ w2, Below w.heap.size w w2 → Calls Tryz.prog 49 #[.slice A W.length c, .int .i64 0, .int .i64 n] w2 fun e w' => ∃ v', e = .returned v' ∧ Own w' base 5 v' (W.drop n) ∧ Kept (fun b => (Value.slice A W.length c).ownBlock = some b) w2 w' ∧ ∀ j, v'.ownBlock = some j → (Value.slice A W.length c).ownBlock = some j) := Lib.hid (fun w2 hB => del8 base _ W n w2 (HOW.out w2 hB) hnW (by omega) (Nat.le_trans hb hB.size))
  have HCUT : Hid (∀ Y, SetV Y base ps 2048 vs l → base ≤ Y.heap.size → Calls Tryz.prog 50 #[.pointer (some ⟨ps, 0, none⟩), .int .u64 S.rd, .int .u64 (S.rd + n : Nat)] Y (SetPost (.tuple #[]) base ps 2048 vs (cutL l S.rd (S.rd + n : Nat) 2048) Y)) := Lib.hid (fun Y hs hbY => cut_any' base ps 2048 vs l Y hs (by have := hc.pm.len; omega) hc.pm.gd hbY (by omega) S.rd (S.rd + n : Nat) (by omega) (by omega))
  have HSY : Hid (∀ w1 w2 w3 v', Below w.heap.size w w1 → Below w1.heap.size w1 w2 → Kept (fun b => (Value.slice A W.length c).ownBlock = some b) w2 w3 → SetV (w3.setCell ⟨p, 5, none⟩ v').drew base ps 2048 vs l ∧ base ≤ (w3.setCell ⟨p, 5, none⟩ v').drew.heap.size) := Lib.hid (fun w1 w2 w3 v' b1 b2 k3 => by
    have b := b1.trans (b2.mono b1.size)
    have hs2 : SetV w2 base ps 2048 vs l := hc.set_.kept (Kept.of_below b (fun _ => False)) (fun h => h) (fun _ _ h => h)
    have hs3 := hs2.kept k3 hc.n4 (fun j hj => hc.n5 j hj)
    refine ⟨hs3.kept (((Kept.refl (fun b => b = p) w3).setCell (p := ⟨p, 5, none⟩) (.inl rfl) v').drew) (fun e => hc.n1 e.symm) (fun j hj e => hc.n2 (by rw [hj, e])), ?_⟩
    have := b.size
    have := k3.size
    show base ≤ (w3.setCell _ _).heap.size
    simp only [World.setCell, Array.size_modify]
    omega)
  have hwl' : W.length ≤ 2048 := hwl
  have hcm' : c ≤ 9223372036854775807 := by unfold maxLen at hcm; omega
  have hrn : (S.rd : Int) + (n : Int) = ((S.rd + n : Nat) : Int) := by omega
  have hrnb : S.rd + n ≤ 1099511628288 := by omega
  have hrd : S.rd ≤ 1099511628288 := by omega
  have hnc2 : n ≤ c := by omega
  have HQ : Hid (∀ b : Bool, b = (S.en && decide (S.rd + n = S.fi)) → ∀ (v : Value) (Z : World), Own Z w.heap.size 5 v (outB S.g S.rd n) → (∃ O', Bf Z base p O' (takeS S n) ∧ Kept (bO p ps vs (.slice A W.length c)) w Z ∧ ∀ j, O' j → bO p ps vs (.slice A W.length c) j ∨ w.heap.size ≤ j) → ∀ d, TPost base p (bO p ps vs (.slice A W.length c)) S n w (.returned (.tuple #[v, .bool b])) (Z.drewN d)) := Lib.hid (fun b hb v Z ho hf d => by
    obtain ⟨O', f1, f2, f3⟩ := hf
    rw [hb]
    exact ⟨v, rfl, ho.keep (fun _ _ => rfl), O', f1.drewN d, f2.drewN d, f3⟩)
  have hp := hc.at_.lt
  clear hc hk hrd0 ho hA
  generalize hmW : W.length = m at *
  have HMW := Lib.hid hmW
  clear hmW
  obtain ⟨R, hR⟩ : ∃ R, R = S.rd + n := ⟨_, rfl⟩
  have HR := Lib.hid hR
  rw [← hR] at hrn hrnb HCUT HQ
  clear hR
  obtain ⟨N3, hN3⟩ : ∃ N3, (W.drop n).length = N3 := ⟨_, rfl⟩
  have HL3 := Lib.hid hN3
  clear hN3
  have hwn : IntKind.u64.wrap (n : Int) = (n : Int) := by rw [IntKind.wrap_u64]; omega
  have hwR : IntKind.u64.wrap (R : Int) = (R : Int) := by rw [IntKind.wrap_u64]; omega
  go_enter Tryz.func30, Tryz.ntmps30
  go_wp2_with (first
    | (go_at_call 47; (with_reducible refine HRY.out.mono ?_); rintro e w1 ⟨rfl, hB1⟩; have HB1 := Lib.hid hB1; have g5 : w1.cell? ⟨p, 5, none⟩ = some (.slice A m c) := (by rw [(HAT.out w1 hB1).cell]; rfl); have HC1 := Lib.hid (HCL.out w1 hB1); clear hB1)
    | (go_at_call 48; (with_reducible refine HC1.out.mono ?_); rintro e w2 ⟨v, rfl, hv2, hB2⟩; have HV2 := Lib.hid hv2; have HB2 := Lib.hid hB2; have HB12 := Lib.hid (HB1.out.trans (hB2.mono HB1.out.size)); have HD2 := Lib.hid (HDE.out w2 HB12.out); have g5 : w2.cell? ⟨p, 5, none⟩ = some (.slice A m c) := (by rw [(HAT.out w2 HB12.out).cell]; rfl); clear hv2 hB2)
    | (go_at_call 49; (with_reducible refine HD2.out.mono ?_); rintro e w3 ⟨v', rfl, hO3, hk3, hn3⟩; obtain ⟨A3, c3, rfl, _, _, _⟩ := hO3.open_n N3 HL3.out; have ha3 := (HAT.out w2 HB12.out).kept hk3 HC.out.n3; have g5 : w3.cell? ⟨p, 5, none⟩ = some (.slice A m c) := (by rw [ha3.cell]; rfl); have f5 := ha3.frozen 5; have HO3 := Lib.hid hO3; have HK3 := Lib.hid hk3; have HN3 := Lib.hid hn3; have HA3 := Lib.hid (ha3.set 5 (.slice A3 N3 c3)); clear hO3 hk3 hn3 ha3))
  have hSY := HSY.out w1 w2 w3 (.slice A3 N3 c3) HB1.out HB2.out HK3.out
  have HCY := Lib.hid (HCUT.out _ hSY.1 hSY.2)
  have HAX : Hid (At (w3.setCell ⟨p, 5, none⟩ (.slice A3 N3 c3)) p 74 [.int .u64 S.rd, .int .u64 S.hi, .int .u64 S.fi, .bool S.en, .pointer (some ⟨ps, 0, none⟩), .slice A3 N3 c3]) := HA3
  have HFIN : Hid (∀ e w5, SetPost (.tuple #[]) base ps 2048 vs (cutL l S.rd R 2048) (w3.setCell ⟨p, 5, none⟩ (.slice A3 N3 c3)).drew e w5 → (Own (w5.setCell ⟨p, 0, none⟩ (.int .u64 R)) w.heap.size 5 v (outB S.g S.rd n) ∧ ∃ O', Bf (w5.setCell ⟨p, 0, none⟩ (.int .u64 R)) base p O' (takeS S n) ∧ Kept (bO p ps vs (.slice A m c)) w (w5.setCell ⟨p, 0, none⟩ (.int .u64 R)) ∧ ∀ j, O' j → bO p ps vs (.slice A m c) j ∨ w.heap.size ≤ j) ∧ At w5 p 74 [.int .u64 S.rd, .int .u64 S.hi, .int .u64 S.fi, .bool S.en, .pointer (some ⟨ps, 0, none⟩), .slice A3 N3 c3]) := Lib.hid (fun e w5 hP => by
    refine ⟨?_, ?_⟩
    · rw [HR.out] at hP ⊢
      exact take_fin HC.out HK.out hnk HB1.out HB2.out HV2.out HO3.out HK3.out HN3.out rfl hP
    · obtain ⟨_, _, _, k6, _⟩ := hP
      exact HAX.out.drew.kept k6 fun e => e.elim HC.out.n1 fun e => HC.out.n2 e)
  have q0 : (w3.setCell ⟨p, 5, none⟩ (.slice A3 N3 c3)).cell? ⟨p, 0, none⟩ = some (.int .u64 S.rd) := by rw [HAX.out.cell]; rfl
  have q4 : (w3.setCell ⟨p, 5, none⟩ (.slice A3 N3 c3)).cell? ⟨p, 4, none⟩ = some (.pointer (some ⟨ps, 0, none⟩)) := by rw [HAX.out.cell]; rfl
  clear hSY HSY HCUT HCL HDE HA3 HAX f5 g5
  generalize hX : w3.setCell ⟨p, 5, none⟩ (.slice A3 N3 c3) = X at *
  clear hX
  go_still_tail 15, (by kernel_rfl)
  change wpList _ _ _ _ _ (World.drew X)
  generalize World.drew X = Y at HCY HFIN ⊢
  go_wp2_with (go_at_call 50; (with_reducible refine HCY.out.mono ?_); intro e w5 hP; obtain ⟨hf, ha5⟩ := HFIN.out e w5 hP; have HF := Lib.hid hf; have r0 : w5.cell? ⟨p, 0, none⟩ = some (.int .u64 S.rd) := (by rw [ha5.cell]; rfl); have s0 := ha5.frozen 0; have HA6 := Lib.hid (ha5.set 0 (.int .u64 R)); obtain ⟨rfl, _⟩ := hP; clear hf ha5)
  have t0 : (w5.setCell ⟨p, 0, none⟩ (.int .u64 R)).cell? ⟨p, 0, none⟩ = some (.int .u64 R) := by rw [HA6.out.cell]; rfl
  have t2 : (w5.setCell ⟨p, 0, none⟩ (.int .u64 R)).cell? ⟨p, 2, none⟩ = some (.int .u64 S.fi) := by rw [HA6.out.cell]; rfl
  have t3 : (w5.setCell ⟨p, 0, none⟩ (.int .u64 R)).cell? ⟨p, 3, none⟩ = some (.bool S.en) := by rw [HA6.out.cell]; rfl
  clear r0 s0 HA6 HFIN HCY
  generalize hZ : w5.setCell ⟨p, 0, none⟩ (.int .u64 R) = Z at *
  clear hZ
  cases hen : S.en
  · rw [hen] at t3
    go_quiet (fail)
    go_wp2
    go_ret2
    exact HQ.out _ (by rw [hen]; rfl) v Z HF.out.1 HF.out.2 _
  · rw [hen] at t3
    go_quiet (fail)
    go_wp2
    go_ret2
    exact HQ.out _ (by rw [hen, Bool.true_and, Bool.eq_iff_iff]; simp; try omega) v Z HF.out.1 HF.out.2 _
end
end Go.Proofs.YtphpdaldplkgmaaGreat
