/-
  sender.Sender behind a pointer, of the call's own: what it holds (Sm); New, State, Sent, Length, Write, Finish, Reset, Limit.
-/
import Derived.Test.YtndaikeeikimeaaMq13
import Derived.BigQuiet
import Derived.Test.YtndaikeeikimeaaMq8
namespace Go.Proofs.Ytndaikeeikimeaa
section
set_option linter.unusedVariables false
set_option linter.unusedSimpArgs false
open Go.RowKit
/-- A sender's numbers. -/
structure SS where
  id : Nat
  lim : Nat
  st : Nat
  cl : Bool
  code : Nat
  due : Bool
  o : OS
def ss0 (id : Nat) : SS := ⟨id, 0, 1, false, 0, false, os0⟩
def ssL (p : Nat) (X : SS) : List Value := [.int .u64 X.id, .int .u64 X.lim, .int .i64 X.st, .bool X.cl, .pointer (some ⟨p, 0, none⟩), .int .u64 X.code, .bool X.due]
structure SS.ok (X : SS) : Prop where
  id : X.id < 18446744073709551616
  lim : X.lim < 18446744073709551616
  code : X.code < 18446744073709551616
  st : X.st = 1 ∨ X.st = 2 ∨ X.st = 3 ∨ X.st = 4 ∨ X.st = 5 ∨ X.st = 6
/-- A sender that the call made behind the world w0; F: blocks that it has nothing to do with. -/
structure Sm (w0 W : World) (q p : Nat) (X : SS) (F : Nat → Prop) : Prop where
  at_ : At W q 70 (ssL p X)
  oz : Oz w0 W p X.o (fun b => b = q ∨ F b)
  qb : w0.heap.size ≤ q
  nF : ¬ F q
  ok : X.ok
section
variable {w0 W W' : World} {q p : Nat} {X : SS} {F : Nat → Prop}
theorem Sm.bl (h : Sm w0 W q p X F) : Below w0.heap.size w0 W := h.oz.bl
theorem Sm.below (h : Sm w0 W q p X F) (k : Below W.heap.size W W') : Sm w0 W' q p X F := { h with at_ := h.at_.below k h.at_.lt, oz := h.oz.below k }
theorem Sm.drewN (h : Sm w0 W q p X F) (n : Nat) : Sm w0 (W.drewN n) q p X F := h.below (below_drewN (Below.refl _ _) n)
/-- Other blocks turn; those that it has nothing to do with are others. -/
theorem Sm.change {F' : Nat → Prop} (h : Sm w0 W q p X F) (k : Kept F W W') (hk : ∀ b, F b → w0.heap.size ≤ b) (hF : ∀ b, F' b → F b ∨ (W.heap.size ≤ b ∧ b < W'.heap.size)) : Sm w0 W' q p X F' := by
  obtain ⟨O, h1, h2⟩ := h.oz.bf
  have hq := h.at_.lt
  refine ⟨h.at_.kept k h.nF, ⟨h.oz.ok, ⟨O, h1.kept k fun b hb e => (h2 b (.inr e)).1 hb, fun b hb => ?_⟩, k.below h.oz.bl h.oz.bl.size hk⟩, h.qb, fun e => ?_, h.ok⟩
  · rcases hb with rfl | hb
    · exact ⟨(h2 b (.inl rfl)).1, Nat.lt_of_lt_of_le hq k.size⟩
    · rcases hF b hb with h' | ⟨h', h''⟩
      · exact ⟨(h2 b (.inr h')).1, Nat.lt_of_lt_of_le (h2 b (.inr h')).2 k.size⟩
      · exact ⟨fun e => by have := (h1.lt b e).2; omega, h''⟩
  · rcases hF q e with h' | ⟨h', _⟩
    · exact h.nF h'
    · omega
/-- What a call that changes it leaves. -/
def SmPost (w0 W : World) (q p : Nat) (X' : SS) (F : Nat → Prop) (r : Value) (e : Ending) (W' : World) : Prop := e = .returned r ∧ Sm w0 W' q p X' F ∧ (∀ b, F b → W'.heap[b]? = W.heap[b]?) ∧ W.heap.size ≤ W'.heap.size
/-- Its own block is turned alone. -/
theorem Sm.top (h : Sm w0 W q p X F) {X' : SS} (k : Kept (· = q) W W') (hA : At W' q 70 (ssL p X')) (ho : X'.o = X.o) (hok : X'.ok) : Sm w0 W' q p X' F ∧ (∀ b, F b → W'.heap[b]? = W.heap[b]?) ∧ W.heap.size ≤ W'.heap.size := by
  obtain ⟨O, h1, h2⟩ := h.oz.bf
  exact ⟨⟨hA, by rw [ho]; exact h.oz.other (.inl rfl) h.qb k, h.qb, h.nF, hok⟩, fun b hb => k.block b (h2 b (.inr hb)).2 fun e => h.nF (by rw [← e]; exact hb), k.size⟩
theorem Sm.c0 (h : Sm w0 W q p X F) : W.cell? ⟨q, 0, none⟩ = some (.int .u64 X.id) := by rw [h.at_.cell]; rfl
theorem Sm.c1 (h : Sm w0 W q p X F) : W.cell? ⟨q, 1, none⟩ = some (.int .u64 X.lim) := by rw [h.at_.cell]; rfl
theorem Sm.c2 (h : Sm w0 W q p X F) : W.cell? ⟨q, 2, none⟩ = some (.int .i64 X.st) := by rw [h.at_.cell]; rfl
theorem Sm.c3 (h : Sm w0 W q p X F) : W.cell? ⟨q, 3, none⟩ = some (.bool X.cl) := by rw [h.at_.cell]; rfl
theorem Sm.c4 (h : Sm w0 W q p X F) : W.cell? ⟨q, 4, none⟩ = some (.pointer (some ⟨p, 0, none⟩)) := by rw [h.at_.cell]; rfl
theorem Sm.c5 (h : Sm w0 W q p X F) : W.cell? ⟨q, 5, none⟩ = some (.int .u64 X.code) := by rw [h.at_.cell]; rfl
theorem Sm.c6 (h : Sm w0 W q p X F) : W.cell? ⟨q, 6, none⟩ = some (.bool X.due) := by rw [h.at_.cell]; rfl
end
set_option maxRecDepth 100000 in
theorem sm_new (id : Nat) (hid : id < 18446744073709551616) (w0 : World) : Calls Try.prog 32 #[.int .u64 id] w0 fun e w' => ∃ q p, e = .returned (.pointer (some ⟨q, 0, none⟩)) ∧ Sm w0 w' q p (ss0 id) (fun _ => False) := by
  have HN := Lib.hid (oz_new w0)
  have HF : Hid (∀ w1 p, Oz w0 w1 p os0 (fun _ => False) → Sm w0 (w1.alloc (.cells (ssL p (ss0 id)).toArray 70)) w1.heap.size p (ss0 id) (fun _ => False)) := Lib.hid (fun w1 p h =>
    ⟨At.new w1 _ _, h.fresh ((Below.refl _ _).alloc (Nat.le_refl _) _) fun b hb => by
      rcases hb with rfl | hb
      · exact .inr ⟨Nat.le_refl _, by simp⟩
      · exact hb.elim, h.bl.size, fun e => e, ⟨hid, (by show 0 < _; omega), (by show 0 < _; omega), .inl rfl⟩⟩)
  clear hid
  unfold ssL at HF
  go_enter Try.func32, Try.ntmps32
  go_wp2_with (go_at_call 38; (with_reducible refine HN.out.mono ?_); rintro e w1 ⟨p, rfl, hO1⟩; have H1 := Lib.hid (HF.out w1 p hO1); clear hO1)
  go_ret
  exact ⟨_, _, rfl, H1.out⟩
section
variable {w0 W : World} {q p : Nat} {X : SS} {F : Nat → Prop}
theorem sm_reset_no (h : Sm w0 W q p X F) (hst : 4 ≤ X.st) (code : Nat) : Calls Try.prog 35 #[.pointer (some ⟨q, 0, none⟩), .int .u64 code] W fun e w' => e = .returned (.int .i64 24) ∧ w' = W := by
  have h2 := h.c2
  have hk : X.st = 4 ∨ X.st = 5 ∨ X.st = 6 := by have := h.ok.st; omega
  clear h hst
  rcases hk with hk | hk | hk
  all_goals
    rw [hk] at h2
    clear hk
    go_enter Try.func35, Try.ntmps35
    go_wp2
    go_ret
    exact ⟨rfl, rfl⟩
theorem sm_reset_arg (h : Sm w0 W q p X F) (hst : X.st ≤ 3) (code : Nat) (hc : 4611686018427387903 < code) : Calls Try.prog 35 #[.pointer (some ⟨q, 0, none⟩), .int .u64 code] W fun e w' => e = .returned (.int .i64 1) ∧ w' = W := by
  have h2 := h.c2
  have hk : X.st = 1 ∨ X.st = 2 ∨ X.st = 3 := by have := h.ok.st; omega
  have hz : (4611686018427387903 : Int) < (code : Int) := by omega
  clear h hst hc
  rcases hk with hk | hk | hk
  all_goals
    rw [hk] at h2
    clear hk
    go_enter Try.func35, Try.ntmps35
    go_wp2
    go_ret
    exact ⟨rfl, rfl⟩
set_option maxHeartbeats 1000000 in
theorem sm_reset (h : Sm w0 W q p X F) (hst : X.st ≤ 3) (code : Nat) (hc : code ≤ 4611686018427387903) : Calls Try.prog 35 #[.pointer (some ⟨q, 0, none⟩), .int .u64 code] W (SmPost w0 W q p { X with st := 5, cl := true, code := code, due := true } F (.int .i64 0)) := by
  have h2 := h.c2
  have hk : X.st = 1 ∨ X.st = 2 ∨ X.st = 3 := by have := h.ok.st; omega
  have hz : ¬ (4611686018427387903 : Int) < (code : Int) := by omega
  have f2 := fun j => h.at_.frozen j
  have HT := Lib.hid (h.top (X' := { X with st := 5, cl := true, code := code, due := true }) (((((Kept.refl _ W).setAt 2 (.int .i64 5)).setAt 3 (.bool true)).setAt 5 (.int .u64 code)).setAt 6 (.bool true)) ((((h.at_.set 2 (.int .i64 5)).set 3 (.bool true)).set 5 (.int .u64 code)).set 6 (.bool true)) rfl ⟨h.ok.id, h.ok.lim, by show code < _; omega, .inr (.inr (.inr (.inr (.inl rfl))))⟩)
  have h3 := h.c3
  have h5 := h.c5
  have h6 := h.c6
  clear h hst hc
  rcases hk with hk | hk | hk
  all_goals
    rw [hk] at h2
    clear hk
    go_enter Try.func35, Try.ntmps35
    go_wp2
    go_ret
    exact ⟨rfl, HT.out⟩
theorem sm_limit (h : Sm w0 W q p X F) (n : Nat) (hn : n < 18446744073709551616) : Calls Try.prog 19 #[.pointer (some ⟨q, 0, none⟩), .int .u64 n] W (SmPost w0 W q p { X with lim := max X.lim n } F (.tuple #[])) := by
  have h1 := h.c1
  have f1 := h.at_.frozen 1
  have HT := fun v hv => (h.top (X' := { X with lim := v }) ((Kept.refl _ W).setAt 1 (.int .u64 v)) (h.at_.set 1 (.int .u64 v)) rfl ⟨h.ok.id, hv, h.ok.code, h.ok.st⟩)
  have hl := h.ok.lim
  clear h
  rcases Nat.lt_or_ge X.lim n with hlt | hge
  · have HT := Lib.hid (HT n hn)
    rw [Nat.max_eq_right (by omega)]
    have hz : (X.lim : Int) < (n : Int) := by omega
    have hz2 : (X.lim : Int) ≤ (n : Int) := by omega
    clear hlt
    go_enter Try.func19, Try.ntmps19
    go_wp2
    go_end0
    exact ⟨rfl, HT.out⟩
  · have HT := Lib.hid (HT X.lim hl)
    rw [Nat.max_eq_left (by omega)]
    have hz : ¬ (X.lim : Int) < (n : Int) := by omega
    clear hge
    go_enter Try.func19, Try.ntmps19
    go_wp2
    go_end0
    exact ⟨rfl, HT.out⟩
end
end
section
set_option linter.unusedVariables false
set_option linter.unusedSimpArgs false
open Go.RowKit
/-- So many bytes are there without a gap, m at most. -/
def rdyN (g : Nat → Option Int) : Nat → Nat → Nat
  | 0, _ => 0
  | m + 1, rd => if (g rd).isSome = true then rdyN g m (rd + 1) + 1 else 0
theorem rdyN_eq (g : Nat → Option Int) : ∀ (m rd k : Nat), IsR g rd k → k ≤ m → rdyN g m rd = k
  | 0, rd, k, _, h => (by omega : 0 = k)
  | m + 1, rd, k, h, hk => by
    unfold rdyN
    cases k with
    | zero =>
      have := h.2
      rw [Nat.add_zero] at this
      rw [this]
      rfl
    | succ j =>
      have h0 := h.1 0 (by omega)
      rw [Nat.add_zero] at h0
      rw [if_pos h0, rdyN_eq g m (rd + 1) j ⟨fun i hi => by rw [show rd + 1 + i = rd + (i + 1) by omega]; exact h.1 (i + 1) (by omega), by rw [show rd + 1 + j = rd + (j + 1) by omega]; exact h.2⟩ (by omega)]
def rdyS (S : BS) : Nat := rdyN S.g (S.hi - S.rd) S.rd
theorem rdyS_is {S : BS} (h : S.ok) : IsR S.g S.rd (rdyS S) := by
  obtain ⟨k, h1, h2⟩ := h.ready
  have := rdyN_eq S.g (S.hi - S.rd) S.rd k h2 (by omega)
  unfold rdyS
  rw [this]
  exact h2
def wholeB (S : BS) : Bool := S.en && decide (S.rd + rdyS S = S.fi)
/-- A receiver's numbers, its buffer. -/
structure QS where
  id : Nat
  win : Nat
  lim : Nat
  st : Nat
  code : Nat
  fin : Nat
  asked : Bool
  stop : Nat
  due : Bool
  again : Bool
  b : BS
def qs0 (id win : Nat) : QS := ⟨id, min win 2048, min win 2048, 1, 0, 0, false, 0, false, false, bs0⟩
structure QS.ok (X : QS) : Prop where
  b : X.b.ok
  id : X.id < 18446744073709551616
  win : X.win ≤ 2048
  code : X.code < 18446744073709551616
  fl : 5 ≤ X.st → X.fin ≤ X.lim
  hl : X.st < 5 → X.b.hi ≤ X.lim
  lw : X.lim ≤ X.b.rd + X.win
  st : X.st = 1 ∨ X.st = 2 ∨ X.st = 3 ∨ X.st = 4 ∨ X.st = 5 ∨ X.st = 6
  s1 : X.st = 1 → X.b.en = false
  s2 : X.st = 2 → X.b.en = true ∧ wholeB X.b = false
  du : X.due = true → X.st ≤ 2 ∧ X.asked = true
  sp : X.stop ≤ 4611686018427387903
  ef : X.b.en = true → X.b.hi ≤ X.b.fi
theorem qs0_ok (id win : Nat) (h : id < 18446744073709551616) : (qs0 id win).ok :=
  ⟨bs0_ok, h, Nat.min_le_right _ _, (by show 0 < _; omega), fun h => (by have h' : 5 ≤ 1 := h; omega), fun _ => Nat.zero_le _, (by show min win 2048 ≤ 0 + min win 2048; omega), .inl rfl, fun _ => rfl, fun h => (by have h' : 1 = 2 := h; omega), fun h => (by have h' : false = true := h; cases h'), (by show 0 ≤ _; omega), fun h => (by have h' : false = true := h; cases h')⟩
def highQ (X : QS) : Nat := if 5 ≤ X.st then X.fin else X.b.hi
def takenQ (X : QS) : Nat := if 5 ≤ X.st then X.fin else X.b.rd
/-- The state as what came tells it. -/
def settleQ (X : QS) : QS := if X.st ≤ 2 then (if wholeB X.b = true then { X with st := 3, due := false } else if X.b.en = true then { X with st := 2 } else X) else X
theorem settle_id {X : QS} (h : X.ok) : settleQ X = X := by
  unfold settleQ
  split
  · rename_i hle
    rcases h.st with e | e | e | e | e | e
    · have h1 := h.s1 e
      have h2 : wholeB X.b = false := by unfold wholeB; rw [h1]; rfl
      rw [h1, h2]
      rfl
    · have h1 := h.s2 e
      rw [h1.1, h1.2]
      simp
      rw [← e]
    all_goals omega
  · rfl
/-- On of a Stream frame: the error's number; what it is then. -/
def onSE (X : QS) (off n : Nat) (fin : Bool) : Int :=
  if X.lim < off + n then 23
  else if 5 ≤ X.st then (if X.fin < off + n ∨ (fin = true ∧ off + n ≠ X.fin) then 30 else 0)
  else addE X.b off n fin
def onSX (X : QS) (off : Nat) (bs : List Int) (fin : Bool) : QS := if onSE X off bs.length fin = 0 ∧ X.st < 5 then settleQ { X with b := addS X.b off bs fin } else X
/-- On of a Reset. -/
def onRE (X : QS) (f : Nat) : Int :=
  if X.lim < f then 23
  else if (if 5 ≤ X.st then f ≠ X.fin else (X.b.en = true ∧ f ≠ X.b.fi) ∨ f < X.b.hi) then 30 else 0
def onRX (X : QS) (f code : Nat) : QS := if onRE X f = 0 ∧ X.st ≤ 2 then { X with st := 5, code := code, fin := f, due := false } else X
section
variable {X : QS}
theorem addE_zero {S : BS} {off len : Nat} {fin : Bool} (h : addE S off len fin = 0) : off ≤ 1099511627776 ∧ len ≤ 512 ∧ off + len ≤ S.rd + 2048 := by
  unfold addE at h
  split at h
  · cases h
  · split at h
    · cases h
    · split at h
      · cases h
      · omega
theorem settleQ_st (X : QS) : (settleQ X).st = if X.st ≤ 2 then (if wholeB X.b = true then 3 else if X.b.en = true then 2 else X.st) else X.st := by
  unfold settleQ
  split
  · split
    · rfl
    · split <;> rfl
  · rfl
theorem settleQ_b (X : QS) : (settleQ X).b = X.b ∧ (settleQ X).id = X.id ∧ (settleQ X).win = X.win ∧ (settleQ X).lim = X.lim ∧ (settleQ X).code = X.code ∧ (settleQ X).fin = X.fin ∧ (settleQ X).asked = X.asked ∧ (settleQ X).stop = X.stop ∧ (settleQ X).again = X.again := by
  unfold settleQ
  split
  · split
    · exact ⟨rfl, rfl, rfl, rfl, rfl, rfl, rfl, rfl, rfl⟩
    · split <;> exact ⟨rfl, rfl, rfl, rfl, rfl, rfl, rfl, rfl, rfl⟩
  · exact ⟨rfl, rfl, rfl, rfl, rfl, rfl, rfl, rfl, rfl⟩
theorem settleQ_due (X : QS) : (settleQ X).due = (if X.st ≤ 2 ∧ wholeB X.b = true then false else X.due) := by
  by_cases h1 : X.st ≤ 2
  · by_cases h2 : wholeB X.b = true
    · unfold settleQ
      rw [if_pos h1, if_pos h2, if_pos ⟨h1, h2⟩]
    · rw [if_neg (fun h => h2 h.2)]
      unfold settleQ
      rw [if_pos h1, if_neg h2]
      split <;> rfl
  · rw [if_neg (fun h => h1 h.1)]
    unfold settleQ
    rw [if_neg h1]
theorem onSX_ok (h : X.ok) (off : Nat) (bs : List Int) (fin : Bool) (hb : Byt bs) : (onSX X off bs fin).ok := by
  unfold onSX
  split
  · rename_i hc
    obtain ⟨he, hst⟩ := hc
    unfold onSE at he
    split at he
    · cases he
    · rename_i hl
      rw [if_neg (by omega)] at he
      obtain ⟨e1, e2, e3⟩ := addE_zero he
      have ok1 := addS_ok h.b fin hb e1 e2 e3
      obtain ⟨q1, q2, q3, q4, q5, q6, q7, q8, q9⟩ := settleQ_b { X with b := addS X.b off bs fin }
      have qs := settleQ_st { X with b := addS X.b off bs fin }
      have qd := settleQ_due { X with b := addS X.b off bs fin }
      simp only at q1 q2 q3 q4 q5 q6 q7 q8 q9 qs qd
      have hst' := h.st
      refine ⟨?_, ?_, ?_, ?_, ?_, ?_, ?_, ?_, ?_, ?_, ?_, ?_, ?_⟩
      · rw [q1]; exact ok1
      · rw [q2]; exact h.id
      · rw [q3]; exact h.win
      · rw [q5]; exact h.code
      · intro h5
        exfalso
        rw [qs] at h5
        split at h5
        · split at h5
          · omega
          · split at h5 <;> omega
        · omega
      · intro _
        rw [q1, q4]
        show max X.b.hi (off + bs.length) ≤ X.lim
        have := h.hl hst
        omega
      · rw [q4, q1, q3]
        exact h.lw
      · rw [qs]
        split
        · split
          · omega
          · split <;> omega
        · omega
      · intro h1
        rw [qs] at h1
        rw [q1]
        split at h1
        · split at h1
          · omega
          · split at h1
            · omega
            · rename_i hn; simpa using hn
        · omega
      · intro h2
        rw [qs] at h2
        rw [q1]
        split at h2
        · split at h2
          · omega
          · rename_i hw
            have hw' : wholeB (addS X.b off bs fin) = false := by simpa using hw
            split at h2
            · rename_i he2; exact ⟨he2, hw'⟩
            · rename_i he2
              have := h.s2 h2
              have hen : (addS X.b off bs fin).en = (X.b.en || fin) := rfl
              rw [hen, this.1] at he2
              simp at he2
        · omega
      · intro hd
        rw [qd] at hd
        rw [q7]
        split at hd
        · cases hd
        · rename_i hn
          obtain ⟨d1, d2⟩ := h.du hd
          refine ⟨?_, d2⟩
          rw [qs, if_pos d1]
          split
          · rename_i hw; exact absurd ⟨d1, hw⟩ hn
          · split <;> omega
      · rw [q8]; exact h.sp
      · rw [q1]
        intro hen
        have hen' : (X.b.en || fin) = true := hen
        show max X.b.hi (off + bs.length) ≤ if fin = true then off + bs.length else X.b.fi
        unfold addE at he
        rw [if_neg (by omega)] at he
        split at he
        · cases he
        · rename_i hag
          have hef := h.ef
          cases hfi : fin <;> cases hee : X.b.en <;> rw [hfi, hee] at hag hen' <;> simp at hag hen' ⊢
          · have := hef hee; omega
          · omega
          · omega
  · exact h
theorem onRX_ok (h : X.ok) (f code : Nat) (hc : code < 18446744073709551616) : (onRX X f code).ok := by
  unfold onRX
  split
  · rename_i h1
    obtain ⟨he, hst⟩ := h1
    have hf : f ≤ X.lim := by
      unfold onRE at he
      split at he
      · cases he
      · omega
    exact ⟨h.b, h.id, h.win, hc, fun _ => hf, fun h5 => (by have h5' : 5 < 5 := h5; omega), h.lw, .inr (.inr (.inr (.inr (.inl rfl)))), fun h5 => (by have h5' : 5 = 1 := h5; omega), fun h5 => (by have h5' : 5 = 2 := h5; omega), fun hd => (by cases hd), h.sp, h.ef⟩
  · exact h
end
end
section
set_option linter.unusedVariables false
set_option linter.unusedSimpArgs false
open Go.RowKit
/-- The row is long enough for so many. -/
def padW (W : List Int) (n : Nat) : List Int := W ++ List.replicate (n - W.length) 0
theorem padW_len (W : List Int) (n : Nat) : (padW W n).length = max W.length n := by simp [padW]; omega
theorem padW_id {W : List Int} {n : Nat} (h : n ≤ W.length) : padW W n = W := by
  unfold padW
  rw [show n - W.length = 0 by omega]
  simp
theorem padW_get {W : List Int} {n i : Nat} {x : Int} (h : W[i]? = some x) : (padW W n)[i]? = some x := by
  unfold padW
  have := (List.getElem?_eq_some_iff.1 h).1
  rw [List.getElem?_append_left this]
  exact h
theorem padW_byt {W : List Int} (h : Byt W) (n : Nat) : Byt (padW W n) := h.app fun y hy => by rw [List.eq_of_mem_replicate hy]; omega
theorem splice_get_out {α : Type} (L cs : List α) (o i : Nat) (h : i < o ∨ o + cs.length ≤ i) (ho : o + cs.length ≤ L.length) : (splice L o cs)[i]? = L[i]? := by
  unfold splice
  rcases h with h | h
  · rw [List.getElem?_append_left (by simp; omega), List.getElem?_take_of_lt h]
  · rw [List.getElem?_append_right (by simp; omega), List.getElem?_append_right (by simp; omega), List.getElem?_drop]
    congr 1
    simp; omega
theorem splice_get_in {α : Type} (L cs : List α) (o i : Nat) (h : o ≤ i) (h2 : i < o + cs.length) (ho : o + cs.length ≤ L.length) : (splice L o cs)[i]? = cs[i - o]? := by
  unfold splice
  rw [List.getElem?_append_right (by simp; omega), List.getElem?_append_left (by simp; omega)]
  congr 1
  simp; omega
theorem splice_byt {W bs : List Int} (h : Byt W) (hb : Byt bs) (o : Nat) : Byt (splice W o bs) := (h.take o).app (hb.app (h.drop _))
theorem splice_map {α β : Type} (f : α → β) (L cs : List α) (o : Nat) : splice (L.map f) o (cs.map f) = (splice L o cs).map f := by simp [splice]
theorem has_rng {rd : Nat} {l : RL} {W : List Int} {g : Nat → Option Int} (h : Pm rd l W g) {k : Int} (hk : hasL l k = true) : (rd : Int) ≤ k ∧ k < rd + W.length := by
  obtain ⟨r, hr, h1, h2⟩ := has_true.1 hk
  have := h.rng r hr
  omega
theorem mem_has {l : RL} (hg : Gd l) {r : Int × Int} (hr : r ∈ l) : hasL l r.1 = true ∧ hasL l (r.2 - 1) = true := by
  have := hg.1 r hr
  unfold OkR at this
  exact ⟨has_true.2 ⟨r, hr, by omega, by omega⟩, has_true.2 ⟨r, hr, by omega, by omega⟩⟩
theorem pm_lay {rd off : Nat} {l : RL} {W bs : List Int} {g : Nat → Option Int} (h : Pm rd l W g) (h1 : rd ≤ off) (h2 : off + bs.length ≤ rd + 2048) (hm : rd ≤ 1099511628288)
    (hno : ∀ n, off ≤ n → n < off + bs.length → g n = none) :
    Pm rd (addV l off (off + bs.length : Nat) 2048) (splice (padW W (off + bs.length - rd)) (off - rd) bs) (addG g off bs) := by
  have hgd := addV_gd h.gd off (off + bs.length : Nat) 2048 (by omega)
  have hlen := addGo_len l ((off : Int), ((off + bs.length : Nat) : Int)) false
  have hl := h.len
  have hhas : ∀ k : Int, hasL (addV l off (off + bs.length : Nat) 2048) k = (hasL l k || (decide ((off : Int) ≤ k) && decide (k < (off + bs.length : Nat)))) := fun k => has_addV h.gd (by omega) (by omega)
  have hpl := padW_len W (off + bs.length - rd)
  have hfit : off - rd + bs.length ≤ (padW W (off + bs.length - rd)).length := by rw [hpl]; omega
  have hsl : (splice (padW W (off + bs.length - rd)) (off - rd) bs).length = max W.length (off + bs.length - rd) := by rw [length_splice _ _ _ hfit, hpl]
  refine ⟨hgd, fun r hr => ?_, ?_, fun n hn => ?_, fun n x hn hx => ?_⟩
  · obtain ⟨k1, k2⟩ := mem_has hgd hr
    rw [hhas] at k1 k2
    rw [hsl]
    rw [Bool.or_eq_true, Bool.and_eq_true, decide_eq_true_eq, decide_eq_true_eq] at k1 k2
    constructor
    · rcases k1 with k1 | k1
      · exact (has_rng h k1).1
      · omega
    · rcases k2 with k2 | k2
      · have := (has_rng h k2).2
        omega
      · omega
  · rw [hsl]
    have := h.wl
    omega
  · rw [hhas, addG_isSome, h.has n hn]
    congr 1
    have e1 : ((off : Int) ≤ (n : Int)) = (off ≤ n) := by simp
    have e2 : ((n : Int) < ((off + bs.length : Nat) : Int)) = (n < off + bs.length) := by simp only [eq_iff_iff]; omega
    simp only [e1, e2]
  · by_cases hc : off ≤ n ∧ n < off + bs.length
    · rw [addG_none (hno n hc.1 hc.2)] at hx
      rw [splice_get_in _ _ _ _ (by omega) (by omega) hfit]
      unfold pieceB at hx
      rw [if_pos hc.1] at hx
      rw [← hx]
      congr 1
      omega
    · have hgx : g n = some x := by
        cases hg : g n with
        | some y =>
          rw [addG_some (by rw [hg]; rfl), hg] at hx
          exact hx
        | none =>
          rw [addG_none hg, pieceB_out (by omega)] at hx
          cases hx
      rw [splice_get_out _ _ _ _ (by omega) hfit]
      exact padW_get (h.byt n x hn hgx)
/-- Laying the next gap's bytes of a piece. -/
theorem addG_glue (g : Nat → Option Int) {off from_ a e : Nat} {bs : List Int} (h0 : off ≤ from_) (h1 : from_ ≤ a) (h2 : a ≤ e) (h3 : e ≤ off + bs.length)
    (hs : ∀ n, from_ ≤ n → n < a → (addG g off (bs.take (from_ - off)) n).isSome = true) :
    addG (addG g off (bs.take (from_ - off))) a ((bs.take (e - off)).drop (a - off)) = addG g off (bs.take (e - off)) := by
  funext n
  cases hg : g n with
  | some x =>
    have e1 : addG g off (bs.take (from_ - off)) n = some x := by unfold addG; rw [hg]; rfl
    rw [addG_some (by rw [e1]; rfl), e1]
    unfold addG
    rw [hg]
    rfl
  | none =>
    have e1 : addG g off (bs.take (from_ - off)) n = pieceB off (bs.take (from_ - off)) n := addG_none hg
    rw [addG_none (g := g) hg]
    by_cases c1 : n < from_
    · have e2 : pieceB off (bs.take (from_ - off)) n = pieceB off (bs.take (e - off)) n := by
        unfold pieceB
        by_cases hh : off ≤ n
        · rw [if_pos hh, if_pos hh, List.getElem?_take_of_lt (by omega), List.getElem?_take_of_lt (by omega)]
        · rw [if_neg hh, if_neg hh]
      have e3 : pieceB a ((bs.take (e - off)).drop (a - off)) n = none := by
        unfold pieceB
        rw [if_neg (by omega)]
      unfold addG
      rw [hg, e3, e2]
      simp
    · have e2 : pieceB off (bs.take (from_ - off)) n = none := pieceB_out (by simp; omega)
      by_cases c2 : n < a
      · have := hs n (by omega) c2
        rw [e1, e2] at this
        cases this
      · rw [addG_none (by rw [e1, e2])]
        unfold pieceB
        rw [if_pos (by omega), if_pos (by omega), List.getElem?_drop]
        congr 1
        omega
theorem addG_full (g : Nat → Option Int) {off from_ : Nat} {bs : List Int} (h0 : off ≤ from_)
    (hs : ∀ n, from_ ≤ n → n < off + bs.length → (addG g off (bs.take (from_ - off)) n).isSome = true) : addG g off (bs.take (from_ - off)) = addG g off bs := by
  funext n
  cases hg : g n with
  | some x => unfold addG; rw [hg]; rfl
  | none =>
    rw [addG_none hg, addG_none hg]
    by_cases c : n < from_
    · unfold pieceB
      by_cases hh : off ≤ n
      · rw [if_pos hh, if_pos hh, List.getElem?_take_of_lt (by omega)]
      · rw [if_neg hh, if_neg hh]
    · by_cases c2 : n < off + bs.length
      · have := hs n (by omega) c2
        rw [addG_none hg, pieceB_out (by simp; omega)] at this
        cases this
      · rw [pieceB_out (by simp; omega), pieceB_out (by omega)]
/-- What stands below rd stands anyway: the piece begins there. -/
theorem addG_start (S : BS) (h : S.ok) (off : Nat) (bs : List Int) : addG S.g off (bs.take (max off S.rd - off)) = S.g := by
  funext n
  unfold addG
  cases hg : S.g n with
  | some x => rfl
  | none =>
    show pieceB off (bs.take (max off S.rd - off)) n = none
    have hn : ¬ n < S.rd := fun hh => by
      have := h.al n hh
      rw [hg] at this
      cases this
    exact pieceB_out (by simp; omega)
end
end Go.Proofs.Ytndaikeeikimeaa
