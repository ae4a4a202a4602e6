/-
  OutbufCovers: its mathematics and its state.
-/
import Derived.Test.YtohahkjikhpamaaMq13
import Derived.Test.YtohahkjikhpamaaMq14
import Derived.BigQuiet
import Derived.Test.YtohahkjikhpamaaProg
import Derived.Test.YtohahkjikhpamaaMq1
import Derived.Test.YtohahkjikhpamaaMq0
import Derived.Deep.QuietTactic
import Derived.Deep.RegionHeld3
import Derived.WalkSpells
namespace Go.Proofs.Ytohahkjikhpamaa
section
set_option linter.unusedVariables false
set_option linter.unusedSimpArgs false
open Go.RowKit
theorem kcut_any (A : Option Addr) (n c m : Nat) (w : World) (hnc : n ≤ c) (hcm : c ≤ maxLen) (hm : m ≤ 1000000) (hA : A = none → c = 0) :
    Calls Try.prog 6 #[.slice A n c, .int .i64 m] w fun e w' => e = .returned (.slice A (min n m) c) ∧ w' = w := by
  have hcm' : c ≤ 9223372036854775807 := by unfold maxLen at hcm; omega
  by_cases h : m < n
  · have hz : (m : Int) < (n : Int) := by omega
    have hmc : (m : Int) ≤ (c : Int) := by omega
    rw [show min n m = m by omega]
    cases A with
    | none => have := hA rfl; omega
    | some ad =>
      clear hA
      go_enter Try.func6, Try.ntmps6
      go_wp2
      go_ret
      exact ⟨rfl, rfl⟩
  · have hz : ¬ (m : Int) < (n : Int) := by omega
    rw [show min n m = n by omega]
    clear hA
    go_enter Try.func6, Try.ntmps6
    go_wp2
    go_ret
    exact ⟨rfl, rfl⟩
/-- Nothing is told: nothing is sent. -/
theorem nextO_none {S : OS} (h : S.ok) {most limit : Nat} (hn : (nextR S most limit).yes = false) : nextO S most limit = S := by
  obtain ⟨_, _, k3, k4, _⟩ := nextR_in h most limit
  have e1 : (nextR S most limit).n = 0 := by
    rcases Nat.eq_zero_or_pos (nextR S most limit).n with e | e
    · exact e
    · have := k4 (by omega)
      rw [hn] at this; cases this
  have e2 : (nextR S most limit).fin = false := by
    cases hf : (nextR S most limit).fin with
    | false => rfl
    | true => have := (k3 hf).2.2.1; rw [hn] at this; cases this
  unfold nextO
  rw [e1, e2]
  obtain ⟨bs, ak, ag, gn, ov, en, ea, el⟩ := S
  unfold sentO
  simp
  funext j
  cases ag j
  · rfl
  · simp
    omega
/-- Where all is acknowledged nothing waits. -/
theorem waits_all {S : OS} (h : S.ok) {limit : Nat} (ha : ∀ j, j < S.bs.length → S.ak j = true) (he : S.ea = true) : waitsO S limit = false := by
  obtain ⟨k1, _, k3, k4, k5⟩ := nextR_in h 1 limit
  unfold waitsO
  cases hy : (nextR S 1 limit).yes with
  | false => rfl
  | true =>
    rcases Nat.eq_zero_or_pos (nextR S 1 limit).n with e | e
    · have := (k3 (k5 hy e)).2.1
      unfold endO at this
      rw [he] at this
      simp at this
    · have := nextR_new h 1 limit (nextR S 1 limit).off (Nat.le_refl _) (by omega)
      rw [ha _ (by omega)] at this
      cases this
section
variable {w0 W W' : World} {p : Nat} {S : OS} {F : Nat → Prop}
/-- A change of a block that it has nothing to do with. -/
theorem Oz.other (h : Oz w0 W p S F) {g : Nat} (hF : F g) (hg : w0.heap.size ≤ g) (k : Kept (· = g) W W') : Oz w0 W' p S F := by
  obtain ⟨O, h1, h2⟩ := h.bf
  refine ⟨h.ok, ⟨O, h1.kept k fun b hb e => ?_, fun b hb => ⟨(h2 b hb).1, Nat.lt_of_lt_of_le (h2 b hb).2 k.size⟩⟩, k.below h.bl h.bl.size fun j hj => by omega⟩
  subst e
  exact (h2 b hF).1 hb
end
/-- The law's state: what it has of flags, behind i rounds. -/
structure Cq (w0 W : World) (p g : Nat) (D : List Int) (S : OS) (f : Nat → Bool) (i : Nat) (en : Bool) : Prop where
  oz : Oz w0 W p S (fun b => b = g)
  cv : Cv S
  bs : S.bs = D
  lk : (i : Int) + lackO S ≤ 201 + (min i 300 : Nat)
  fl : At W g 4 ((tabB f D.length).map Value.bool)
  fa : ∀ j, j < D.length → S.ak j = true → f j = true
  ee : S.ea = true → en = true
  ge : w0.heap.size ≤ g
section
variable {w0 W W' : World} {p g : Nat} {D : List Int} {S : OS} {f : Nat → Bool} {i : Nat} {en : Bool}
theorem Cq.below (h : Cq w0 W p g D S f i en) (k : Below W.heap.size W W') : Cq w0 W' p g D S f i en := { h with oz := h.oz.below k, fl := h.fl.below k h.fl.lt }
/-- What is told: facts in numbers. -/
theorem Cq.told (h : Cq w0 W p g D S f i en) (k : Nat) : (nextR S k 1000).off + (nextR S k 1000).n ≤ D.length ∧ (nextR S k 1000).n ≤ k ∧ ((nextR S k 1000).fin = true → (nextR S k 1000).off + (nextR S k 1000).n = D.length) := by
  obtain ⟨k1, k2, k3, _⟩ := nextR_in h.cv.ok k 1000
  rw [h.bs] at k1 k3
  exact ⟨k1, k2, fun e => (k3 e).1⟩
theorem Cq.acked (h : Cq w0 W p g D S f i en) (k : Nat) (hy : (nextR S k 1000).yes = true) {W1 : World} (hz : Oz w0 W1 p (ackO (nextO S k 1000) (nextR S k 1000).off (nextR S k 1000).n (nextR S k 1000).fin) (fun b => b = g))
    (hf : At W1 g 4 ((tabB (fun j => f j || (decide ((nextR S k 1000).off ≤ j) && decide (j < (nextR S k 1000).off + (nextR S k 1000).n))) D.length).map Value.bool)) :
    Cq w0 W1 p g D (ackO (nextO S k 1000) (nextR S k 1000).off (nextR S k 1000).n (nextR S k 1000).fin) (fun j => f j || (decide ((nextR S k 1000).off ≤ j) && decide (j < (nextR S k 1000).off + (nextR S k 1000).n))) (i + 1) (en || (nextR S k 1000).fin) := by
  have hl := lack_acked h.cv hy
  refine ⟨hz, h.cv.acked, h.bs, by have := h.lk; omega, hf, fun j hj ha => ?_, fun he => ?_, h.ge⟩
  · have ha' : (S.ak j || inT (nextO S k 1000) (nextR S k 1000).off (nextR S k 1000).n j) = true := ha
    rw [inT_next h.cv.ok] at ha'
    rcases (Bool.or_eq_true _ _).mp ha' with e | e
    · show (f j || _) = true
      rw [h.fa j hj e]
      rfl
    · show (f j || _) = true
      rw [e, Bool.or_true]
  · have he' : (S.ea || ((nextR S k 1000).fin && (nextO S k 1000).en)) = true := he
    rcases (Bool.or_eq_true _ _).mp he' with e | e
    · rw [h.ee e]
      rfl
    · rw [Bool.and_eq_true] at e
      rw [e.1, Bool.or_true]
/-- All went. -/
theorem Cq.all (h : Cq w0 W p g D S f i en) (k : Nat) (hk : 0 < k) (hD : D.length ≤ 200) (hn : (nextR S k 1000).yes = false) : (∀ j, j < D.length → f j = true) ∧ en = true ∧ wholeO S = true ∧ waitsO S 1000 = false := by
  obtain ⟨k1, k2, k3⟩ := h.cv.all hk (by rw [h.bs]; omega) hn
  exact ⟨fun j hj => h.fa j hj (k1 j (by rw [h.bs]; exact hj)), h.ee k2, k3, waits_all h.cv.ok k1 k2⟩
end
end
section
set_option linter.unusedVariables false
set_option linter.unusedSimpArgs false
open Go.RowKit
/-- A sender's numbers. -/
structure SS where
  id : Nat
  lim : Nat
  st : Nat
  cl : Bool
  code : Nat
  due : Bool
  o : OS
def ss0 (id : Nat) : SS := ⟨id, 0, 1, false, 0, false, os0⟩
def ssL (p : Nat) (X : SS) : List Value := [.int .u64 X.id, .int .u64 X.lim, .int .i64 X.st, .bool X.cl, .pointer (some ⟨p, 0, none⟩), .int .u64 X.code, .bool X.due]
structure SS.ok (X : SS) : Prop where
  id : X.id < 18446744073709551616
  lim : X.lim < 18446744073709551616
  code : X.code < 18446744073709551616
  st : X.st = 1 ∨ X.st = 2 ∨ X.st = 3 ∨ X.st = 4 ∨ X.st = 5 ∨ X.st = 6
/-- A sender that the call made behind the world w0; F: blocks that it has nothing to do with. -/
structure Sm (w0 W : World) (q p : Nat) (X : SS) (F : Nat → Prop) : Prop where
  at_ : At W q 57 (ssL p X)
  oz : Oz w0 W p X.o (fun b => b = q ∨ F b)
  qb : w0.heap.size ≤ q
  nF : ¬ F q
  ok : X.ok
section
variable {w0 W W' : World} {q p : Nat} {X : SS} {F : Nat → Prop}
theorem Sm.bl (h : Sm w0 W q p X F) : Below w0.heap.size w0 W := h.oz.bl
theorem Sm.below (h : Sm w0 W q p X F) (k : Below W.heap.size W W') : Sm w0 W' q p X F := { h with at_ := h.at_.below k h.at_.lt, oz := h.oz.below k }
theorem Sm.drewN (h : Sm w0 W q p X F) (n : Nat) : Sm w0 (W.drewN n) q p X F := h.below (below_drewN (Below.refl _ _) n)
/-- Other blocks turn; those that it has nothing to do with are others. -/
theorem Sm.change {F' : Nat → Prop} (h : Sm w0 W q p X F) (k : Kept F W W') (hk : ∀ b, F b → w0.heap.size ≤ b) (hF : ∀ b, F' b → F b ∨ (W.heap.size ≤ b ∧ b < W'.heap.size)) : Sm w0 W' q p X F' := by
  obtain ⟨O, h1, h2⟩ := h.oz.bf
  have hq := h.at_.lt
  refine ⟨h.at_.kept k h.nF, ⟨h.oz.ok, ⟨O, h1.kept k fun b hb e => (h2 b (.inr e)).1 hb, fun b hb => ?_⟩, k.below h.oz.bl h.oz.bl.size hk⟩, h.qb, fun e => ?_, h.ok⟩
  · rcases hb with rfl | hb
    · exact ⟨(h2 b (.inl rfl)).1, Nat.lt_of_lt_of_le hq k.size⟩
    · rcases hF b hb with h' | ⟨h', h''⟩
      · exact ⟨(h2 b (.inr h')).1, Nat.lt_of_lt_of_le (h2 b (.inr h')).2 k.size⟩
      · exact ⟨fun e => by have := (h1.lt b e).2; omega, h''⟩
  · rcases hF q e with h' | ⟨h', _⟩
    · exact h.nF h'
    · omega
/-- What a call that changes it leaves. -/
def SmPost (w0 W : World) (q p : Nat) (X' : SS) (F : Nat → Prop) (r : Value) (e : Ending) (W' : World) : Prop := e = .returned r ∧ Sm w0 W' q p X' F ∧ (∀ b, F b → W'.heap[b]? = W.heap[b]?) ∧ W.heap.size ≤ W'.heap.size
/-- Its own block is turned alone. -/
theorem Sm.top (h : Sm w0 W q p X F) {X' : SS} (k : Kept (· = q) W W') (hA : At W' q 57 (ssL p X')) (ho : X'.o = X.o) (hok : X'.ok) : Sm w0 W' q p X' F ∧ (∀ b, F b → W'.heap[b]? = W.heap[b]?) ∧ W.heap.size ≤ W'.heap.size := by
  obtain ⟨O, h1, h2⟩ := h.oz.bf
  exact ⟨⟨hA, by rw [ho]; exact h.oz.other (.inl rfl) h.qb k, h.qb, h.nF, hok⟩, fun b hb => k.block b (h2 b (.inr hb)).2 fun e => h.nF (by rw [← e]; exact hb), k.size⟩
/-- What a call of its buffer leaves. -/
theorem Sm.buf (h : Sm w0 W q p X F) {S' : OS} {r : Value} {e : Ending} (hP : OzPost w0 W p S' (fun b => b = q ∨ F b) r e W') : e = .returned r ∧ Sm w0 W' q p { X with o := S' } F ∧ (∀ b, F b → W'.heap[b]? = W.heap[b]?) ∧ W.heap.size ≤ W'.heap.size :=
  ⟨hP.1, ⟨(hP.2.2.1 q (.inl rfl)).trans h.at_, hP.2.1, h.qb, h.nF, ⟨h.ok.id, h.ok.lim, h.ok.code, h.ok.st⟩⟩, fun b hb => hP.2.2.1 b (.inr hb), hP.2.2.2⟩
theorem Sm.c0 (h : Sm w0 W q p X F) : W.cell? ⟨q, 0, none⟩ = some (.int .u64 X.id) := by rw [h.at_.cell]; rfl
theorem Sm.c1 (h : Sm w0 W q p X F) : W.cell? ⟨q, 1, none⟩ = some (.int .u64 X.lim) := by rw [h.at_.cell]; rfl
theorem Sm.c2 (h : Sm w0 W q p X F) : W.cell? ⟨q, 2, none⟩ = some (.int .i64 X.st) := by rw [h.at_.cell]; rfl
theorem Sm.c3 (h : Sm w0 W q p X F) : W.cell? ⟨q, 3, none⟩ = some (.bool X.cl) := by rw [h.at_.cell]; rfl
theorem Sm.c4 (h : Sm w0 W q p X F) : W.cell? ⟨q, 4, none⟩ = some (.pointer (some ⟨p, 0, none⟩)) := by rw [h.at_.cell]; rfl
theorem Sm.c5 (h : Sm w0 W q p X F) : W.cell? ⟨q, 5, none⟩ = some (.int .u64 X.code) := by rw [h.at_.cell]; rfl
theorem Sm.c6 (h : Sm w0 W q p X F) : W.cell? ⟨q, 6, none⟩ = some (.bool X.due) := by rw [h.at_.cell]; rfl
end
set_option maxRecDepth 100000 in
theorem sm_new (id : Nat) (hid : id < 18446744073709551616) (w0 : World) : Calls Try.prog 5 #[.int .u64 id] w0 fun e w' => ∃ q p, e = .returned (.pointer (some ⟨q, 0, none⟩)) ∧ Sm w0 w' q p (ss0 id) (fun _ => False) := by
  have HN := Lib.hid (oz_new w0)
  have HF : Hid (∀ w1 p, Oz w0 w1 p os0 (fun _ => False) → Sm w0 (w1.alloc (.cells (ssL p (ss0 id)).toArray 57)) w1.heap.size p (ss0 id) (fun _ => False)) := Lib.hid (fun w1 p h =>
    ⟨At.new w1 _ _, h.fresh ((Below.refl _ _).alloc (Nat.le_refl _) _) fun b hb => by
      rcases hb with rfl | hb
      · exact .inr ⟨Nat.le_refl _, by simp⟩
      · exact hb.elim, h.bl.size, fun e => e, ⟨hid, (by show 0 < _; omega), (by show 0 < _; omega), .inl rfl⟩⟩)
  clear hid
  unfold ssL at HF
  go_enter Try.func5, Try.ntmps5
  go_wp2_with (go_at_call 18; (with_reducible refine HN.out.mono ?_); rintro e w1 ⟨p, rfl, hO1⟩; have H1 := Lib.hid (HF.out w1 p hO1); clear hO1)
  go_ret
  exact ⟨_, _, rfl, H1.out⟩
section
variable {w0 W : World} {q p : Nat} {X : SS} {F : Nat → Prop}
theorem sm_state (h : Sm w0 W q p X F) : Calls Try.prog 17 #[.pointer (some ⟨q, 0, none⟩)] W fun e w' => e = .returned (.int .i64 X.st) ∧ w' = W := by
  have h2 := h.c2
  clear h
  go_enter Try.func17, Try.ntmps17
  go_wp2
  go_ret
  exact ⟨rfl, rfl⟩
theorem sm_sent (h : Sm w0 W q p X F) : Calls Try.prog 13 #[.pointer (some ⟨q, 0, none⟩)] W fun e w' => e = .returned (.int .u64 X.o.gn) ∧ w' = W := by
  have h4 := h.c4
  have HS := Lib.hid (oz_sent h.oz)
  clear h
  go_enter Try.func13, Try.ntmps13
  go_wp2_with (go_at_call 26; (with_reducible refine HS.out.mono ?_); rintro e w1 ⟨rfl, hw⟩; rw [hw]; clear hw)
  go_ret
  exact ⟨rfl, rfl⟩
set_option maxRecDepth 100000 in
theorem sm_write_closed (h : Sm w0 W q p X F) (hcl : X.cl = true) (A : Option Addr) (n c : Nat) : Calls Try.prog 7 #[.pointer (some ⟨q, 0, none⟩), .slice A n c] W fun e w' => e = .returned (.tuple #[.int .i64 0, .int .i64 24]) ∧ w' = W := by
  have h3 := h.c3
  rw [hcl] at h3
  clear h hcl
  go_enter Try.func7, Try.ntmps7
  go_wp2
  go_ret2
  exact ⟨rfl, rfl⟩
set_option maxRecDepth 100000 in
theorem sm_write_full (h : Sm w0 W q p X F) (hcl : X.cl = false) (A : Option Addr) (n c : Nat) (hn : 0 < n) (hr : roomO X.o = 0) : Calls Try.prog 7 #[.pointer (some ⟨q, 0, none⟩), .slice A n c] W fun e w' => e = .returned (.tuple #[.int .i64 0, .int .i64 26]) ∧ w' = W := by
  have h3 := h.c3
  have h4 := h.c4
  rw [hcl] at h3
  have HR := Lib.hid (oz_room h.oz)
  rw [hr] at HR
  clear h hcl hr
  have hz : (0 : Int) < (n : Int) := by omega
  go_enter Try.func7, Try.ntmps7
  go_wp2_with (go_at_call 19; (with_reducible refine HR.out.mono ?_); rintro e w1 ⟨rfl, hw⟩; rw [hw]; clear hw)
  go_ret2
  exact ⟨rfl, rfl⟩
set_option maxRecDepth 100000 in
theorem sm_write (h : Sm w0 W q p X F) (hcl : X.cl = false) (A : Option Addr) (n c : Nat) (bs : List Int) (hr : Rd W W.heap.size A n bs) (hnc : n ≤ c) (hn : n < 9223372036854775808) (hc : c < 9223372036854775808) (hR : n = 0 ∨ 0 < roomO X.o) :
    Calls Try.prog 7 #[.pointer (some ⟨q, 0, none⟩), .slice A n c] W (SmPost w0 W q p { X with o := writeO X.o bs } F (.tuple #[.int .i64 (writeN X.o n), .int .i64 0])) := by
  have h3 := h.c3
  have h4 := h.c4
  rw [hcl] at h3
  have HR := Lib.hid (oz_room h.oz)
  have HW := Lib.hid (oz_write h.oz A n c bs hr hnc hn hc)
  have HB := Lib.hid (fun (S' : OS) (r : Value) (e : Ending) (W' : World) (hP : OzPost w0 W p S' (fun b => b = q ∨ F b) r e W') => h.buf hP)
  clear hr hcl
  obtain ⟨R, hRR⟩ : ∃ R, R = roomO X.o := ⟨_, rfl⟩
  rw [← hRR] at HR hR
  clear hRR h
  by_cases hz : n = 0
  · have hz' : ¬ (0 : Int) < (n : Int) := by omega
    clear hR hz
    go_enter Try.func7, Try.ntmps7
    go_wp2_with (go_at_call 20; (with_reducible refine HW.out.mono ?_); intro e w1 hP; obtain ⟨he, hP'⟩ := HB.out _ _ _ _ hP; subst he; have HP := Lib.hid hP'; clear hP hP')
    go_ret2
    exact ⟨rfl, HP.out⟩
  · have hz' : (0 : Int) < (n : Int) := by omega
    have hR' : ¬ (R : Int) = 0 := by omega
    have hRb : ((R : Int) == 0) = false := by simpa using hR'
    clear hR hz
    go_enter Try.func7, Try.ntmps7
    go_wp2_with (first
      | (go_at_call 19; (with_reducible refine HR.out.mono ?_); rintro e w1 ⟨rfl, hw⟩; rw [hw]; clear hw)
      | (go_at_call 20; (with_reducible refine HW.out.mono ?_); intro e w1 hP; obtain ⟨he, hP'⟩ := HB.out _ _ _ _ hP; subst he; have HP := Lib.hid hP'; clear hP hP'))
    go_ret2
    exact ⟨rfl, HP.out⟩
theorem sm_finish_closed (h : Sm w0 W q p X F) (hcl : X.cl = true) : Calls Try.prog 8 #[.pointer (some ⟨q, 0, none⟩)] W fun e w' => e = .returned (.int .i64 24) ∧ w' = W := by
  have h3 := h.c3
  rw [hcl] at h3
  clear h hcl
  go_enter Try.func8, Try.ntmps8
  go_wp2
  go_ret
  exact ⟨rfl, rfl⟩
theorem sm_finish (h : Sm w0 W q p X F) (hcl : X.cl = false) : Calls Try.prog 8 #[.pointer (some ⟨q, 0, none⟩)] W (SmPost w0 W q p { X with cl := true, o := finO X.o } F (.int .i64 0)) := by
  have h3 := h.c3
  rw [hcl] at h3
  obtain ⟨h1, g1, s1⟩ := h.top (X' := { X with cl := true }) ((Kept.refl _ W).setAt 3 (.bool true)) (h.at_.set 3 (.bool true)) rfl ⟨h.ok.id, h.ok.lim, h.ok.code, h.ok.st⟩
  have f3 := h.at_.frozen 3
  have h4 := h1.c4
  have HW := Lib.hid (oz_finish h1.oz)
  have HB := Lib.hid (fun (S' : OS) (r : Value) (e : Ending) (W' : World) (hP : OzPost w0 (W.setCell ⟨q, 3, none⟩ (.bool true)) p S' (fun b => b = q ∨ F b) r e W') => h1.buf hP)
  have HG := Lib.hid g1
  have HS := Lib.hid s1
  clear h hcl h1 g1 s1
  go_enter Try.func8, Try.ntmps8
  go_wp2_with (go_at_call 21; (with_reducible refine HW.out.mono ?_); intro e w1 hP; obtain ⟨he, hP'⟩ := HB.out _ _ _ _ hP; subst he; have HP := Lib.hid hP'; clear hP hP')
  go_ret
  exact ⟨rfl, HP.out.1, fun b hb => (HP.out.2.1 b hb).trans (HG.out b hb), Nat.le_trans HS.out HP.out.2.2⟩
theorem sm_reset_no (h : Sm w0 W q p X F) (hst : 4 ≤ X.st) (code : Nat) : Calls Try.prog 9 #[.pointer (some ⟨q, 0, none⟩), .int .u64 code] W fun e w' => e = .returned (.int .i64 24) ∧ w' = W := by
  have h2 := h.c2
  have hk : X.st = 4 ∨ X.st = 5 ∨ X.st = 6 := by have := h.ok.st; omega
  clear h hst
  rcases hk with hk | hk | hk
  all_goals
    rw [hk] at h2
    clear hk
    go_enter Try.func9, Try.ntmps9
    go_wp2
    go_ret
    exact ⟨rfl, rfl⟩
set_option maxHeartbeats 1000000 in
theorem sm_reset (h : Sm w0 W q p X F) (hst : X.st ≤ 3) (code : Nat) (hc : code ≤ 4611686018427387903) : Calls Try.prog 9 #[.pointer (some ⟨q, 0, none⟩), .int .u64 code] W (SmPost w0 W q p { X with st := 5, cl := true, code := code, due := true } F (.int .i64 0)) := by
  have h2 := h.c2
  have hk : X.st = 1 ∨ X.st = 2 ∨ X.st = 3 := by have := h.ok.st; omega
  have hz : ¬ (4611686018427387903 : Int) < (code : Int) := by omega
  have f2 := fun j => h.at_.frozen j
  have HT := Lib.hid (h.top (X' := { X with st := 5, cl := true, code := code, due := true }) (((((Kept.refl _ W).setAt 2 (.int .i64 5)).setAt 3 (.bool true)).setAt 5 (.int .u64 code)).setAt 6 (.bool true)) ((((h.at_.set 2 (.int .i64 5)).set 3 (.bool true)).set 5 (.int .u64 code)).set 6 (.bool true)) rfl ⟨h.ok.id, h.ok.lim, by show code < _; omega, .inr (.inr (.inr (.inr (.inl rfl))))⟩)
  have h3 := h.c3
  have h5 := h.c5
  have h6 := h.c6
  clear h hst hc
  rcases hk with hk | hk | hk
  all_goals
    rw [hk] at h2
    clear hk
    go_enter Try.func9, Try.ntmps9
    go_wp2
    go_ret
    exact ⟨rfl, HT.out⟩
theorem sm_limit (h : Sm w0 W q p X F) (n : Nat) (hn : n < 18446744073709551616) : Calls Try.prog 10 #[.pointer (some ⟨q, 0, none⟩), .int .u64 n] W (SmPost w0 W q p { X with lim := max X.lim n } F (.tuple #[])) := by
  have h1 := h.c1
  have f1 := h.at_.frozen 1
  have HT := fun v hv => (h.top (X' := { X with lim := v }) ((Kept.refl _ W).setAt 1 (.int .u64 v)) (h.at_.set 1 (.int .u64 v)) rfl ⟨h.ok.id, hv, h.ok.code, h.ok.st⟩)
  have hl := h.ok.lim
  clear h
  rcases Nat.lt_or_ge X.lim n with hlt | hge
  · have HT := Lib.hid (HT n hn)
    rw [Nat.max_eq_right (by omega)]
    have hz : (X.lim : Int) < (n : Int) := by omega
    have hz2 : (X.lim : Int) ≤ (n : Int) := by omega
    clear hlt
    go_enter Try.func10, Try.ntmps10
    go_wp2
    go_end0
    exact ⟨rfl, HT.out⟩
  · have HT := Lib.hid (HT X.lim hl)
    rw [Nat.max_eq_left (by omega)]
    have hz : ¬ (X.lim : Int) < (n : Int) := by omega
    clear hge
    go_enter Try.func10, Try.ntmps10
    go_wp2
    go_end0
    exact ⟨rfl, HT.out⟩
end
end
section
set_option linter.unusedVariables false
open Go.RowKit
/-- A frame's numbers. -/
structure FN where
  k : Int
  s : Int
  o : Int
  fin : Bool
  l : Int
  c : Int
  f : Int
  q : Int
  y : Int
  c0 : Int
  c1 : Int
  c2 : Int
  c3 : Int
  c4 : Int
  c5 : Int
  c6 : Int
  c7 : Int
def frL (m : FN) (d r : Sl) : List Value := [.int .i64 m.k, .int .u64 m.s, .int .u64 m.o, .slice d.A d.n d.c, .bool m.fin, .int .u64 m.l, .int .u64 m.c, .int .u64 m.f, .int .u64 m.q, .int .u64 m.y, .slice r.A r.n r.c,
  .int .u8 m.c0, .int .u8 m.c1, .int .u8 m.c2, .int .u8 m.c3, .int .u8 m.c4, .int .u8 m.c5, .int .u8 m.c6, .int .u8 m.c7]
def frV (m : FN) (d r : Sl) : Value := .agg (frL m d r).toArray
def FN.zero (k : Int) : FN := ⟨k, 0, 0, false, 0, 0, 0, 0, 0, 0, 0, 0, 0, 0, 0, 0, 0⟩
def askN (m : FN) : FN :=
  if m.k = 2 then { FN.zero 2 with y := m.y }
  else if m.k = 4 then { FN.zero 4 with s := m.s, c := m.c, f := m.f }
  else if m.k = 5 then { FN.zero 5 with s := m.s, c := m.c }
  else if m.k = 6 then { FN.zero 6 with o := m.o }
  else if m.k = 8 then { FN.zero 8 with s := m.s, o := m.o, fin := m.fin }
  else if m.k = 16 then { FN.zero 16 with l := m.l }
  else if m.k = 18 then { FN.zero 18 with l := m.l }
  else if m.k = 20 then { FN.zero 20 with l := m.l }
  else if m.k = 17 then { FN.zero 17 with s := m.s, l := m.l }
  else if m.k = 24 then { m with s := 0, o := 0, fin := false, c := 0, f := 0, y := 0 }
  else if m.k = 25 then { FN.zero 25 with q := m.q }
  else if m.k = 26 then { m with s := 0, o := 0, fin := false, l := 0, c := 0, f := 0, q := 0, y := 0 }
  else if m.k = 27 then { m with s := 0, o := 0, fin := false, l := 0, c := 0, f := 0, q := 0, y := 0 }
  else if m.k = 28 then { FN.zero 28 with c := m.c }
  else FN.zero m.k
def knownB (k : Int) : Bool := k == 0 || k == 1 || k == 30 || k == 2 || k == 4 || k == 5 || k == 6 || k == 8 || k == 16 || k == 18 || k == 20 || k == 17 || k == 24 || k == 25 || k == 26 || k == 27 || k == 28
/-- Does the Kind ask Data, does it ask Ranges? -/
def askD (k : Int) (d : Sl) : Sl := if k = 6 ∨ k = 8 ∨ k = 28 then d else .nil
def askR (k : Int) (r : Sl) : Sl := if k = 2 then r else .nil
theorem kind_cases (k : Int) : k = 0 ∨ k = 1 ∨ k = 30 ∨ k = 2 ∨ k = 4 ∨ k = 5 ∨ k = 6 ∨ k = 8 ∨ k = 16 ∨ k = 18 ∨ k = 20 ∨ k = 17 ∨ k = 24 ∨ k = 25 ∨ k = 26 ∨ k = 27 ∨ k = 28 ∨
    ((k == 0) = false ∧ (k == 1) = false ∧ (k == 30) = false ∧ (k == 2) = false ∧ (k == 4) = false ∧ (k == 5) = false ∧ (k == 6) = false ∧ (k == 8) = false ∧ (k == 16) = false ∧ (k == 18) = false ∧ (k == 20) = false ∧ (k == 17) = false ∧ (k == 24) = false ∧ (k == 25) = false ∧ (k == 26) = false ∧ (k == 27) = false ∧ (k == 28) = false) := by
  simp only [beq_eq_false_iff_ne]
  omega
section
variable {ops : Array Oper} {rest : List Oper} {a : Act} {w : World} {Q : Exit → Act → World → Prop} {dst : Option Tmp} {x y : Operand} {t : TypeId} {pos : String} {after : Array Edge}
theorem ld_fr (p : Nat) (l : List Value) (hx : a.eval x = .pointer (some ⟨p, 0, none⟩)) (hA : At w p 43 l) (hl : l.length = 19)
    (h : wpList Try.prog ops Q rest (a.put dst (.agg l.toArray)) w) : wpList Try.prog ops Q (⟨dst, .load 43 x, t, pos, after, none⟩ :: rest) a w :=
  wpList_load_at p _ l _ hx hA Try.underlying43 rfl (by rw [hl]; kernel_rfl) h
theorem st_top (w0 : World) (l l' : List Value) (hw : w = w0.alloc (.cells l.toArray 43)) (g : Nat) (hx : a.eval x = .pointer (some ⟨g, 0, none⟩)) (hg : g = w0.heap.size) (hy : a.eval y = .agg l'.toArray) (hl : l.length = 19) (hl' : l'.length = 19)
    (h1 : l'.all (·.oneCell') = true) (h : wpList Try.prog ops Q rest (a.put dst undef) (w0.alloc (.cells l'.toArray 43))) :
    wpList Try.prog ops Q (⟨dst, .store 43 x y, t, pos, after, none⟩ :: rest) a w :=
  wpList_store_top w0 _ l l' hw g hx hg hy (hl.trans hl'.symm) (by rw [hl']; kernel_rfl) h1 h
theorem st_at (p : Nat) (l l' : List Value) (hx : a.eval x = .pointer (some ⟨p, 0, none⟩)) (hy : a.eval y = .agg l'.toArray) (hA : At w p 43 l) (hl : l.length = 19) (hl' : l'.length = 19)
    (h1 : l'.all (·.oneCell') = true) (h : ∀ w', At w' p 43 l' → Kept (· = p) w w' → wpList Try.prog ops Q rest (a.put dst undef) w') :
    wpList Try.prog ops Q (⟨dst, .store 43 x y, t, pos, after, none⟩ :: rest) a w :=
  wpList_store_at p _ l l' hx hy hA (hl.trans hl'.symm) (by rw [hl']; kernel_rfl) h1 h
theorem at_ld {g : Option (Nat × Bool)} (h : wpList Try.prog ops Q (⟨dst, .load 43 x, t, pos, after, g⟩ :: rest) a w) : wpList Try.prog ops Q (⟨dst, .load 43 x, t, pos, after, g⟩ :: rest) a w := h
theorem at_st {g : Option (Nat × Bool)} (h : wpList Try.prog ops Q (⟨dst, .store 43 x y, t, pos, after, g⟩ :: rest) a w) : wpList Try.prog ops Q (⟨dst, .store 43 x y, t, pos, after, g⟩ :: rest) a w := h
end
end
end Go.Proofs.Ytohahkjikhpamaa
