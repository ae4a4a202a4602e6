/-
  The program's sender and the document's, in the same state: Next of the document's; both beside each other (Tw).
-/
import Derived.Test.YtbejpafephofaaaGreatZo
import Derived.Test.YtbejpafephofaaaGreatMq0
import Derived.Test.YtbejpafephofaaaGreatMq13
import Derived.IntWalk
import Derived.Test.YtbejpafephofaaaGreatMq16
namespace Go.Proofs.YtbejpafephofaaaGreat
section
set_option linter.unusedVariables false
set_option linter.unusedSimpArgs false
open Go.RowKit
/-- What holds of both. -/
structure I16 (X : SS) (fr : List Value) (dd : Bool) : Prop where
  st : 1 ≤ X.st ∧ X.st ≤ 6
  cl : X.cl = (X.o.ov || decide (5 ≤ X.st))
  s3 : X.st = 3 → X.o.ov = true ∧ wholeO X.o = false
  s4 : X.st = 4 → X.o.ov = true ∧ wholeO X.o = true
  s5 : X.st = 5 → fr = frL (m4 X.id X.code X.o.gn) .nil .nil ∧ dd = X.due ∧ X.code ≤ 4611686018427387903
  s6 : X.st = 6 → dd = false
  id : X.id ≤ 1000
theorem i16_0 (id : Nat) (h : id ≤ 1000) : I16 (ss0 id) zFr false := ⟨⟨Nat.le_refl _, by show 1 ≤ 6; omega⟩, rfl, fun e => by have : (1 : Nat) = 3 := e; omega, fun e => by have : (1 : Nat) = 4 := e; omega, fun e => by have : (1 : Nat) = 5 := e; omega, fun e => by have : (1 : Nat) = 6 := e; omega, h⟩
theorem whole_ack {S : OS} (h : wholeO S = true) (off n : Nat) (fin : Bool) : wholeO (ackO S off n fin) = true := by
  unfold wholeO at h ⊢
  simp only [Bool.and_eq_true, decide_eq_true_eq] at h ⊢
  obtain ⟨⟨h1, h2⟩, h3⟩ := h
  refine ⟨⟨h1, ?_⟩, ?_⟩
  · have k1 := ackO_base S off n fin
    have k2 := baseO_le (ackO S off n fin)
    have e : (ackO S off n fin).bs.length = S.bs.length := rfl
    omega
  · show (S.ea || _) = true
    rw [h3]
    rfl
theorem whole_lost (S : OS) (off n : Nat) (fin : Bool) : wholeO (lostO S off n fin) = wholeO S := rfl
theorem whole_next (S : OS) (most limit : Nat) : wholeO (nextO S most limit) = wholeO S := rfl
section
variable {X X' : SS} {fr : List Value} {dd : Bool}
theorem I16.lost (h : I16 X fr dd) (off n : Nat) (fin : Bool) : I16 (lostX X off n fin) fr dd := ⟨h.st, h.cl, fun e => ⟨(h.s3 e).1, (whole_lost X.o off n fin).trans (h.s3 e).2⟩, fun e => ⟨(h.s4 e).1, (whole_lost X.o off n fin).trans (h.s4 e).2⟩, h.s5, h.s6, h.id⟩
theorem I16.acked (h : I16 X fr dd) (off n : Nat) (fin : Bool) : I16 (ackX X off n fin) fr dd := by
  have hst := h.st
  by_cases h3 : X.st = 3 ∧ wholeO (ackO X.o off n fin) = true
  · have e : ackX X off n fin = { X with o := ackO X.o off n fin, st := 4 } := by unfold ackX; rw [if_pos h3]
    rw [e]
    refine ⟨⟨by show 1 ≤ 4; omega, by show 4 ≤ 6; omega⟩, ?_, fun e => by have : (4 : Nat) = 3 := e; omega, fun _ => ⟨(h.s3 h3.1).1, h3.2⟩, fun e => by have : (4 : Nat) = 5 := e; omega, fun e => by have : (4 : Nat) = 6 := e; omega, h.id⟩
    show X.cl = (X.o.ov || decide (5 ≤ 4))
    rw [h.cl, (h.s3 h3.1).1]
    rfl
  · have e : ackX X off n fin = { X with o := ackO X.o off n fin } := by unfold ackX; rw [if_neg h3]
    rw [e]
    refine ⟨hst, h.cl, fun e => ⟨(h.s3 e).1, ?_⟩, fun e => ⟨(h.s4 e).1, whole_ack (h.s4 e).2 _ _ _⟩, h.s5, h.s6, h.id⟩
    show wholeO (ackO X.o off n fin) = false
    cases hw : wholeO (ackO X.o off n fin) with
    | false => rfl
    | true => exact absurd ⟨e, hw⟩ h3
theorem I16.next (h : I16 X fr dd) {room : Int} {more : Nat} {L : List Value} {b : Bool} {v : Value} {bs : List Int} (hok : X.o.ok) (hg : NxG X room more L b X' v bs) : I16 X' fr (if X.st = 5 ∧ b = true then false else dd) := by
  have hst := h.st
  rcases hg with ⟨rfl, _, _, _, rfl⟩ | ⟨rfl, k, _, rfl⟩ | ⟨rfl, k, rfl, _⟩
  · rw [if_neg (by simp)]
    exact h
  · rw [if_pos ⟨k.1, rfl⟩]
    exact ⟨hst, h.cl, fun e => by have := k.1; have e' : X.st = 3 := e; omega, fun e => by have := k.1; have e' : X.st = 4 := e; omega, fun e => ⟨(h.s5 e).1, rfl, (h.s5 e).2.2⟩, fun _ => rfl, h.id⟩
  · have h3 := k.1
    rw [if_neg (fun e => by have := e.1; omega)]
    obtain ⟨_, _, k3, _, _⟩ := nextR_in hok (moS room) (lmS X more)
    have hs : stS X.st (nextR X.o (moS room) (lmS X more)).fin ≤ 3 ∧ 1 ≤ stS X.st (nextR X.o (moS room) (lmS X more)).fin := by
      unfold stS
      split
      · omega
      · split <;> omega
    have hcl : X.cl = X.o.ov := by rw [h.cl, show decide (5 ≤ X.st) = false by simp; omega, Bool.or_false]
    refine ⟨⟨hs.2, by show stS X.st _ ≤ 6; omega⟩, ?_, fun e => ?_, fun e => ?_, fun e => ?_, fun e => ?_, h.id⟩
    · show X.cl = (X.o.ov || decide (5 ≤ stS X.st _))
      rw [hcl, show decide (5 ≤ stS X.st (nextR X.o (moS room) (lmS X more)).fin) = false by simp; omega, Bool.or_false]
    · have e' : stS X.st (nextR X.o (moS room) (lmS X more)).fin = 3 := e
      cases hf : (nextR X.o (moS room) (lmS X more)).fin with
      | true =>
        obtain ⟨_, j2, _⟩ := k3 hf
        unfold endO at j2
        simp only [Bool.and_eq_true] at j2
        refine ⟨j2.1.1, (whole_next X.o _ _).trans ?_⟩
        have : X.o.ea = false := by simpa using j2.1.2
        unfold wholeO
        rw [this, Bool.and_false]
      | false =>
        rw [hf] at e'
        unfold stS at e'
        simp only [Bool.false_eq_true, if_false] at e'
        have hx3 : X.st = 3 := by split at e' <;> omega
        exact ⟨(h.s3 hx3).1, (whole_next X.o _ _).trans (h.s3 hx3).2⟩
    · have e' : stS X.st (nextR X.o (moS room) (lmS X more)).fin = 4 := e
      omega
    · have e' : stS X.st (nextR X.o (moS room) (lmS X more)).fin = 5 := e
      omega
    · have e' : stS X.st (nextR X.o (moS room) (lmS X more)).fin = 6 := e
      omega
end
section
variable {w0 W W' : World} {q qm p : Nat} {O : Nat → Prop} {X X' : SS} {fr : List Value} {dd : Bool} {G : Nat → Prop}
theorem rx_next (h : Dm w0 W q O X fr dd) (hi : I16 X fr dd) (hlim : X.lim < 18446744073709551616) (room : Int) (more : Nat) (hm : more < 18446744073709551616) : Calls Tryz.prog 23 #[.pointer (some ⟨q, 0, none⟩), .int .i64 room, .int .u64 more] W (RxPost w0 W q O X room more fr dd) := by
  have hst := hi.st
  rcases Nat.lt_or_ge X.st 5 with h5 | h5
  · rcases Int.lt_or_le room 20 with hr | hr
    · exact rx_none4 h (by omega) room hr more (fun k => by have := k.2.1; omega) (fun k => by have := k.1; omega)
    · exact rx_bytes h (by omega) hst.1 (fun e => (hi.s4 e).2) hlim room hr more hm
  · by_cases e5 : X.st = 5
    · obtain ⟨s1, s2, s3⟩ := hi.s5 e5
      cases hd : dd with
      | true =>
        subst hd
        exact rx_reset h e5 s1 hi.id s3 rfl s2.symm room more
      | false =>
        subst hd
        exact rx_none5 h h5 rfl room more (fun k => by have := k.1; omega) (fun k => by have k2 := k.2.1; rw [← s2] at k2; cases k2)
    · have e6 : X.st = 6 := by omega
      have := hi.s6 e6
      subst this
      exact rx_none5 h h5 rfl room more (fun k => by have := k.1; omega) (fun k => by have := k.1; omega)
/-- Both, beside each other, and blocks of the law's own, G. -/
structure Tw (w0 W : World) (q p qm : Nat) (O : Nat → Prop) (X : SS) (fr : List Value) (dd : Bool) (G : Nat → Prop) : Prop where
  sm : Sm w0 W q p X (fun b => O b ∨ G b)
  dm : Dm w0 W qm O X fr dd
  inv : I16 X fr dd
  gb : ∀ b, G b → w0.heap.size ≤ b ∧ ¬ O b
theorem Tw.bl (h : Tw w0 W q p qm O X fr dd G) : Below w0.heap.size w0 W := h.sm.bl
theorem Tw.below (h : Tw w0 W q p qm O X fr dd G) (k : Below W.heap.size W W') : Tw w0 W' q p qm O X fr dd G := { h with sm := h.sm.below k, dm := h.dm.below k }
theorem Tw.Glt (h : Tw w0 W q p qm O X fr dd G) : ∀ b, G b → b < W.heap.size := fun b hb => h.sm.Flt b (.inr hb)
/-- The program's call. -/
theorem Tw.prog (h : Tw w0 W q p qm O X fr dd G) (hS : Sm w0 W' q p X' (fun b => O b ∨ G b)) (hk : ∀ b, (O b ∨ G b) → W'.heap[b]? = W.heap[b]?) (hs : W.heap.size ≤ W'.heap.size) : Dm w0 W' qm O X fr dd ∧ ∀ b, G b → W'.heap[b]? = W.heap[b]? := by
  have b1 := h.bl
  have b2 := hS.bl
  have k : Kept (fun b => ¬ (O b ∨ G b)) W W' := ⟨b2.os.trans b1.os.symm, b2.tape.trans b1.tape.symm, b2.output.trans b1.output.symm, hs, fun j _ hj => hk j (Classical.byContradiction hj)⟩
  exact ⟨h.dm.kept k (fun b hb hn => hn (.inl hb)) b2, fun b hb => hk b (.inr hb)⟩
/-- .. and behind it the document's. -/
theorem tw_doc {O' : Nat → Prop} {fr' : List Value} {dd' : Bool} {W2 : World} (hS : Sm w0 W' q p X' (fun b => O b ∨ G b)) (hg : ∀ b, G b → w0.heap.size ≤ b ∧ ¬ O b) (hD : Dm w0 W2 qm O' X' fr' dd') (hk : Kept O W' W2) (ho : ∀ j, O' j → O j ∨ W'.heap.size ≤ j) (hOb : ∀ j, O j → w0.heap.size ≤ j) (hi : I16 X' fr' dd') :
    Tw w0 W2 q p qm O' X' fr' dd' G ∧ ∀ b, G b → W2.heap[b]? = W'.heap[b]? := by
  have hgl : ∀ b, G b → b < W'.heap.size := fun b hb => hS.Flt b (.inr hb)
  have hS2 : Sm w0 W2 q p X' (fun b => O' b ∨ G b) := hS.change (hk.mono fun j hj => .inl (.inl hj)) (fun b hb => hb.elim (hOb b) (fun hb => (hg b hb).1)) fun b hb => by
    rcases hb with hb | hb
    · rcases ho b hb with h' | h'
      · exact .inl (.inl h')
      · exact .inr ⟨h', (hD.lt b hb).2⟩
    · exact .inl (.inr hb)
  refine ⟨⟨hS2, hD, hi, fun b hb => ⟨(hg b hb).1, fun hb' => ?_⟩⟩, fun b hb => hk.block b (hgl b hb) (hg b hb).2⟩
  rcases ho b hb' with h' | h'
  · exact (hg b hb).2 h'
  · have := hgl b hb; omega
end
end
section
set_option linter.unusedVariables false
set_option linter.unusedSimpArgs false
open Go.RowKit
section
variable {w0 W : World} {q qm p pw : Nat} {O : Nat → Prop} {X : SS} {fr : List Value} {dd : Bool} {G : Nat → Prop}
theorem sm_len_q {F : Nat → Prop} (h : Sm w0 W q p X F) (hL : X.o.bs.length ≤ 1099511627776) : Calls Tryz.prog 48 #[.pointer (some ⟨q, 0, none⟩)] W fun e w' => e = .returned (.int .u64 X.o.bs.length) ∧ ∃ d, w' = W.drewN d := by
  have h4 := h.c4
  obtain ⟨O, h1, h2⟩ := h.oz.bf
  have HS := Lib.hid (olen_any h1 hL)
  clear h hL h1 h2
  go_enter Tryz.func48, Tryz.ntmps48
  go_wp2_with (go_at_call 62; (with_reducible refine HS.out.mono ?_); rintro e w1 ⟨rfl, dn, hw⟩; rw [hw]; clear hw)
  go_ret
  exact ⟨rfl, _, rfl⟩
set_option maxRecDepth 100000 in
set_option maxHeartbeats 8000000 in
theorem same16_any (h : Tw w0 W q p qm O X fr dd G) (told : Value) (hA : At W pw 31 [.pointer (some ⟨q, 0, none⟩), .pointer (some ⟨qm, 0, none⟩), told]) :
    Calls Tryz.prog 25 #[.pointer (some ⟨pw, 0, none⟩)] W fun e w' => e = .returned (.bool true) ∧ ∃ d, w' = W.drewN d := by
  have p0 := hA.cell 0
  have p1 := hA.cell 1
  simp only [List.getElem?_cons_zero, List.getElem?_cons_succ] at p0 p1
  have hle := h.dm.le
  have hgl := h.dm.ok.gl
  have m2 := h.dm.c2
  have m6 := h.dm.c6
  obtain ⟨Ab, cb, m3⟩ := h.dm.c3
  have H1 := Lib.hid (fun d => Calls.quiet_of_same (sm_state (h.sm.drewN d)))
  have H2 := Lib.hid (fun d => Calls.quiet_of_same (sm_sent (h.sm.drewN d)))
  have H3 : Hid (∀ d, Calls Tryz.prog 48 #[.pointer (some ⟨q, 0, none⟩)] (W.drewN d) fun e w' => e = .returned (.int .u64 X.o.bs.length) ∧ ∃ m, w' = W.drewN m) := Lib.hid (fun d => (sm_len_q (h.sm.drewN d) (by omega)).mono fun e w' ⟨he, k, hw⟩ => ⟨he, d + k, by rw [hw]; exact World.drewN_drewN _ _ _⟩)
  have wgn : IntKind.u64.wrap (X.o.gn : Int) = (X.o.gn : Int) := by rw [IntKind.wrap_u64]; omega
  have wln : IntKind.u64.wrap (X.o.bs.length : Int) = (X.o.bs.length : Int) := by rw [IntKind.wrap_u64]; omega
  clear h hA hle hgl
  generalize X.o.bs.length = len at *
  go_enter Tryz.func25, Tryz.ntmps25
  go_wp2
  go_quiet ((first | (go_at_call 26; (with_reducible exact H1.out _)) | (go_at_call 27; (with_reducible exact H2.out _)) | (go_at_call 48; (with_reducible exact H3.out _))))
  go_wp2
  go_ret
  exact ⟨by first | rfl | simp, _, rfl⟩
end
end
section
set_option linter.unusedVariables false
set_option linter.unusedSimpArgs false
open Go.RowKit
/-- The program's call is done, the document's is not. -/
def Half (w0 W w1 : World) (q p qm : Nat) (O : Nat → Prop) (X X' : SS) (fr : List Value) (dd : Bool) (G : Nat → Prop) : Prop :=
  Sm w0 w1 q p X' (fun b => O b ∨ G b) ∧ Dm w0 w1 qm O X fr dd ∧ (∀ b, G b → w1.heap[b]? = W.heap[b]?) ∧ W.heap.size ≤ w1.heap.size
/-- Both are done. -/
def Full (w0 W w2 : World) (q p qm : Nat) (X' : SS) (G : Nat → Prop) : Prop :=
  ∃ O' fr' dd', Tw w0 w2 q p qm O' X' fr' dd' G ∧ (∀ b, G b → w2.heap[b]? = W.heap[b]?) ∧ W.heap.size ≤ w2.heap.size
def Nx (X X' : SS) : Prop := X'.id = X.id ∧ X'.o.bs.length ≤ X.o.bs.length + 60
theorem Nx.refl (X : SS) : Nx X X := ⟨rfl, by omega⟩
theorem Nx.bs {X X' : SS} (h1 : X'.id = X.id) (h2 : X'.o.bs = X.o.bs) : Nx X X' := ⟨h1, by rw [h2]; omega⟩
section
variable {w0 W w1 : World} {q qm p : Nat} {O : Nat → Prop} {X X' : SS} {fr fr' : List Value} {dd dd' : Bool} {G : Nat → Prop}
theorem half_of (h : Tw w0 W q p qm O X fr dd G) {r : Value} {e : Ending} (hP : SmPost w0 W q p X' (fun b => O b ∨ G b) r e w1) : e = .returned r ∧ Half w0 W w1 q p qm O X X' fr dd G := by
  obtain ⟨he, hS, hk, hs⟩ := hP
  obtain ⟨k1, k2⟩ := h.prog hS hk hs
  exact ⟨he, hS, k1, k2, hs⟩
theorem half_same (h : Tw w0 W q p qm O X fr dd G) : Half w0 W W q p qm O X X fr dd G := ⟨h.sm, h.dm, fun _ _ => rfl, Nat.le_refl _⟩
theorem full_of (h : Tw w0 W q p qm O X fr dd G) (hH : Half w0 W w1 q p qm O X X' fr dd G) {r : Value} {e : Ending} {w2 : World} (hP : DmPost w0 w1 qm O X' fr' dd' r e w2) (hi : I16 X' fr' dd') : e = .returned r ∧ Full w0 W w2 q p qm X' G := by
  obtain ⟨he, O', hD, hk, ho⟩ := hP
  obtain ⟨k1, k2⟩ := tw_doc hH.1 h.gb hD hk ho (fun j hj => (h.dm.lt j hj).1) hi
  exact ⟨he, O', fr', dd', k1, fun b hb => (k2 b hb).trans (hH.2.2.1 b hb), Nat.le_trans hH.2.2.2 hk.size⟩
theorem Tw.cl_no (h : Tw w0 W q p qm O X fr dd G) (hc : X.cl = true) : X.o.ov = true ∨ 4 < X.st := by
  have := h.inv.cl
  rw [hc] at this
  rcases Bool.eq_false_or_eq_true X.o.ov with h1 | h1
  · exact .inl h1
  · rw [h1] at this
    simp at this
    exact .inr (by omega)
theorem Tw.cl_yes (h : Tw w0 W q p qm O X fr dd G) (hc : X.cl = false) : X.o.ov = false ∧ X.st ≤ 4 := by
  have := h.inv.cl
  rw [hc] at this
  rcases Bool.eq_false_or_eq_true X.o.ov with h1 | h1
  · rw [h1] at this; simp at this
  · rw [h1] at this
    simp at this
    exact ⟨h1, by omega⟩
theorem two_fin (h : Tw w0 W q p qm O X fr dd G) : ∃ (X' : SS) (x : Int), Nx X X' ∧ Calls Tryz.prog 12 #[.pointer (some ⟨q, 0, none⟩)] W (fun e w1 => e = .returned (.int .i64 x) ∧ Half w0 W w1 q p qm O X X' fr dd G) ∧
    ∀ w1, Half w0 W w1 q p qm O X X' fr dd G → Calls Tryz.prog 13 #[.pointer (some ⟨qm, 0, none⟩)] w1 (fun e w2 => e = .returned (.int .i64 x) ∧ Full w0 W w2 q p qm X' G) := by
  have hst := h.inv.st
  cases hc : X.cl with
  | true =>
    refine ⟨X, 24, Nx.refl X, (sm_finish_closed h.sm hc).mono fun e w1 ⟨he, hw⟩ => ⟨he, by rw [hw]; exact half_same h⟩, fun w1 hH => ?_⟩
    exact (rm_finish_no hH.2.1 (h.cl_no hc)).mono fun e w2 hP => full_of h hH hP h.inv
  | false =>
    obtain ⟨ho, h4⟩ := h.cl_yes hc
    refine ⟨{ X with cl := true, o := finO X.o }, 0, Nx.bs rfl rfl, (sm_finish h.sm hc).mono fun e w1 hP => half_of h hP, fun w1 hH => ?_⟩
    refine (rm_finish hH.2.1 ho h4 true).mono fun e w2 hP => full_of h hH hP ⟨hst, rfl, fun e => ?_, fun e => ?_, fun e => ?_, fun e => ?_, h.inv.id⟩
    · have := (h.inv.s3 e).1; rw [ho] at this; cases this
    · have := (h.inv.s4 e).1; rw [ho] at this; cases this
    · have e' : X.st = 5 := e; omega
    · have e' : X.st = 6 := e; omega
theorem two_stop (h : Tw w0 W q p qm O X fr dd G) (code : Nat) : ∃ (X' : SS) (x : Int), Nx X X' ∧ Calls Tryz.prog 14 #[.pointer (some ⟨q, 0, none⟩), .int .u64 code] W (fun e w1 => e = .returned (.int .i64 x) ∧ Half w0 W w1 q p qm O X X' fr dd G) ∧
    ∀ w1, Half w0 W w1 q p qm O X X' fr dd G → Calls Tryz.prog 15 #[.pointer (some ⟨qm, 0, none⟩), .int .u64 code] w1 (fun e w2 => e = .returned (.int .i64 x) ∧ Full w0 W w2 q p qm X' G) := by
  have hst := h.inv.st
  rcases Nat.lt_or_ge 3 X.st with h4 | h3
  · refine ⟨X, 24, Nx.refl X, (sm_reset_no h.sm h4 code).mono fun e w1 ⟨he, hw⟩ => ⟨he, by rw [hw]; exact half_same h⟩, fun w1 hH => ?_⟩
    exact (rm_stop_no hH.2.1 h4 code).mono fun e w2 hP => full_of h hH hP h.inv
  · rcases Nat.lt_or_ge 4611686018427387903 code with hc | hc
    · refine ⟨X, 1, Nx.refl X, (sm_reset_arg h.sm h3 code hc).mono fun e w1 ⟨he, hw⟩ => ⟨he, by rw [hw]; exact half_same h⟩, fun w1 hH => ?_⟩
      exact (rm_stop_arg hH.2.1 h3 code hc).mono fun e w2 hP => full_of h hH hP h.inv
    · refine ⟨{ X with st := 5, cl := true, code := code, due := true }, 0, Nx.bs rfl rfl, (sm_reset h.sm h3 code hc).mono fun e w1 hP => half_of h hP, fun w1 hH => ?_⟩
      refine (rm_stop hH.2.1 h3 code hc).mono fun e w2 hP => full_of h hH hP ⟨⟨by show 1 ≤ 5; omega, by show 5 ≤ 6; omega⟩, ?_, fun e => ?_, fun e => ?_, fun e => ⟨rfl, rfl, hc⟩, fun e => ?_, h.inv.id⟩
      · show true = (X.o.ov || decide (5 ≤ 5)); simp
      · have : (5 : Nat) = 3 := e; omega
      · have : (5 : Nat) = 4 := e; omega
      · have : (5 : Nat) = 6 := e; omega
theorem two_write (h : Tw w0 W q p qm O X fr dd G) (A : Option Addr) (n c : Nat) (bs : List Int) (hr : Rd w0 w0.heap.size A n bs) (hnc : n ≤ c) (hn : n ≤ 60) (hc : c < 9223372036854775808) (hL : X.o.bs.length ≤ 700000) :
    ∃ (X' : SS) (k x : Int), Nx X X' ∧ Calls Tryz.prog 10 #[.pointer (some ⟨q, 0, none⟩), .slice A n c] W (fun e w1 => e = .returned (.tuple #[.int .i64 k, .int .i64 x]) ∧ Half w0 W w1 q p qm O X X' fr dd G) ∧
    ∀ w1, Half w0 W w1 q p qm O X X' fr dd G → Calls Tryz.prog 11 #[.pointer (some ⟨qm, 0, none⟩), .slice A n c] w1 (fun e w2 => e = .returned (.tuple #[.int .i64 k, .int .i64 x]) ∧ Full w0 W w2 q p qm X' G) := by
  have hst := h.inv.st
  cases hcl : X.cl with
  | true =>
    refine ⟨X, 0, 24, Nx.refl X, (sm_write_closed h.sm hcl A n c).mono fun e w1 ⟨he, hw⟩ => ⟨he, by rw [hw]; exact half_same h⟩, fun w1 hH => ?_⟩
    exact (rm_write_closed hH.2.1 hst.2 (h.cl_no hcl) A n c).mono fun e w2 hP => full_of h hH hP h.inv
  | false =>
    obtain ⟨ho, h4⟩ := h.cl_yes hcl
    by_cases hR : n = 0 ∨ 0 < roomO X.o
    · have hlen : bs.length = n := hr.1
      refine ⟨{ X with o := writeO X.o bs }, _, 0, ⟨rfl, ?_⟩, (sm_write h.sm hcl A n c bs ((hr.below h.bl).more h.bl.size) hnc (by omega) hc hR).mono fun e w1 hP => half_of h hP, fun w1 hH => ?_⟩
      · show (X.o.bs ++ bs.take _).length ≤ _
        rw [List.length_append, List.length_take]
        omega
      · have hb1 := hH.1.bl
        have hrd : RdP w1 (fun b => ¬ O b) A n bs := (RdP.of_rd (hr.below hb1) hb1.size).mono fun b _ hb e => by have := (h.dm.lt b e).1; omega
        refine (rm_write hH.2.1 ho h4 A n c bs hrd hnc (by omega) hL hR).mono fun e w2 hP => full_of h hH hP ⟨hst, h.inv.cl, fun e => ?_, fun e => ?_, fun e => ?_, fun e => ?_, h.inv.id⟩
        · have := (h.inv.s3 e).1; rw [ho] at this; cases this
        · have := (h.inv.s4 e).1; rw [ho] at this; cases this
        · have e' : X.st = 5 := e; omega
        · have e' : X.st = 6 := e; omega
    · refine ⟨X, 0, 26, Nx.refl X, (sm_write_full h.sm hcl A n c (by omega) (by omega)).mono fun e w1 ⟨he, hw⟩ => ⟨he, by rw [hw]; exact half_same h⟩, fun w1 hH => ?_⟩
      exact (rm_write_full hH.2.1 ho h4 A n c (by omega) (by omega)).mono fun e w2 hP => full_of h hH hP h.inv
/-- A frame that may be turned: none of this stream's, its Reset, a piece. -/
def TurnOk (id : Nat) (m : FN) (d : Sl) : Prop := (m.s ≠ id ∨ (m.k ≠ 8 ∧ m.k ≠ 4)) ∨ (m.s = id ∧ m.k = 4) ∨ (m.s = id ∧ m.k = 8 ∧ d.n < 9223372036854775808 ∧ ∃ off : Nat, m.o = off ∧ off < 18446744073709551616)
theorem two_acked (h : Tw w0 W q p qm O X fr dd G) (hL : X.o.bs.length ≤ 700000) (m : FN) (d r : Sl) (ht : TurnOk X.id m d) : ∃ (X' : SS), Nx X X' ∧ Calls Tryz.prog 19 #[.pointer (some ⟨q, 0, none⟩), frV m d r] W (fun e w1 => e = .returned (.tuple #[]) ∧ Half w0 W w1 q p qm O X X' fr dd G) ∧
    ∀ w1, Half w0 W w1 q p qm O X X' fr dd G → Calls Tryz.prog 21 #[.pointer (some ⟨qm, 0, none⟩), frV m d r, .bool true] w1 (fun e w2 => e = .returned (.tuple #[]) ∧ Full w0 W w2 q p qm X' G) := by
  have hst := h.inv.st
  rcases ht with ht | ⟨hs, hk⟩ | ⟨hs, hk, hdn, off, ho, hob⟩
  · refine ⟨X, Nx.refl X, (sm_acked_other h.sm m d r ht).mono fun e w1 hP => half_of h hP, fun w1 hH => ?_⟩
    exact (rm_turn_other hH.2.1 m d r true ht).mono fun e w2 hP => full_of h hH hP h.inv
  · by_cases h5 : X.st = 5
    · refine ⟨{ X with st := 6 }, Nx.bs rfl rfl, (sm_acked_reset h.sm m d r hk hs h5).mono fun e w1 hP => half_of h hP, fun w1 hH => ?_⟩
      refine (rm_turn_reset_acked hH.2.1 m d r true rfl hk hs h5).mono fun e w2 hP => full_of h hH hP ⟨⟨by show 1 ≤ 6; omega, by show 6 ≤ 6; omega⟩, ?_, fun e => ?_, fun e => ?_, fun e => ?_, fun _ => rfl, h.inv.id⟩
      · show X.cl = (X.o.ov || decide (5 ≤ 6)); rw [h.inv.cl, h5]; simp
      · have : (6 : Nat) = 3 := e; omega
      · have : (6 : Nat) = 4 := e; omega
      · have : (6 : Nat) = 5 := e; omega
    · refine ⟨X, Nx.refl X, (sm_acked_reset_no h.sm m d r hk hs h5).mono fun e w1 hP => half_of h hP, fun w1 hH => ?_⟩
      exact (rm_turn_reset_no hH.2.1 m d r true rfl hk hs h5).mono fun e w2 hP => full_of h hH hP h.inv
  · refine ⟨ackX X off d.n m.fin, Nx.bs rfl rfl, (sm_acked h.sm (by omega) m d r hk hs off ho hob hdn).mono fun e w1 hP => half_of h hP, fun w1 hH => ?_⟩
    exact (rm_turn_acked hH.2.1 m d r hk hs off ho hob hdn).mono fun e w2 hP => full_of h hH hP (h.inv.acked _ _ _)
theorem two_lost (h : Tw w0 W q p qm O X fr dd G) (hL : X.o.bs.length ≤ 700000) (m : FN) (d r : Sl) (ht : TurnOk X.id m d) : ∃ (X' : SS), Nx X X' ∧ Calls Tryz.prog 20 #[.pointer (some ⟨q, 0, none⟩), frV m d r] W (fun e w1 => e = .returned (.tuple #[]) ∧ Half w0 W w1 q p qm O X X' fr dd G) ∧
    ∀ w1, Half w0 W w1 q p qm O X X' fr dd G → Calls Tryz.prog 21 #[.pointer (some ⟨qm, 0, none⟩), frV m d r, .bool false] w1 (fun e w2 => e = .returned (.tuple #[]) ∧ Full w0 W w2 q p qm X' G) := by
  have hst := h.inv.st
  rcases ht with ht | ⟨hs, hk⟩ | ⟨hs, hk, hdn, off, ho, hob⟩
  · refine ⟨X, Nx.refl X, (sm_lost_other h.sm m d r ht).mono fun e w1 hP => half_of h hP, fun w1 hH => ?_⟩
    exact (rm_turn_other hH.2.1 m d r false ht).mono fun e w2 hP => full_of h hH hP h.inv
  · by_cases h5 : X.st = 5
    · obtain ⟨s1, s2, s3⟩ := h.inv.s5 h5
      refine ⟨{ X with due := true }, Nx.bs rfl rfl, (sm_lost_reset h.sm m d r hk hs h5).mono fun e w1 hP => half_of h hP, fun w1 hH => ?_⟩
      refine (rm_turn_reset_lost hH.2.1 m d r false rfl hk hs h5).mono fun e w2 hP => full_of h hH hP ⟨hst, h.inv.cl, fun e => ?_, fun e => ?_, fun e => ⟨s1, rfl, s3⟩, fun e => ?_, h.inv.id⟩
      · have e' : X.st = 3 := e; omega
      · have e' : X.st = 4 := e; omega
      · have e' : X.st = 6 := e; omega
    · refine ⟨X, Nx.refl X, (sm_lost_reset_no h.sm m d r hk hs h5).mono fun e w1 hP => half_of h hP, fun w1 hH => ?_⟩
      exact (rm_turn_reset_no hH.2.1 m d r false rfl hk hs h5).mono fun e w2 hP => full_of h hH hP h.inv
  · refine ⟨lostX X off d.n m.fin, Nx.bs rfl rfl, (sm_lost h.sm (by omega) m d r hk hs off ho hob hdn).mono fun e w1 hP => half_of h hP, fun w1 hH => ?_⟩
    exact (rm_turn_lost hH.2.1 m d r hk hs off ho hob hdn (fun e => (h.inv.s3 e).2)).mono fun e w2 hP => full_of h hH hP (h.inv.lost _ _ _)
/-- What is told is told alike. -/
theorem NxG.det {room : Int} {more : Nat} {L L2 : List Value} {b b2 : Bool} {X1 X2 : SS} {v v2 : Value} {bs bs2 : List Int} (h : NxG X room more L b X1 v bs) (h2 : NxG X room more L2 b2 X2 v2 bs2) : b2 = b ∧ X2 = X1 := by
  rcases h with ⟨rfl, k1, k2, _, rfl⟩ | ⟨rfl, k, _, rfl⟩ | ⟨rfl, k, rfl, _⟩ <;> rcases h2 with ⟨rfl, j1, j2, _, rfl⟩ | ⟨rfl, j, _, rfl⟩ | ⟨rfl, j, rfl, _⟩
  · exact ⟨rfl, rfl⟩
  · exact absurd j k2
  · exact absurd j k1
  · exact absurd k j2
  · exact ⟨rfl, rfl⟩
  · have a := k.1; have b := j.1; omega
  · exact absurd k j1
  · have a := k.1; have b := j.1; omega
  · exact ⟨rfl, rfl⟩
theorem NxG.nx {room : Int} {more : Nat} {L : List Value} {b : Bool} {v : Value} {bs : List Int} (h : NxG X room more L b X' v bs) : Nx X X' := by
  rcases h with ⟨_, _, _, _, rfl⟩ | ⟨_, _, _, rfl⟩ | ⟨_, _, rfl, _⟩
  · exact Nx.refl _
  · exact Nx.bs rfl rfl
  · exact Nx.bs rfl rfl
theorem two_limit (h : Tw w0 W q p qm O X fr dd G) (n : Nat) (hn : n < 18446744073709551616) : Calls Tryz.prog 16 #[.pointer (some ⟨q, 0, none⟩), .int .u64 n] W (fun e w1 => e = .returned (.tuple #[]) ∧ Half w0 W w1 q p qm O X { X with lim := max X.lim n } fr dd G) ∧
    ∀ w1, Half w0 W w1 q p qm O X { X with lim := max X.lim n } fr dd G → w1.cell? ⟨qm, 1, none⟩ = some (.int .u64 X.lim) ∧ w1.frozen? ⟨qm, 1, none⟩ = false ∧ Full w0 W (w1.setCell ⟨qm, 1, none⟩ (.int .u64 ((max X.lim n : Nat)))) q p qm { X with lim := max X.lim n } G := by
  refine ⟨(sm_limit h.sm n hn).mono fun e w1 hP => half_of h hP, fun w1 hH => ⟨hH.2.1.c1, hH.2.1.frozen 1, ?_⟩⟩
  have hi : I16 { X with lim := max X.lim n } fr dd := ⟨h.inv.st, h.inv.cl, h.inv.s3, h.inv.s4, h.inv.s5, h.inv.s6, h.inv.id⟩
  have k1 : Kept (· = qm) w1 (w1.setCell ⟨qm, 1, none⟩ (.int .u64 ((max X.lim n : Nat)))) := (Kept.refl _ w1).setAt 1 _
  have hD : Dm w0 (w1.setCell ⟨qm, 1, none⟩ (.int .u64 ((max X.lim n : Nat)))) qm O { X with lim := max X.lim n } fr dd :=
    hH.2.1.outs (X' := { X with lim := max X.lim n }) (dd' := dd) k1 rfl hH.2.1.fl fun L hL hl => ⟨_, hL.set 1 _, by rw [List.length_set]; exact hl, fun j h1 h2 => by rw [List.getElem?_set_ne (by omega)], fun e => by rw [List.getElem?_set_ne (by decide)]; exact e, fun e => by rw [List.getElem?_set_self (by omega)], fun e => by rw [List.getElem?_set_ne (by decide)]; exact e, fun e j v hv => by rw [List.getElem?_set_ne (by omega)]; exact e j v hv, fun e => by rw [List.getElem?_set_ne (by decide)]; exact e⟩
  exact (full_of (r := noV) (e := .returned noV) h hH ⟨rfl, O, hD, k1.mono fun j hj => .inl (by rw [hj]; exact h.dm.Oq), fun j hj => .inl hj⟩ hi).2
end
end
section
set_option linter.unusedVariables false
open Go.RowKit
def kindsL : List Int := [0, 1, 2, 4, 5, 6, 8, 16, 17, 18, 20, 24, 25, 26, 27, 28, 30]
set_option maxRecDepth 100000 in
set_option maxHeartbeats 1000000 in
theorem kinds_any (w : World) : Calls Tryz.prog 35 #[] w fun e w' => e = .returned (.slice (some ⟨w.heap.size, 0, none⟩) 17 17) ∧ w' = w.alloc (.cells (kindsL.map (Value.int .i64)).toArray 3) := by
  go_enter Tryz.func35, Tryz.ntmps35
  go_wp2
  go_ret
  exact ⟨rfl, rfl⟩
end
section
set_option linter.unusedVariables false
open Go.RowKit
def smallT : List Int := [63, 64, 16383, 16384, 1073741823, 1073741824, 4611686018427387903, 0]
def smallS (n : Int) : Int := if n % 5 = 0 then n / 5 % 20 else if n % 5 = 1 then smallT.getD (n / 5 % 8).toNat 0 else n % 4611686018427387904
theorem and_mask62 (n : Int) (h0 : 0 ≤ n) (h1 : n < 18446744073709551616) : bits BinOp.and IntKind.u64 n 4611686018427387903 = n % 4611686018427387904 := by
  rw [u64_and _ _ h0 h1 (by omega) (by omega), show (4611686018427387903 : Int).toNat = 4611686018427387903 by decide, nat_mask62]; omega
set_option maxHeartbeats 4000000 in
theorem small_any (n : Int) (w : World) (h0 : 0 ≤ n) (h1 : n < 18446744073709551616) :
    Calls Tryz.prog 36 #[.int .u64 n] w fun e w' => e = .returned (.int .u64 (smallS n)) ∧ Below w.heap.size w w' := by
  by_cases hz : n % 5 = 0
  · have hf : smallS n = n / 5 % 20 := by unfold smallS; rw [if_pos hz]
    have H := Lib.hid hf; clear hf
    go_enter Tryz.func36, Tryz.ntmps36
    go_wp2
    go_ret
    exact ⟨ret_int (by rw [H.out]), Below.refl _ _⟩
  · by_cases ho : n % 5 = 1
    · have h8 : n / 5 % 8 = 0 ∨ n / 5 % 8 = 1 ∨ n / 5 % 8 = 2 ∨ n / 5 % 8 = 3 ∨ n / 5 % 8 = 4 ∨ n / 5 % 8 = 5 ∨ n / 5 % 8 = 6 ∨ n / 5 % 8 = 7 := by omega
      have hf : smallS n = smallT.getD (n / 5 % 8).toNat 0 := by unfold smallS; rw [if_neg hz, if_pos ho]
      rcases h8 with h | h | h | h | h | h | h | h
      all_goals
        rw [h] at hf
        have H := Lib.hid hf; clear hf
        go_enter Tryz.func36, Tryz.ntmps36
        go_wp2
        go_ret
        exact ⟨ret_int (by rw [H.out]; rfl), (Below.refl _ _).alloc (Nat.le_refl _) _⟩
    · have hf : smallS n = n % 4611686018427387904 := by unfold smallS; rw [if_neg hz, if_neg ho]
      have hm := and_mask62 n h0 h1
      have H := Lib.hid (hm.trans hf.symm); clear hf hm
      go_enter Tryz.func36, Tryz.ntmps36
      go_wp2
      go_ret
      exact ⟨ret_int (by rw [← H.out]), Below.refl _ _⟩
end
end Go.Proofs.YtbejpafephofaaaGreat
