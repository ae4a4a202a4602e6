/-
  A receiver of the law's own (Qo); the law's known.
-/
import Derived.Test.YtphpdaldplkgmaaGreatMq18
import Derived.Test.YtphpdaldplkgmaaGreatMq19
namespace Go.Proofs.YtphpdaldplkgmaaGreat
set_option linter.unusedVariables false
set_option linter.unusedSimpArgs false
open Go.RowKit
/-- A receiver that the call made behind the world w0; F: blocks that it has nothing to do with. -/
structure Qo (w0 W : World) (p : Nat) (X : QS) (F : Nat → Prop) : Prop where
  ok : X.ok
  bf : ∃ O, Qp W w0.heap.size p O X ∧ ∀ b, F b → ¬ O b ∧ b < W.heap.size
  bl : Below w0.heap.size w0 W
/-- What a call that changes it leaves. -/
def QoPost (w0 W : World) (p : Nat) (X' : QS) (F : Nat → Prop) (W' : World) : Prop := Qo w0 W' p X' F ∧ (∀ b, F b → W'.heap[b]? = W.heap[b]?) ∧ W.heap.size ≤ W'.heap.size
section
variable {w0 W W' : World} {p : Nat} {X X' : QS} {F : Nat → Prop}
theorem Qo.below (h : Qo w0 W p X F) (k : Below W.heap.size W W') : Qo w0 W' p X F := by
  obtain ⟨O, h1, h2⟩ := h.bf
  exact ⟨h.ok, ⟨O, h1.below k, fun b hb => ⟨(h2 b hb).1, Nat.lt_of_lt_of_le (h2 b hb).2 k.size⟩⟩, h.bl.trans (k.mono h.bl.size)⟩
theorem Qo.drewN (h : Qo w0 W p X F) (n : Nat) : Qo w0 (W.drewN n) p X F := h.below (belowN (Below.refl _ _) n)
theorem Qo.lt (h : Qo w0 W p X F) : ∀ b, F b → b < W.heap.size := by
  obtain ⟨O, _, h2⟩ := h.bf
  exact fun b hb => (h2 b hb).2
theorem Qo.weak {F' : Nat → Prop} (h : Qo w0 W p X F) (hF : ∀ b, F' b → F b) : Qo w0 W p X F' := by
  obtain ⟨O, h1, h2⟩ := h.bf
  exact ⟨h.ok, ⟨O, h1, fun b hb => h2 b (hF b hb)⟩, h.bl⟩
/-- Blocks that came up later are none of its. -/
theorem Qo.fresh {F' : Nat → Prop} (h : Qo w0 W p X F) (k : Below W.heap.size W W') (hF : ∀ b, F' b → F b ∨ (W.heap.size ≤ b ∧ b < W'.heap.size)) : Qo w0 W' p X F' := by
  obtain ⟨O, h1, h2⟩ := h.bf
  refine ⟨h.ok, ⟨O, h1.below k, fun b hb => ?_⟩, h.bl.trans (k.mono h.bl.size)⟩
  rcases hF b hb with h' | ⟨h', h''⟩
  · exact ⟨(h2 b h').1, Nat.lt_of_lt_of_le (h2 b h').2 k.size⟩
  · exact ⟨fun e => by have := (h1.lt b e).2; omega, h''⟩
theorem qo_post {O O' : Nat → Prop} (h1 : Qp W w0.heap.size p O X) (h2 : ∀ b, F b → ¬ O b ∧ b < W.heap.size) (bl : Below w0.heap.size w0 W) (ok' : X'.ok) (hb : Qp W' w0.heap.size p O' X') (hk : Kept O W W') (ho : ∀ j, O' j → O j ∨ W.heap.size ≤ j) : QoPost w0 W p X' F W' := by
  refine ⟨⟨ok', ⟨O', hb, fun b hb' => ⟨fun e => ?_, Nat.lt_of_lt_of_le (h2 b hb').2 hk.size⟩⟩, hk.below bl bl.size fun j hj => (h1.lt j hj).1⟩, fun b hb' => hk.block b (h2 b hb').2 (h2 b hb').1, hk.size⟩
  rcases ho b e with h' | h'
  · exact (h2 b hb').1 h'
  · have := (h2 b hb').2; omega
theorem qo_new (id win : Nat) (hid : id < 18446744073709551616) (hw : win < 18446744073709551616) (w0 : World) : Calls Tryz.prog 5 #[.int .u64 id, .int .u64 win] w0 fun e w' => ∃ p, e = .returned (.pointer (some ⟨p, 0, none⟩)) ∧ Qo w0 w' p (qs0 id win) (fun _ => False) :=
  (q_new id win hid hw w0).mono fun e w' ⟨p, h1, ⟨O, h2⟩, h3⟩ => ⟨p, h1, qs0_ok id win hid, ⟨O, h2, fun b hb => hb.elim⟩, h3⟩
theorem qo_state (h : Qo w0 W p X F) : Calls Tryz.prog 27 #[.pointer (some ⟨p, 0, none⟩)] W fun e w' => e = .returned (.int .i64 X.st) ∧ w' = W := by
  obtain ⟨O, h1, _⟩ := h.bf
  exact q_state h1
theorem qo_limit (h : Qo w0 W p X F) : Calls Tryz.prog 8 #[.pointer (some ⟨p, 0, none⟩)] W fun e w' => e = .returned (.int .u64 X.lim) ∧ w' = W := by
  obtain ⟨O, h1, _⟩ := h.bf
  exact q_limit h1
theorem onX_ok (h : X.ok) (m : FN) (bs : List Int) (hm : m.wf) (hb : Byt bs) : (onX X m bs).ok := by
  have c0 := hm.c0
  have c1 := hm.c1
  unfold onX
  split
  · split
    · exact onSX_ok h _ _ _ hb
    · split
      · exact onRX_ok h _ _ (by omega)
      · exact h
  · exact h
/-- On, of a frame whose data it has nothing to do with. -/
theorem qo_on (h : Qo w0 W p X F) (m : FN) (d r : Sl) (bs : List Int) (hm : m.wf) (hd : RdP W (fun b => F b ∨ b < w0.heap.size) d.A d.n bs) (hdc : d.n ≤ d.c) (hdn : d.n < 9223372036854775808) :
    Calls Tryz.prog 26 #[.pointer (some ⟨p, 0, none⟩), frV m d r] W fun e w' => e = .returned (.int .i64 (onE X m bs.length)) ∧ QoPost w0 W p (onX X m bs) F w' := by
  obtain ⟨O, h1, h2⟩ := h.bf
  refine (q_on h1 h.ok h.bl.size m d r bs hm (hd.mono fun b _ hb e => hb.elim (fun hb => (h2 b hb).1 e) fun hb => by have := (h1.lt b e).1; omega) hdc hdn).mono fun e w' hP => ?_
  obtain ⟨he, O', hb, hk, ho⟩ := hP
  exact ⟨he, qo_post h1 h2 h.bl (onX_ok h.ok m bs hm hd.byt) hb hk ho⟩
theorem qo_read (h : Qo w0 W p X F) (most : Int) (hm : -9223372036854775808 ≤ most ∧ most < 9223372036854775808) :
    Calls Tryz.prog 14 #[.pointer (some ⟨p, 0, none⟩), .int .i64 most] W fun e w' => ∃ v, e = .returned (.tuple #[v, .bool (readQ X most).fl, .int .u64 (readQ X most).cd, .int .i64 (readQ X most).er]) ∧ Own w' W.heap.size 5 v (readQ X most).bs ∧ QoPost w0 W p (readX X most) F w' := by
  obtain ⟨O, h1, h2⟩ := h.bf
  refine (q_read h1 h.ok h.bl.size most hm).mono fun e w' hP => ?_
  obtain ⟨v, he, hv, O', hb, hk, ho⟩ := hP
  exact ⟨v, he, hv, qo_post h1 h2 h.bl (readX_ok h.ok most) hb hk ho⟩
end
theorem wpList_make_g17 {P : Program} {w : World} {ops : Array Oper} {rest : List Oper} {o : Oper} {a : Act} {Q : Exit → Act → World → Prop}
    (hgw : Region.wanted o (yielded ops a.tmps) = true) (l c : Operand) (t : TypeId) (hop : o.op = Op.makeSlice t l c)
    (e : TypeId) (i : TypeInfo) (z : Value) (h1 : P.underlying t = some (.slice e)) (h2 : P.info? e = some i) (h3 : i.zero = some z) (h4 : i.size = 1)
    (kl kc : IntKind) (m : Nat) (hl : a.eval l = .int kl m) (hc : a.eval c = .int kc m) (b2 : i.bytes * m ≤ 281474976710656) (b3 : m ≤ maxLen)
    (hK : ∀ w' g, Hid (At w' g e (madeL z m)) → Hid (g = w.heap.size) → Hid (Below w.heap.size w w') → wpList P ops Q rest (a.put o.dst (.slice (some ⟨g, 0, none⟩) m m)) w') :
    wpList P ops Q (o :: rest) a w := by
  refine wpList_step fun K hK' => ?_
  rw [if_pos hgw]
  have hb' : (i.bytes : Int) * (m : Int) ≤ 281474976710656 := by
    have : ((i.bytes * m : Nat) : Int) ≤ 281474976710656 := by omega
    simpa using this
  have hrun := run_make (P := P) (w := w) t e i z h1 h2 h3 kl kc (m : Int) (m : Int) (by omega) (by omega) hb' (by unfold maxLen at b3; omega)
  unfold Oper.wp
  simp [execOp, hop, hl, hc, hrun, Result.andThen, h4]
  refine hK' _ _ (hK _ _ (Lib.hid ?_) (Lib.hid rfl) (Lib.hid ((Below.refl _ _).alloc (Nat.le_refl _) _)))
  show _ = _
  rw [heap_alloc_new]
  simp [madeL]
/-- So many zero bytes that were made. -/
theorem rd_made {w : World} {g m : Nat} (h : At w g 5 (madeL (.int .u8 0) m)) : RdP w (fun b => b = g) (some ⟨g, 0, none⟩) m (List.replicate m 0) := by
  have e : madeL (.int .u8 0) m = (List.replicate m (0 : Int)).map (Value.int .u8) := by
    apply List.ext_getElem?
    intro j
    unfold madeL
    by_cases hj : j < m
    · simp [madeCells, Value.cells, Nat.mod_one, List.getElem?_replicate, hj]
    · simp [madeCells, Value.cells, Nat.mod_one, List.getElem?_replicate, hj]
  refine ⟨⟨by simp, fun x hx => ?_, fun hp => ⟨g, 0, rfl, h.lt, fun i hi => ?_⟩⟩, fun b off _ e' => ?_⟩
  · rw [List.mem_replicate] at hx
    rw [hx.2]
    decide
  · rw [Nat.zero_add, h.cell, e, List.getElem?_map, List.getElem?_replicate]
    rw [if_pos hi]
    simp [hi]
  · injection e' with e'
    injection e' with e1 _
    exact e1.symm
set_option maxHeartbeats 8000000 in
set_option maxRecDepth 100000 in
theorem known17_any (w : World) : Calls Tryz.prog 9 #[] w fun e w' => e = .returned (.bool true) ∧ Below w.heap.size w w' := by
  have HN : Hid (Calls Tryz.prog 5 #[.int .u64 0, .int .u64 9] w fun e w' => ∃ p, e = .returned (.pointer (some ⟨p, 0, none⟩)) ∧ Qo w w' p (qs0 0 9) (fun _ => False)) := Lib.hid (qo_new 0 9 (by decide) (by decide) w)
  have HLI : Hid (∀ W p, Qo w W p (qs0 0 9) (fun _ => False) → Calls Tryz.prog 8 #[.pointer (some ⟨p, 0, none⟩)] W fun e w' => e = .returned (.int .u64 9) ∧ w' = W) := Lib.hid (fun W p h => qo_limit h)
  have HST : Hid (∀ W p, Qo w W p (qs0 0 9) (fun _ => False) → Calls Tryz.prog 27 #[.pointer (some ⟨p, 0, none⟩)] W fun e w' => e = .returned (.int .i64 1) ∧ w' = W) := Lib.hid (fun W p h => qo_state h)
  have HON : Hid (∀ W W7 g p, Qo w W p (qs0 0 9) (fun _ => False) → At W7 g 5 (madeL (.int .u8 0) 10) → g = W.heap.size → Below W.heap.size W W7 → Calls Tryz.prog 26 #[.pointer (some ⟨p, 0, none⟩), .agg (frL (FN.zero 8) ⟨some ⟨g, 0, none⟩, 10, 10⟩ .nil).toArray] W7 fun e w' => e = .returned (.int .i64 23) ∧ Qo w w' p (qs0 0 9) (fun _ => False)) := Lib.hid (fun W W7 g p h hA hg k => by
    have hs := hA.lt
    have h7 := h.fresh (F' := fun b => b = g) k fun b hb => .inr ⟨by omega, by omega⟩
    have h8 := qo_on h7 (FN.zero 8) ⟨some ⟨g, 0, none⟩, 10, 10⟩ .nil (List.replicate 10 0) (wf_zero 8 (by decide) (by decide)) ((rd_made hA).mono fun b _ hb => .inl hb) (by show 10 ≤ 10; omega) (by show 10 < 9223372036854775808; omega)
    exact h8.mono fun e w' ⟨he, hq, _⟩ => ⟨he, hq.weak fun b hb => hb.elim⟩)
  have HRD : Hid (∀ W p, Qo w W p (qs0 0 9) (fun _ => False) → Calls Tryz.prog 14 #[.pointer (some ⟨p, 0, none⟩), .int .i64 5] W fun e w' => ∃ A n c, e = .returned (.tuple #[.slice A n c, .bool false, .int .u64 0, .int .i64 26]) ∧ Qo w w' p (qs0 0 9) (fun _ => False)) := Lib.hid (fun W p h => by
    refine (qo_read h 5 (by omega)).mono fun e w' ⟨v, he, hv, hq, _⟩ => ?_
    obtain ⟨A, c, rfl, _, _, _⟩ := hv.open_
    exact ⟨A, _, c, he, hq⟩)
  have HPI : Hid (∀ W p, Qo w W p (qs0 0 9) (fun _ => False) → Calls Tryz.prog 26 #[.pointer (some ⟨p, 0, none⟩), .agg (frL (FN.zero 1) .nil .nil).toArray] W fun e w' => e = .returned (.int .i64 1) ∧ Qo w w' p (qs0 0 9) (fun _ => False)) := Lib.hid (fun W p h => by
    have h8 := qo_on h (FN.zero 1) .nil .nil [] (wf_zero 1 (by decide) (by decide)) (RdP.none_ _ _ _) (by decide) (by decide)
    exact h8.mono fun e w' ⟨he, hq, _⟩ => ⟨he, hq⟩)
  obtain ⟨i0, hi, hz0, hz1, hz2⟩ := o8.hi
  go_enter Tryz.func9, Tryz.ntmps9
  go_wp2_with (first
    | (go_at_call 5; (with_reducible refine HN.out.mono ?_); rintro e w1 ⟨p, rfl, hq1⟩; have HQ1 := Lib.hid hq1; clear hq1)
    | (go_at_call 8; (with_reducible refine (HLI.out _ _ HQ1.out).mono ?_); rintro e w2 ⟨rfl, hw2⟩; rw [hw2]; clear hw2)
    | (at_make; refine wpList_make_g17 (by go_simp) (.const (.int .i64 10)) (.const (.int .i64 10)) 22 rfl 5 i0 (.int .u8 0) Tryz.underlying22 hi hz0 hz1 .i64 .i64 10 rfl rfl (by rw [hz2]; omega) (by unfold maxLen; omega) ?_; intro w7 g7 G1 G2 G3; have HO7 := Lib.hid (HON.out _ _ _ _ HQ1.out G1.out G2.out G3.out); clear G1 G2 G3; simp only [frL, FN.zero, Sl.nil] at HO7)
    | (go_at_call 26; (with_reducible refine HO7.out.mono ?_); rintro e w3 ⟨rfl, hq3⟩; have HQ3 := Lib.hid (HRD.out _ _ hq3); clear hq3)
    | (go_at_call 14; (with_reducible refine HQ3.out.mono ?_); rintro e w4 ⟨A4, n4, c4, rfl, hq4⟩; have HQ4 := Lib.hid (HPI.out _ _ hq4); simp only [frL, FN.zero, Sl.nil] at HQ4; clear hq4)
    | (go_at_call 26; (with_reducible refine HQ4.out.mono ?_); rintro e w5 ⟨rfl, hq5⟩; have HQ5 := Lib.hid hq5; clear hq5)
    | (go_at_call 27; (with_reducible refine (HST.out _ _ HQ5.out).mono ?_); rintro e w6 ⟨rfl, hw6⟩; rw [hw6]; clear hw6)
    | fail)
  go_ret
  exact ⟨rfl, HQ5.out.bl⟩
end Go.Proofs.YtphpdaldplkgmaaGreat
