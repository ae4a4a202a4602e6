/-
  inbuf.Buffer: Add.
-/
import Derived.Test.YtahalbmcijbbmaaMq7
import Derived.Test.YtahalbmcijbbmaaMq5
import Derived.Test.YtahalbmcijbbmaaIj
import Derived.Test.YtahalbmcijbbmaaMq6
import Derived.BigQuiet
namespace Go.Proofs.Ytahalbmcijbbmaa
section
set_option linter.unusedVariables false
set_option linter.unusedSimpArgs false
open Go.RowKit
section
variable {w : World} {base p : Nat} {O : Nat → Prop} {S : BS}
theorem Bc.put {ps : Nat} {vs vw : Value} {l : RL} {W : List Int} {S' : BS} (h : Bc w base p ps vs vw l W S) (j : Nat) (u : Value) (hr : S'.rd = S.rd) (hg : S'.g = S.g)
    (he : ([.int .u64 S.rd, .int .u64 S.hi, .int .u64 S.fi, .bool S.en, .pointer (some ⟨ps, 0, none⟩), vw] : List Value).set j u = [.int .u64 S'.rd, .int .u64 S'.hi, .int .u64 S'.fi, .bool S'.en, .pointer (some ⟨ps, 0, none⟩), vw]) :
    Bc (w.setCell ⟨p, j, none⟩ u) base p ps vs vw l W S' := by
  have k : Kept (fun b => b = p) w (w.setCell ⟨p, j, none⟩ u) := (Kept.refl (fun b => b = p) w).setCell (p := ⟨p, j, none⟩) (.inl rfl) u
  exact ⟨he ▸ h.at_.set j u, h.set_.kept k (fun e => h.n1 e.symm) fun j hj e => h.n2 (by rw [hj, e]), h.own.kept k fun j hj e => h.n3 (by rw [hj, e]), h.n1, h.n2, h.n3, h.n4, h.n5, h.bp, by rw [hr, hg]; exact h.pm⟩
theorem Bf.puthi (h : Bf w base p O S) (x : Nat) : Bf (w.setCell ⟨p, 1, none⟩ (.int .u64 x)) base p O ⟨S.rd, x, S.fi, S.en, S.g⟩ := by
  obtain ⟨ps, vs, vw, l, W, e, h⟩ := h
  exact ⟨ps, vs, vw, l, W, e, h.put 1 _ rfl rfl rfl⟩
theorem Bf.putfi (h : Bf w base p O S) (x : Nat) : Bf (w.setCell ⟨p, 2, none⟩ (.int .u64 x)) base p O ⟨S.rd, S.hi, x, S.en, S.g⟩ := by
  obtain ⟨ps, vs, vw, l, W, e, h⟩ := h
  exact ⟨ps, vs, vw, l, W, e, h.put 2 _ rfl rfl rfl⟩
theorem Bf.puten (h : Bf w base p O S) (x : Bool) : Bf (w.setCell ⟨p, 3, none⟩ (.bool x)) base p O ⟨S.rd, S.hi, S.fi, x, S.g⟩ := by
  obtain ⟨ps, vs, vw, l, W, e, h⟩ := h
  exact ⟨ps, vs, vw, l, W, e, h.put 3 _ rfl rfl rfl⟩
theorem Bf.at_ (h : Bf w base p O S) : ∃ u v, At w p 74 [.int .u64 S.rd, .int .u64 S.hi, .int .u64 S.fi, .bool S.en, u, v] := by
  obtain ⟨ps, vs, vw, l, W, e, h⟩ := h
  exact ⟨_, _, h.at_⟩
theorem Bf.own_ (h : Bf w base p O S) : O p := by
  obtain ⟨ps, vs, vw, l, W, rfl, h⟩ := h
  exact .inl rfl
end
/-- What Add makes of a buffer. -/
def addR (S : BS) (off : Nat) (bs : List Int) (fin : Bool) : BS := if addE S off bs.length fin = 0 then addS S off bs fin else S
set_option maxHeartbeats 8000000 in
set_option maxRecDepth 100000 in
theorem iadd_any (base p : Nat) (O : Nat → Prop) (S : BS) (off : Nat) (A : Option Addr) (n c : Nat) (bs : List Int) (fin : Bool) (w : World) (h : Bf w base p O S) (hok : S.ok) (hb : base ≤ w.heap.size)
    (hr : RdP w (fun b => ¬ O b) A n bs) (hnc : n ≤ c) (ho : off < 18446744073709551616) (hn : n < 9223372036854775808) :
    Calls Try.prog 27 #[.pointer (some ⟨p, 0, none⟩), .int .u64 off, .slice A n c, .bool fin] w (BPost (.int .i64 (addE S off n fin)) base p O (addR S off bs fin) w) := by
  have hlen := hr.len
  have hEQ : addE S off n fin = addE S off bs.length fin := by rw [hlen]
  have NO : addE S off n fin ≠ 0 → ∀ d, BPost (.int .i64 (addE S off n fin)) base p O (addR S off bs fin) w (.returned (.int .i64 (addE S off n fin))) (w.drewN d) := fun hne d => by
    unfold addR
    rw [if_neg (by rw [← hEQ]; exact hne)]
    exact ⟨rfl, O, h.drewN d, (Kept.refl _ _).drewN d, fun j hj => .inl hj⟩
  by_cases c1 : 1099511627776 < off
  · have he : addE S off n fin = 1 := by unfold addE; rw [if_pos (.inl c1)]
    have HN := Lib.hid (NO (by rw [he]; decide) 0)
    rw [he] at HN ⊢
    have hcz : (1099511627776 : Int) < (off : Int) := by omega
    clear h hok hr hEQ NO he
    go_enter Try.func27, Try.ntmps27
    go_wp2
    go_ret
    exact HN.out
  by_cases c2 : 512 < n
  · have he : addE S off n fin = 1 := by unfold addE; rw [if_pos (.inr c2)]
    have HN := Lib.hid (NO (by rw [he]; decide) 0)
    rw [he] at HN ⊢
    have hcz : ¬ (1099511627776 : Int) < (off : Int) := by omega
    have hcn : (512 : Int) < (n : Int) := by omega
    clear h hok hr hEQ NO he
    go_enter Try.func27, Try.ntmps27
    go_wp2
    go_ret
    exact HN.out
  have hcz : ¬ (1099511627776 : Int) < (off : Int) := by omega
  have hcn : ¬ (512 : Int) < (n : Int) := by omega
  have ho' : off ≤ 1099511627776 := by omega
  have hn' : n ≤ 512 := by omega
  have hE1 : addE S off n fin = if agB S (off + n) fin = true then 30 else if S.rd + 2048 < off + n then 23 else 0 := by
    unfold addE agB
    rw [if_neg (by omega)]
  obtain ⟨E, hE⟩ : ∃ E, E = off + n := ⟨_, rfl⟩
  rw [← hE] at hE1
  clear ho hn c1 c2
  have hEz : (off : Int) + (n : Int) = (E : Int) := by omega
  have hEb : E ≤ 1099511630336 := by omega
  have HAG := Lib.hid (iag_any h E fin)
  have HE := Lib.hid hE
  clear hE
  by_cases c3 : agB S E fin = true
  · rw [if_pos c3] at hE1
    have HN := Lib.hid (NO (by rw [hE1]; decide) 0)
    rw [hE1] at HN ⊢
    rw [c3] at HAG
    clear h hok hr hEQ NO hE1 c3
    go_enter Try.func27, Try.ntmps27
    go_wp2_with (go_at_call 38; (with_reducible refine HAG.out.mono ?_); rintro e w2 ⟨rfl, rfl⟩)
    go_ret
    exact HN.out
  rw [if_neg c3] at hE1
  have c3' : agB S E fin = false := by simpa using c3
  rw [c3'] at HAG
  have hrd : S.rd ≤ 1099511628288 := by have := hok.rh; have := hok.hm; omega
  obtain ⟨u4, u5, hat⟩ := h.at_
  have h0 : w.cell? ⟨p, 0, none⟩ = some (.int .u64 S.rd) := by rw [hat.cell]; rfl
  by_cases c4 : S.rd + 2048 < E
  · rw [if_pos c4] at hE1
    have HN := Lib.hid (NO (by rw [hE1]; decide) 0)
    rw [hE1] at HN ⊢
    have hc4z : (S.rd : Int) + 2048 < (E : Int) := by omega
    clear h hok hr hEQ NO hE1 c3 c3' hat
    go_enter Try.func27, Try.ntmps27
    go_wp2_with (go_at_call 38; (with_reducible refine HAG.out.mono ?_); rintro e w2 ⟨rfl, rfl⟩)
    go_ret
    exact HN.out
  rw [if_neg c4] at hE1
  have hc4z : ¬ (S.rd : Int) + 2048 < (E : Int) := by omega
  have hR : addR S off bs fin = addS S off bs fin := by unfold addR; rw [if_pos (by rw [← hEQ]; exact hE1)]
  rw [hR, hE1]
  have HFI := Lib.hid (fill_any base p O S off A n c bs w h hok hb hr hnc (by have := HE.out; omega))
  have hhi : S.hi ≤ 1099511628288 := hok.hm
  have HS : Hid (addS S off bs fin = ⟨S.rd, max S.hi E, if fin then E else S.fi, S.en || fin, addG S.g off bs⟩) := Lib.hid (by unfold addS; rw [hlen, ← HE.out])
  clear NO hE1 c3 c3' hR hEQ hr hok hat
  have HPO : Hid (O p) := Lib.hid h.own_
  clear h
  rcases Nat.lt_or_ge S.hi E with hm | hm
  · have hmx : max S.hi E = E := by omega
    rw [hmx] at HS
    have hmz : (S.hi : Int) < (E : Int) := by omega
    clear hmx hm
    cases fin
    · have HS2 : Hid (addS S off bs false = ⟨S.rd, E, S.fi, S.en, addG S.g off bs⟩) := Lib.hid (by rw [HS.out]; simp)
      go_enter Try.func27, Try.ntmps27
      go_wp2_with (first | (go_at_call 38; (with_reducible refine HAG.out.mono ?_); rintro e w1 ⟨rfl, rfl⟩) | (go_at_call 39; (with_reducible refine HFI.out.mono ?_); rintro e w2 ⟨rfl, O2, hB, hK, hO2⟩; obtain ⟨u6, u7, ha2⟩ := hB.at_; have d1 : w2.cell? ⟨p, 1, none⟩ = some (.int .u64 S.hi) := (by rw [ha2.cell]; rfl); have d2 : w2.cell? ⟨p, 2, none⟩ = some (.int .u64 S.fi) := (by rw [ha2.cell]; rfl); have d3 : w2.cell? ⟨p, 3, none⟩ = some (.bool S.en) := (by rw [ha2.cell]; rfl); have f1 := ha2.frozen 1; have f2 := ha2.frozen 2; have f3 := ha2.frozen 3; have HB := Lib.hid hB; have HK := Lib.hid hK; have HO2 := Lib.hid hO2; clear hB hK hO2 ha2))
      go_ret
      have hb2 := (HB.out.puthi E)
      refine ⟨rfl, O2, ?_, (HK.out.setCell (p := ⟨p, 1, none⟩) (.inl HPO.out) (.int .u64 E)), HO2.out⟩
      rw [HS2.out]
      exact hb2
    · have HS2 : Hid (addS S off bs true = ⟨S.rd, E, E, true, addG S.g off bs⟩) := Lib.hid (by rw [HS.out]; simp)
      go_enter Try.func27, Try.ntmps27
      go_wp2_with (first | (go_at_call 38; (with_reducible refine HAG.out.mono ?_); rintro e w1 ⟨rfl, rfl⟩) | (go_at_call 39; (with_reducible refine HFI.out.mono ?_); rintro e w2 ⟨rfl, O2, hB, hK, hO2⟩; obtain ⟨u6, u7, ha2⟩ := hB.at_; have d1 : w2.cell? ⟨p, 1, none⟩ = some (.int .u64 S.hi) := (by rw [ha2.cell]; rfl); have d2 : w2.cell? ⟨p, 2, none⟩ = some (.int .u64 S.fi) := (by rw [ha2.cell]; rfl); have d3 : w2.cell? ⟨p, 3, none⟩ = some (.bool S.en) := (by rw [ha2.cell]; rfl); have f1 := ha2.frozen 1; have f2 := ha2.frozen 2; have f3 := ha2.frozen 3; have HB := Lib.hid hB; have HK := Lib.hid hK; have HO2 := Lib.hid hO2; clear hB hK hO2 ha2))
      go_ret
      have hb2 := (((HB.out.puthi E).putfi E).puten true)
      refine ⟨rfl, O2, ?_, (((HK.out.setCell (p := ⟨p, 1, none⟩) (.inl HPO.out) (.int .u64 E)).setCell (p := ⟨p, 2, none⟩) (.inl HPO.out) (.int .u64 E)).setCell (p := ⟨p, 3, none⟩) (.inl HPO.out) (.bool true)), HO2.out⟩
      rw [HS2.out]
      exact hb2
  · have hmx : max S.hi E = S.hi := by omega
    rw [hmx] at HS
    have hmz : ¬ (S.hi : Int) < (E : Int) := by omega
    clear hmx
    cases fin
    · have HS2 : Hid (addS S off bs false = ⟨S.rd, S.hi, S.fi, S.en, addG S.g off bs⟩) := Lib.hid (by rw [HS.out]; simp)
      go_enter Try.func27, Try.ntmps27
      go_wp2_with (first | (go_at_call 38; (with_reducible refine HAG.out.mono ?_); rintro e w1 ⟨rfl, rfl⟩) | (go_at_call 39; (with_reducible refine HFI.out.mono ?_); rintro e w2 ⟨rfl, O2, hB, hK, hO2⟩; obtain ⟨u6, u7, ha2⟩ := hB.at_; have d1 : w2.cell? ⟨p, 1, none⟩ = some (.int .u64 S.hi) := (by rw [ha2.cell]; rfl); have d2 : w2.cell? ⟨p, 2, none⟩ = some (.int .u64 S.fi) := (by rw [ha2.cell]; rfl); have d3 : w2.cell? ⟨p, 3, none⟩ = some (.bool S.en) := (by rw [ha2.cell]; rfl); have f1 := ha2.frozen 1; have f2 := ha2.frozen 2; have f3 := ha2.frozen 3; have HB := Lib.hid hB; have HK := Lib.hid hK; have HO2 := Lib.hid hO2; clear hB hK hO2 ha2))
      go_ret
      have hb2 := (HB.out.puthi S.hi)
      refine ⟨rfl, O2, ?_, (HK.out.setCell (p := ⟨p, 1, none⟩) (.inl HPO.out) (.int .u64 S.hi)), HO2.out⟩
      rw [HS2.out]
      exact hb2
    · have HS2 : Hid (addS S off bs true = ⟨S.rd, S.hi, E, true, addG S.g off bs⟩) := Lib.hid (by rw [HS.out]; simp)
      go_enter Try.func27, Try.ntmps27
      go_wp2_with (first | (go_at_call 38; (with_reducible refine HAG.out.mono ?_); rintro e w1 ⟨rfl, rfl⟩) | (go_at_call 39; (with_reducible refine HFI.out.mono ?_); rintro e w2 ⟨rfl, O2, hB, hK, hO2⟩; obtain ⟨u6, u7, ha2⟩ := hB.at_; have d1 : w2.cell? ⟨p, 1, none⟩ = some (.int .u64 S.hi) := (by rw [ha2.cell]; rfl); have d2 : w2.cell? ⟨p, 2, none⟩ = some (.int .u64 S.fi) := (by rw [ha2.cell]; rfl); have d3 : w2.cell? ⟨p, 3, none⟩ = some (.bool S.en) := (by rw [ha2.cell]; rfl); have f1 := ha2.frozen 1; have f2 := ha2.frozen 2; have f3 := ha2.frozen 3; have HB := Lib.hid hB; have HK := Lib.hid hK; have HO2 := Lib.hid hO2; clear hB hK hO2 ha2))
      go_ret
      have hb2 := (((HB.out.puthi S.hi).putfi E).puten true)
      refine ⟨rfl, O2, ?_, (((HK.out.setCell (p := ⟨p, 1, none⟩) (.inl HPO.out) (.int .u64 S.hi)).setCell (p := ⟨p, 2, none⟩) (.inl HPO.out) (.int .u64 E)).setCell (p := ⟨p, 3, none⟩) (.inl HPO.out) (.bool true)), HO2.out⟩
      rw [HS2.out]
      exact hb2
end
section
set_option linter.unusedVariables false
set_option linter.unusedSimpArgs false
open Go.RowKit
def qpL (X : QS) (pin : Value) : List Value := [.int .u64 X.id, .int .u64 X.win, .int .i64 X.st, .int .u64 X.lim, pin, .int .u64 X.code, .int .u64 X.fin, .bool X.asked, .int .u64 X.stop, .bool X.due, .bool X.again]
/-- A receiver that has its buffer. -/
structure Ql (w : World) (base p pb : Nat) (Ob : Nat → Prop) (X : QS) : Prop where
  at_ : At w p 61 (qpL X (.pointer (some ⟨pb, 0, none⟩)))
  bf : Bf w base pb Ob X.b
  nb : ¬ Ob p
  bp : base ≤ p
/-- One that was reset: it has let its buffer go. -/
structure Qd (w : World) (base p : Nat) (X : QS) : Prop where
  at_ : At w p 61 (qpL X (.pointer none))
  bp : base ≤ p
def pOb (p : Nat) (Ob : Nat → Prop) : Nat → Prop := fun j => j = p ∨ Ob j
/-- A receiver, and the blocks that it has. -/
def Qp (w : World) (base p : Nat) (O : Nat → Prop) (X : QS) : Prop :=
  (X.st < 5 ∧ ∃ pb Ob, O = pOb p Ob ∧ Ql w base p pb Ob X) ∨ (5 ≤ X.st ∧ O = pOb p (fun _ => False) ∧ Qd w base p X)
/-- What a call that changes it leaves. -/
def QPost (r : Value) (base p : Nat) (O : Nat → Prop) (X' : QS) (w : World) (e : Ending) (w' : World) : Prop :=
  e = .returned r ∧ ∃ O', Qp w' base p O' X' ∧ Kept O w w' ∧ ∀ j, O' j → O j ∨ w.heap.size ≤ j
section
variable {w w' : World} {base p pb : Nat} {O Ob Ob' : Nat → Prop} {X X' : QS}
theorem Ql.lt (h : Ql w base p pb Ob X) : ∀ j, pOb p Ob j → base ≤ j ∧ j < w.heap.size := by
  rintro j (rfl | hj)
  · exact ⟨h.bp, h.at_.lt⟩
  · exact h.bf.lt j hj
theorem Ql.kept {T : Nat → Prop} (h : Ql w base p pb Ob X) (k : Kept T w w') (hs : ∀ j, pOb p Ob j → ¬ T j) : Ql w' base p pb Ob X :=
  { h with at_ := h.at_.kept k (hs p (.inl rfl)), bf := h.bf.kept k fun j hj => hs j (.inr hj) }
theorem Ql.below (h : Ql w base p pb Ob X) (k : Below w.heap.size w w') : Ql w' base p pb Ob X := h.kept (Kept.of_below k (fun _ => False)) fun _ _ h => h
theorem Ql.drewN (h : Ql w base p pb Ob X) (n : Nat) : Ql (w.drewN n) base p pb Ob X := h.kept ((Kept.refl (fun _ => False) w).drewN n) fun _ _ h => h
/-- A cell of its own block is set. -/
theorem Ql.set (h : Ql w base p pb Ob X) (j : Nat) (u : Value) (he : (qpL X (.pointer (some ⟨pb, 0, none⟩))).set j u = qpL X' (.pointer (some ⟨pb, 0, none⟩))) (hb : X'.b = X.b) : Ql (w.setCell ⟨p, j, none⟩ u) base p pb Ob X' :=
  ⟨he ▸ h.at_.set j u, by rw [hb]; exact h.bf.kept ((Kept.refl (· = p) w).setAt j u) fun k hk e => h.nb (by rw [← e]; exact hk), h.nb, h.bp⟩
/-- Its buffer is turned. -/
theorem Ql.step {S' : BS} (h : Ql w base p pb Ob X) (hb : Bf w' base pb Ob' S') (k : Kept Ob w w') (ho : ∀ j, Ob' j → Ob j ∨ w.heap.size ≤ j) : Ql w' base p pb Ob' { X with b := S' } :=
  ⟨h.at_.kept k h.nb, hb, fun e => (ho p e).elim h.nb fun e' => by have := h.at_.lt; omega, h.bp⟩
theorem Ql.post (h : Ql w base p pb Ob X) (h' : Ql w' base p pb Ob' X') (hst : X'.st < 5) (k : Kept (pOb p Ob) w w') (ho : ∀ j, Ob' j → Ob j ∨ w.heap.size ≤ j) (r : Value) : QPost r base p (pOb p Ob) X' w (.returned r) w' :=
  ⟨rfl, _, .inl ⟨hst, _, _, rfl, h'⟩, k, fun j hj => hj.elim (fun e => .inl (.inl e)) fun e => (ho j e).imp .inr id⟩
theorem Ql.same (h : Ql w base p pb Ob X) (hst : X.st < 5) (k : Below w.heap.size w w') (r : Value) : QPost r base p (pOb p Ob) X w (.returned r) w' :=
  h.post (h.below k) hst (Kept.of_below k _) (fun j hj => .inl hj) r
theorem Qd.same (h : Qd w base p X) (hst : 5 ≤ X.st) (k : Below w.heap.size w w') (r : Value) : QPost r base p (pOb p fun _ => False) X w (.returned r) w' :=
  ⟨rfl, _, .inr ⟨hst, rfl, h.at_.below k h.at_.lt, h.bp⟩, Kept.of_below k _, fun j hj => .inl hj⟩
theorem Qd.set (h : Qd w base p X) (j : Nat) (u : Value) (he : (qpL X (.pointer none)).set j u = qpL X' (.pointer none)) : Qd (w.setCell ⟨p, j, none⟩ u) base p X' := ⟨he ▸ h.at_.set j u, h.bp⟩
theorem Qd.drewN (h : Qd w base p X) (n : Nat) : Qd (w.drewN n) base p X := ⟨h.at_.drewN n, h.bp⟩
theorem Qd.post (h : Qd w base p X) (h' : Qd w' base p X') (hst : 5 ≤ X'.st) (k : Kept (· = p) w w') (r : Value) : QPost r base p (pOb p fun _ => False) X' w (.returned r) w' :=
  ⟨rfl, _, .inr ⟨hst, rfl, h'⟩, k.mono fun j hj => .inl (.inl hj), fun j hj => .inl hj⟩
theorem Qp.lt (h : Qp w base p O X) : ∀ j, O j → base ≤ j ∧ j < w.heap.size := by
  rcases h with ⟨_, pb, Ob, rfl, h⟩ | ⟨_, rfl, h⟩
  · exact h.lt
  · rintro j (rfl | hj)
    · exact ⟨h.bp, h.at_.lt⟩
    · exact hj.elim
theorem Qp.own (h : Qp w base p O X) : O p := by
  rcases h with ⟨_, pb, Ob, rfl, h⟩ | ⟨_, rfl, h⟩ <;> exact .inl rfl
theorem Qp.kept {T : Nat → Prop} (h : Qp w base p O X) (k : Kept T w w') (hs : ∀ j, O j → ¬ T j) : Qp w' base p O X := by
  rcases h with ⟨hst, pb, Ob, rfl, h⟩ | ⟨hst, rfl, h⟩
  · exact .inl ⟨hst, pb, Ob, rfl, h.kept k hs⟩
  · exact .inr ⟨hst, rfl, h.at_.kept k (hs p (.inl rfl)), h.bp⟩
theorem Qp.below (h : Qp w base p O X) (k : Below w.heap.size w w') : Qp w' base p O X := h.kept (Kept.of_below k (fun _ => False)) fun _ _ h => h
theorem Qp.drewN (h : Qp w base p O X) (n : Nat) : Qp (w.drewN n) base p O X := h.kept ((Kept.refl (fun _ => False) w).drewN n) fun _ _ h => h
theorem Qp.at_ (h : Qp w base p O X) : ∃ pin, At w p 61 (qpL X pin) := by
  rcases h with ⟨_, pb, Ob, rfl, h⟩ | ⟨_, rfl, h⟩
  · exact ⟨_, h.at_⟩
  · exact ⟨_, h.at_⟩
theorem Qp.live (h : Qp w base p O X) (hst : X.st < 5) : ∃ pb Ob, O = pOb p Ob ∧ Ql w base p pb Ob X := by
  rcases h with ⟨_, h⟩ | ⟨h, _⟩
  · exact h
  · omega
theorem Qp.dead (h : Qp w base p O X) (hst : 5 ≤ X.st) : O = pOb p (fun _ => False) ∧ Qd w base p X := by
  rcases h with ⟨h, _⟩ | ⟨_, h⟩
  · omega
  · exact h
theorem Qp.c0 (h : Qp w base p O X) : w.cell? ⟨p, 0, none⟩ = some (.int .u64 X.id) := by obtain ⟨pin, h⟩ := h.at_; rw [h.cell]; rfl
theorem Qp.c1 (h : Qp w base p O X) : w.cell? ⟨p, 1, none⟩ = some (.int .u64 X.win) := by obtain ⟨pin, h⟩ := h.at_; rw [h.cell]; rfl
theorem Qp.c2 (h : Qp w base p O X) : w.cell? ⟨p, 2, none⟩ = some (.int .i64 X.st) := by obtain ⟨pin, h⟩ := h.at_; rw [h.cell]; rfl
theorem Qp.c3 (h : Qp w base p O X) : w.cell? ⟨p, 3, none⟩ = some (.int .u64 X.lim) := by obtain ⟨pin, h⟩ := h.at_; rw [h.cell]; rfl
theorem Qp.c5 (h : Qp w base p O X) : w.cell? ⟨p, 5, none⟩ = some (.int .u64 X.code) := by obtain ⟨pin, h⟩ := h.at_; rw [h.cell]; rfl
theorem Qp.c6 (h : Qp w base p O X) : w.cell? ⟨p, 6, none⟩ = some (.int .u64 X.fin) := by obtain ⟨pin, h⟩ := h.at_; rw [h.cell]; rfl
theorem Qp.c7 (h : Qp w base p O X) : w.cell? ⟨p, 7, none⟩ = some (.bool X.asked) := by obtain ⟨pin, h⟩ := h.at_; rw [h.cell]; rfl
theorem Qp.c8 (h : Qp w base p O X) : w.cell? ⟨p, 8, none⟩ = some (.int .u64 X.stop) := by obtain ⟨pin, h⟩ := h.at_; rw [h.cell]; rfl
theorem Qp.c9 (h : Qp w base p O X) : w.cell? ⟨p, 9, none⟩ = some (.bool X.due) := by obtain ⟨pin, h⟩ := h.at_; rw [h.cell]; rfl
theorem Qp.c10 (h : Qp w base p O X) : w.cell? ⟨p, 10, none⟩ = some (.bool X.again) := by obtain ⟨pin, h⟩ := h.at_; rw [h.cell]; rfl
theorem Qp.fz (h : Qp w base p O X) (j : Nat) : w.frozen? ⟨p, j, none⟩ = false := by obtain ⟨pin, h⟩ := h.at_; exact h.frozen j
theorem Ql.qp (h : Ql w base p pb Ob X) (hst : X.st < 5) : Qp w base p (pOb p Ob) X := .inl ⟨hst, pb, Ob, rfl, h⟩
theorem Qd.qp (h : Qd w base p X) (hst : 5 ≤ X.st) : Qp w base p (pOb p fun _ => False) X := .inr ⟨hst, rfl, h⟩
theorem Ql.c4 (h : Ql w base p pb Ob X) : w.cell? ⟨p, 4, none⟩ = some (.pointer (some ⟨pb, 0, none⟩)) := by rw [h.at_.cell]; rfl
theorem Qd.c4 (h : Qd w base p X) : w.cell? ⟨p, 4, none⟩ = some (.pointer none) := by rw [h.at_.cell]; rfl
/-- Behind something that made blocks of its own alone. -/
theorem QPost.after {r : Value} {e : Ending} {w1 : World} (h : Qp w base p O X) (k : Below w.heap.size w w1) (hP : QPost r base p O X' w1 e w') : QPost r base p O X' w e w' := by
  obtain ⟨he, O', h1, h2, h3⟩ := hP
  have := k.size
  exact ⟨he, O', h1, (Kept.of_below k O).trans h2, fun j hj => (h3 j hj).imp id fun h => by omega⟩
end
/-- What New leaves. -/
def QNew (X : QS) (w : World) (e : Ending) (w' : World) : Prop := ∃ p, e = .returned (.pointer (some ⟨p, 0, none⟩)) ∧ (∃ O, Qp w' w.heap.size p O X) ∧ Below w.heap.size w w'
set_option maxRecDepth 100000 in
set_option maxHeartbeats 2000000 in
theorem q_new (id win : Nat) (hid : id < 18446744073709551616) (hw : win < 18446744073709551616) (w : World) : Calls Try.prog 5 #[.int .u64 id, .int .u64 win] w (QNew (qs0 id win) w) := by
  have HN := Lib.hid (inew_any w)
  obtain ⟨m, hm⟩ : ∃ m, m = min win 2048 := ⟨_, rfl⟩
  have HF : Hid (∀ w1 p1, (∃ O, Bf w1 w.heap.size p1 O bs0) → Below w.heap.size w w1 → QNew (qs0 id win) w (.returned (.pointer (some ⟨w1.heap.size, 0, none⟩))) (w1.alloc (.cells #[.int .u64 id, .int .u64 m, .int .i64 1, .int .u64 m, .pointer (some ⟨p1, 0, none⟩), .int .u64 0, .int .u64 0, .bool false, .int .u64 0, .bool false, .bool false] 61))) := Lib.hid (by
    rintro w1 p1 ⟨O, hb⟩ hB
    refine ⟨_, rfl, ⟨_, .inl ⟨by show 1 < 5; omega, p1, O, rfl, ?_⟩⟩, hB.alloc hB.size _⟩
    refine ⟨?_, hb.kept ((Kept.refl (fun _ => False) w1).alloc _) (fun _ _ h => h), fun e => by have := (hb.lt _ e).2; omega, hB.size⟩
    have := At.new w1 61 (qpL (qs0 id win) (.pointer (some ⟨p1, 0, none⟩)))
    unfold qpL qs0 at this
    simp only [← hm] at this
    unfold qpL qs0
    simp only [← hm]
    exact this)
  have hmz : (if (2048 : Int) < (win : Int) then (2048 : Int) else (win : Int)) = (m : Int) := by rw [hm]; split <;> omega
  clear hm
  go_enter Try.func5, Try.ntmps5
  go_wp2_with (go_at_call 18; (with_reducible refine HN.out.mono ?_); rintro e w1 ⟨p1, rfl, hO, hB⟩; have HO := Lib.hid (HF.out w1 p1 hO hB); clear hO hB)
  go_ret
  exact HO.out
section
variable {w w' : World} {base p pb : Nat} {O Ob Ob' : Nat → Prop} {X X' : QS}
theorem q_state (h : Qp w base p O X) : Calls Try.prog 9 #[.pointer (some ⟨p, 0, none⟩)] w fun e w' => e = .returned (.int .i64 X.st) ∧ w' = w := by
  have h2 := h.c2
  clear h
  go_enter Try.func9, Try.ntmps9
  go_wp2
  go_ret
  exact ⟨rfl, rfl⟩
theorem q_limit (h : Qp w base p O X) : Calls Try.prog 7 #[.pointer (some ⟨p, 0, none⟩)] w fun e w' => e = .returned (.int .u64 X.lim) ∧ w' = w := by
  have h2 := h.c3
  clear h
  go_enter Try.func7, Try.ntmps7
  go_wp2
  go_ret
  exact ⟨rfl, rfl⟩
end
end
end Go.Proofs.Ytahalbmcijbbmaa
