/-
  The document's sender: New, Write, Finish, Stop.
-/
import Derived.Test.YtbejpafephofaaaGreatZk
import Derived.Test.YtbejpafephofaaaGreatEa
import Derived.BigQuiet
import Derived.BigRegion
import Derived.Test.YtbejpafephofaaaGreatMq19
namespace Go.Proofs.YtbejpafephofaaaGreat
section
set_option linter.unusedVariables false
set_option linter.unusedSimpArgs false
open Go.RowKit
def dsL (id lim st : Value) (B fr : List Value) (dd : Value) : List Value := [id, lim, st] ++ B ++ fr ++ [dd]
def zB : List Value := [.slice none 0 0, .slice none 0 0, .slice none 0 0, .int .i64 0, .bool false, .bool false, .bool false, .bool false]
def zFr : List Value := frL (FN.zero 0) .nil .nil
set_option maxRecDepth 100000 in
theorem rm_new (id : Nat) (w0 w : World) (hb : Below w0.heap.size w0 w) : Calls Tryz.prog 5 #[.int .u64 id] w fun e w' => ∃ q O, e = .returned (.pointer (some ⟨q, 0, none⟩)) ∧ Dm w0 w' q O (ss0 id) zFr false ∧ Below w.heap.size w w' ∧ ∀ b, O b → w.heap.size ≤ b := by
  have HF : Hid (∃ O, Dm w0 (w.alloc (.cells (dsL (.int .u64 id) (.int .u64 0) (.int .i64 1) zB zFr (.bool false)).toArray 53)) w.heap.size O (ss0 id) zFr false ∧ (∀ b, O b → w.heap.size ≤ b) ∧ Below w.heap.size w (w.alloc (.cells (dsL (.int .u64 id) (.int .u64 0) (.int .i64 1) zB zFr (.bool false)).toArray 53))) := Lib.hid (by
    have k : Below w.heap.size w (w.alloc (.cells (dsL (.int .u64 id) (.int .u64 0) (.int .i64 1) zB zFr (.bool false)).toArray 53)) := (Below.refl _ _).alloc (Nat.le_refl _) _
    have key : ∀ i k : Nat, (robs w.heap.size (.slice none 0 0) (.slice none 0 0) (.slice none 0 0))[i]? = some (some k) → i = 0 ∧ k = w.heap.size := fun i k hi => by
      rcases i with _ | _ | _ | _ | i
      · injection hi with hi; injection hi with hi; exact ⟨rfl, hi.symm⟩
      · simp [robs, Value.ownBlock] at hi
      · simp [robs, Value.ownBlock] at hi
      · simp [robs, Value.ownBlock] at hi
      · simp [robs] at hi
    refine ⟨_, ⟨os0_ok, ⟨_, ⟨.slice none 0 0, .slice none 0 0, .slice none 0 0, [], [], rfl, ⟨At.new w _ _, ?_, Own.none_ _ _ _, ⟨rfl, .inl ⟨rfl, rfl⟩⟩, ⟨rfl, .inl ⟨rfl, rfl⟩⟩, fun i j k hi hj => (key i k hi).1.trans (key j k hj).1.symm, hb.size⟩, rf0⟩, rfl, rfl, rfl, rfl, fun j v hv => ?_, rfl⟩, rfl, hb.trans (k.mono hb.size), Nat.zero_le _⟩, fun b hbb => ?_, k⟩
    · intro j u hj
      have hj8 : j < 8 := (List.getElem?_eq_some_iff.1 hj).1
      rw [← hj]
      unfold dsL
      rw [List.append_assoc, List.append_assoc, List.getElem?_append_right (by simp), List.getElem?_append_left (by simp [zB]; omega)]
      rw [show 3 + j - ([Value.int IntKind.u64 (id : Int), .int .u64 0, .int .i64 1] : List Value).length = j by simp]
      rfl
    · have hj8 : j < 19 := (List.getElem?_eq_some_iff.1 hv).1
      rw [← hv]
      unfold dsL
      rw [List.getElem?_append_left (by simp [zB, zFr, frL]; omega), List.getElem?_append_right (by simp [zB])]
      rw [show 11 + j - (([Value.int IntKind.u64 (id : Int), .int .u64 0, .int .i64 1] : List Value) ++ zB).length = j by simp [zB]]
    · obtain ⟨i, hi⟩ := List.mem_iff_getElem?.1 hbb
      exact Nat.le_of_eq (key i b hi).2.symm)
  obtain ⟨O, h1, h2, h3⟩ := HF.out
  have HX := Lib.hid (And.intro h1 (And.intro h3 h2))
  clear h1 h2 h3 HF hb
  unfold dsL zB zFr frL FN.zero Sl.nil at HX
  simp only [List.cons_append, List.nil_append] at HX
  go_enter Tryz.func5, Tryz.ntmps5
  go_wp2
  go_ret
  exact ⟨_, O, rfl, HX.out⟩
section
variable {w0 W : World} {q : Nat} {O : Nat → Prop} {X : SS} {fr : List Value} {dd : Bool}
theorem Dm.same (h : Dm w0 W q O X fr dd) {W' : World} (k : Below W.heap.size W W') (r : Value) : DmPost w0 W q O X fr dd r (.returned r) W' := ⟨rfl, O, h.below k, Kept.of_below k _, fun j hj => .inl hj⟩
set_option maxRecDepth 100000 in
theorem rm_write_closed (h : Dm w0 W q O X fr dd) (hst : X.st ≤ 6) (hcl : X.o.ov = true ∨ 4 < X.st) (A : Option Addr) (n c : Nat) : Calls Tryz.prog 11 #[.pointer (some ⟨q, 0, none⟩), .slice A n c] W (DmPost w0 W q O X fr dd (.tuple #[.int .i64 0, .int .i64 24])) := by
  have h7 := h.c7
  have h2 := h.c2
  have HS := Lib.hid (h.same (Below.refl _ _) (.tuple #[.int .i64 0, .int .i64 24]))
  clear h
  cases hov : X.o.ov with
  | true =>
    rw [hov] at h7
    clear hcl hov
    go_enter Tryz.func11, Tryz.ntmps11
    go_wp2
    go_ret2
    exact HS.out
  | false =>
    rw [hov] at h7
    have hz : (4 : Int) < (X.st : Int) := by
      rcases hcl with e | e
      · rw [hov] at e; cases e
      · omega
    clear hcl hov
    go_enter Tryz.func11, Tryz.ntmps11
    go_wp2
    go_ret2
    exact HS.out
set_option maxRecDepth 100000 in
theorem rm_write_full (h : Dm w0 W q O X fr dd) (hov : X.o.ov = false) (hst : X.st ≤ 4) (A : Option Addr) (n c : Nat) (hn : 0 < n) (hr : roomO X.o = 0) : Calls Tryz.prog 11 #[.pointer (some ⟨q, 0, none⟩), .slice A n c] W (DmPost w0 W q O X fr dd (.tuple #[.int .i64 0, .int .i64 26])) := by
  have h7 := h.c7
  have h2 := h.c2
  rw [hov] at h7
  have HS := Lib.hid (fun d => h.same (below_drewN (Below.refl _ _) d) (.tuple #[.int .i64 0, .int .i64 26]))
  have hle := h.le
  have hok := h.ok
  obtain ⟨L, hrs, _⟩ := h.ex
  have HR := Lib.hid (rroom_any hrs hok (by omega))
  rw [hr] at HR
  clear h hrs hok hle hov hr
  have hz : ¬ (4 : Int) < (X.st : Int) := by omega
  have hz2 : (0 : Int) < (n : Int) := by omega
  clear hst hn
  go_enter Tryz.func11, Tryz.ntmps11
  go_wp2_with (go_at_call 31; (with_reducible refine HR.out.mono ?_); rintro e w1 ⟨rfl, dn, hw⟩; rw [hw]; clear hw)
  go_ret2
  exact HS.out _
set_option maxRecDepth 100000 in
theorem rm_write (h : Dm w0 W q O X fr dd) (hov : X.o.ov = false) (hst : X.st ≤ 4) (A : Option Addr) (n c : Nat) (bs : List Int) (hr : RdP W (fun b => ¬ O b) A n bs) (hnc : n ≤ c) (hn : n ≤ 1000) (hL : X.o.bs.length ≤ 700000) (hR : n = 0 ∨ 0 < roomO X.o) :
    Calls Tryz.prog 11 #[.pointer (some ⟨q, 0, none⟩), .slice A n c] W (DmPost w0 W q O { X with o := writeO X.o bs } fr dd (.tuple #[.int .i64 (writeN X.o n), .int .i64 0])) := by
  have h7 := h.c7
  have h2 := h.c2
  rw [hov] at h7
  have hle := h.le
  have hok := h.ok
  have hbl : bs.length = n := hr.1.1
  have hB := h.bl.size
  have hok' := writeO_ok hok hr.1.2.1
  have hle' : (writeO X.o bs).bs.length ≤ 800000 := by
    show (X.o.bs ++ bs.take _).length ≤ _
    rw [List.length_append, List.length_take]
    omega
  have HWR : Hid (∀ d, Calls Tryz.prog 32 #[.pointer (some ⟨q, 3, none⟩), .slice A n c] (W.drewN d) fun e w' => e = .returned (.int .i64 (writeN X.o n)) ∧ DmPost w0 W q O { X with o := writeO X.o bs } fr dd (.int .i64 (writeN X.o n)) e w') := Lib.hid (fun d => by
    obtain ⟨L, hrs, hx⟩ := h.ex
    have hr' : RdP (W.drewN d) (fun b => ¬ O b) A n bs := hr.kept ((Kept.refl (fun _ => False) W).drewN d) (fun _ _ h => h)
    refine (rwrite_any (hrs.drewN d) hok hB (by omega) A n c bs hr' hnc (by omega)).mono fun e w' hP => ⟨hP.1, ?_⟩
    obtain ⟨he, L', O', q1, q2, q3, q4⟩ := hP
    have hbuf : ∃ O', Dm w0 w' q O' { X with o := writeO X.o bs } fr dd ∧ Kept O W w' ∧ ∀ j, O' j → O j ∨ W.heap.size ≤ j := by
      obtain ⟨hl, h0, h1, h2, hf, h30⟩ := hx
      have hk : Kept O W w' := q3.from_drewN
      exact ⟨O', ⟨hok', ⟨L', q1, by rw [q2.len]; exact hl, by rw [q2.out 0 (.inl (by omega))]; exact h0, by rw [q2.out 1 (.inl (by omega))]; exact h1, by rw [q2.out 2 (.inl (by omega))]; exact h2, fun j v hv => by rw [q2.out (11 + j) (.inr (by omega))]; exact hf j v hv, by rw [q2.out 30 (.inr (by omega))]; exact h30⟩, h.fl, hk.belowO h.bl fun j hj => (h.lt j hj).1, hle'⟩, hk, q4⟩
    exact ⟨he, hbuf⟩)
  obtain ⟨R, hRR⟩ : ∃ R, R = roomO X.o := ⟨_, rfl⟩
  have HR : Hid (Calls Tryz.prog 31 #[.pointer (some ⟨q, 3, none⟩)] W fun e w' => e = .returned (.int .i64 R) ∧ ∃ d, w' = W.drewN d) := Lib.hid (by
    obtain ⟨L, hrs, hx⟩ := h.ex
    rw [hRR]
    exact rroom_any hrs hok (by omega))
  rw [← hRR] at hR
  have hz : ¬ (4 : Int) < (X.st : Int) := by omega
  clear h hok hok' hle hle' hB hr hbl hRR hov hst
  by_cases hn0 : n = 0
  · have hz2 : ¬ (0 : Int) < (n : Int) := by omega
    have HW0 := Lib.hid (HWR.out 0)
    clear hR hn0
    go_enter Tryz.func11, Tryz.ntmps11
    go_wp2_with (go_at_call 32; (with_reducible refine (show Calls _ _ _ W _ from HW0.out).mono ?_); rintro e w1 ⟨rfl, hP⟩; have HP := Lib.hid hP.2; clear hP)
    go_ret2
    exact ⟨rfl, HP.out⟩
  · have hz2 : (0 : Int) < (n : Int) := by omega
    have hRb : ((R : Int) == 0) = false := by simp; omega
    clear hR hn0
    go_enter Tryz.func11, Tryz.ntmps11
    go_wp2_with (first
      | (go_at_call 31; (with_reducible refine HR.out.mono ?_); rintro e w1 ⟨rfl, dn, hw⟩; rw [hw]; clear hw)
      | (go_at_call 32; (with_reducible refine (HWR.out _).mono ?_); rintro e w2 ⟨rfl, hP⟩; have HP := Lib.hid hP.2; clear hP))
    go_ret2
    exact ⟨rfl, HP.out⟩
set_option maxRecDepth 100000 in
theorem rm_finish_no (h : Dm w0 W q O X fr dd) (hcl : X.o.ov = true ∨ 4 < X.st) : Calls Tryz.prog 13 #[.pointer (some ⟨q, 0, none⟩)] W (DmPost w0 W q O X fr dd (.int .i64 24)) := by
  have h2 := h.c2
  have HS := Lib.hid (h.same (Below.refl _ _) (.int .i64 24))
  by_cases hst : 4 < X.st
  · have hz : (4 : Int) < (X.st : Int) := by omega
    clear h hst hcl
    go_enter Tryz.func13, Tryz.ntmps13
    go_wp2
    go_ret
    exact HS.out
  · have hz : ¬ (4 : Int) < (X.st : Int) := by omega
    have hov : X.o.ov = true := hcl.resolve_right hst
    have HF : Hid (Calls Tryz.prog 34 #[.pointer (some ⟨q, 3, none⟩)] W fun e w' => e = .returned (.bool false) ∧ DmPost w0 W q O X fr dd (.int .i64 24) (.returned (.int .i64 24)) w') := Lib.hid (by
      obtain ⟨L, hrs, hx⟩ := h.ex
      refine (rfinish_any hrs).mono fun e w' hP => ⟨by rw [hP.1, hov]; rfl, ?_⟩
      have hS : finO X.o = X.o := by
        unfold finO
        rw [← hov]
      obtain ⟨_, L', O', q1, q2, q3, q4⟩ := hP
      rw [hS] at q1
      obtain ⟨hl, h0, h1, h2, hf, h30⟩ := hx
      exact ⟨rfl, O', ⟨h.ok, ⟨L', q1, by rw [q2.len]; exact hl, by rw [q2.out 0 (.inl (by omega))]; exact h0, by rw [q2.out 1 (.inl (by omega))]; exact h1, by rw [q2.out 2 (.inl (by omega))]; exact h2, fun j v hv => by rw [q2.out (11 + j) (.inr (by omega))]; exact hf j v hv, by rw [q2.out 30 (.inr (by omega))]; exact h30⟩, h.fl, q3.belowO h.bl fun j hj => (h.lt j hj).1, h.le⟩, q3, q4⟩)
    clear h hst hcl
    go_enter Tryz.func13, Tryz.ntmps13
    go_wp2_with (go_at_call 34; (with_reducible refine HF.out.mono ?_); rintro e w1 ⟨rfl, hP⟩; have HP := Lib.hid hP; clear hP)
    go_ret
    exact HP.out
set_option maxRecDepth 100000 in
theorem rm_finish (h : Dm w0 W q O X fr dd) (hov : X.o.ov = false) (hst : X.st ≤ 4) (cl : Bool) : Calls Tryz.prog 13 #[.pointer (some ⟨q, 0, none⟩)] W (DmPost w0 W q O { X with cl := cl, o := finO X.o } fr dd (.int .i64 0)) := by
  have h2 := h.c2
  have hz : ¬ (4 : Int) < (X.st : Int) := by omega
  have HF : Hid (Calls Tryz.prog 34 #[.pointer (some ⟨q, 3, none⟩)] W fun e w' => e = .returned (.bool true) ∧ DmPost w0 W q O { X with cl := cl, o := finO X.o } fr dd (.int .i64 0) (.returned (.int .i64 0)) w') := Lib.hid (by
    obtain ⟨L, hrs, hx⟩ := h.ex
    refine (rfinish_any hrs).mono fun e w' hP => ⟨by rw [hP.1, hov]; rfl, ?_⟩
    obtain ⟨_, L', O', q1, q2, q3, q4⟩ := hP
    obtain ⟨hl, h0, h1, h2, hf, h30⟩ := hx
    exact ⟨rfl, O', ⟨finO_ok h.ok, ⟨L', q1, by rw [q2.len]; exact hl, by rw [q2.out 0 (.inl (by omega))]; exact h0, by rw [q2.out 1 (.inl (by omega))]; exact h1, by rw [q2.out 2 (.inl (by omega))]; exact h2, fun j v hv => by rw [q2.out (11 + j) (.inr (by omega))]; exact hf j v hv, by rw [q2.out 30 (.inr (by omega))]; exact h30⟩, h.fl, q3.belowO h.bl fun j hj => (h.lt j hj).1, h.le⟩, q3, q4⟩)
  clear h hst hov
  go_enter Tryz.func13, Tryz.ntmps13
  go_wp2_with (go_at_call 34; (with_reducible refine HF.out.mono ?_); rintro e w1 ⟨rfl, hP⟩; have HP := Lib.hid hP; clear hP)
  go_ret
  exact HP.out
set_option maxRecDepth 100000 in
theorem rm_stop_no (h : Dm w0 W q O X fr dd) (hst : 4 ≤ X.st) (code : Nat) : Calls Tryz.prog 15 #[.pointer (some ⟨q, 0, none⟩), .int .u64 code] W (DmPost w0 W q O X fr dd (.int .i64 24)) := by
  have h2 := h.c2
  have HS := Lib.hid (h.same (Below.refl _ _) (.int .i64 24))
  have hz : (4 : Int) ≤ (X.st : Int) := by omega
  clear h hst
  go_enter Tryz.func15, Tryz.ntmps15
  go_wp2
  go_ret
  exact HS.out
set_option maxRecDepth 100000 in
theorem rm_stop_arg (h : Dm w0 W q O X fr dd) (hst : X.st ≤ 3) (code : Nat) (hc : 4611686018427387903 < code) : Calls Tryz.prog 15 #[.pointer (some ⟨q, 0, none⟩), .int .u64 code] W (DmPost w0 W q O X fr dd (.int .i64 1)) := by
  have h2 := h.c2
  have HS := Lib.hid (h.same (Below.refl _ _) (.int .i64 1))
  have hz : ¬ (4 : Int) ≤ (X.st : Int) := by omega
  have hz2 : (4611686018427387903 : Int) < (code : Int) := by omega
  clear h hst hc
  go_enter Tryz.func15, Tryz.ntmps15
  go_wp2
  go_ret
  exact HS.out
end
end
section
set_option linter.unusedVariables false
set_option linter.unusedSimpArgs false
open Go.RowKit
theorem inT_lt {S : OS} {off n j : Nat} (h : S.gn ≤ j) : inT S off n j = false := by
  unfold inT
  have : ¬ j < S.gn := by omega
  simp [this]
/-- What stood up to i of a row of flags, what is turned before i. -/
def turnF (f : Nat → Bool) (S : OS) (off n i : Nat) : Nat → Bool := fun j => f j || (decide (j < i) && inT S off n j)
theorem turnF_0 (f : Nat → Bool) (S : OS) (off n : Nat) : turnF f S off n 0 = f := by
  funext j
  unfold turnF
  simp
theorem turnF_end (f : Nat → Bool) (S : OS) (off n : Nat) : turnF f S off n S.gn = fun j => f j || inT S off n j := by
  funext j
  unfold turnF
  by_cases h : j < S.gn
  · simp [h]
  · rw [inT_lt (by omega : S.gn ≤ j)]
    simp
theorem turnF_no (f : Nat → Bool) (S : OS) (off n i : Nat) (h : inT S off n i = false) : turnF f S off n (i + 1) = turnF f S off n i := by
  funext j
  unfold turnF
  by_cases e : j = i
  · subst e
    rw [h]
    simp
  · have : decide (j < i + 1) = decide (j < i) := by rw [decide_eq_decide]; omega
    rw [this]
theorem turnF_yes (f : Nat → Bool) (S : OS) (off n i len : Nat) (h : inT S off n i = true) : (tabB (turnF f S off n i) len).set i true = tabB (turnF f S off n (i + 1)) len := by
  rw [tabB_set]
  refine tabB_congr fun j _ => ?_
  unfold turnF
  by_cases e : j = i
  · subst e
    rw [if_pos rfl, h]
    simp
  · have : decide (j < i + 1) = decide (j < i) := by rw [decide_eq_decide]; omega
    rw [if_neg e, this]
section
variable {w : World} {base q o : Nat} {T : TypeId} {L : List Value} {O : Nat → Prop} {S : OS}
/-- acked: behind i rounds. -/
structure Ta (w wr : World) (base q o : Nat) (T : TypeId) (L : List Value) (vb va vg : Value) (C A : List Bool) (aw : Nat → Bool) (S : OS) (off N i : Nat) : Prop where
  r : Rr wr base q o T L vb va vg S.bs (tabB (turnF S.ak S off N i) S.bs.length) A S.gn S.ov S.en S.ea S.el
  k : Kept (rqO q vb va vg) w wr
set_option maxHeartbeats 8000000 in
set_option maxRecDepth 100000 in
theorem rturn_acked (h : Rs w base q o T L O S) (hok : S.ok) (hL : S.bs.length ≤ 1000000) (off : Nat) (ho : off < 18446744073709551616) (n : Int) (hn : -9223372036854775808 ≤ n ∧ n < 9223372036854775808) (fin : Bool) :
    Calls Tryz.prog 42 #[.pointer (some ⟨q, o, none⟩), .int .u64 off, .int .i64 n, .bool fin, .bool true] w (RsPost (.tuple #[]) base q o T L O (ackO S off n.toNat fin) w) := by
  obtain ⟨Ab, cb, Aa, ca, Ag, cg, C, A, rfl, hr, hf, l1, l2⟩ := h.open_
  obtain ⟨hfc, aw, hfa, hag, haw⟩ := hf
  have hgl := hok.gl
  have HT0 : Hid (Ta w w base q o T L (.slice Ab S.bs.length cb) (.slice Aa S.bs.length ca) (.slice Ag S.bs.length cg) C A aw S off n.toNat 0) := Lib.hid ⟨by rw [turnF_0, ← hfc]; exact hr, Kept.refl _ _⟩
  have HC : Hid (∀ wr i, Ta w wr base q o T L (.slice Ab S.bs.length cb) (.slice Aa S.bs.length ca) (.slice Ag S.bs.length cg) C A aw S off n.toNat i → wr.cell? ⟨q, o + 3, none⟩ = some (.int .i64 S.gn) ∧ wr.cell? ⟨q, o + 1, none⟩ = some (.slice Aa S.bs.length ca) ∧ wr.cell? ⟨q, o + 5, none⟩ = some (.bool S.en)) := Lib.hid (fun wr i h => ⟨h.r.cell 3 rfl, h.r.cell 1 rfl, h.r.cell 5 rfl⟩)
  have HNO : Hid (∀ wr i, Ta w wr base q o T L (.slice Ab S.bs.length cb) (.slice Aa S.bs.length ca) (.slice Ag S.bs.length cg) C A aw S off n.toNat i → inT S off n.toNat i = false → Ta w wr base q o T L (.slice Ab S.bs.length cb) (.slice Aa S.bs.length ca) (.slice Ag S.bs.length cg) C A aw S off n.toNat (i + 1)) := Lib.hid (fun wr i h hno => ⟨by rw [turnF_no _ _ _ _ _ hno]; exact h.r, h.k⟩)
  have HYES : Hid (∀ wr i, Ta w wr base q o T L (.slice Ab S.bs.length cb) (.slice Aa S.bs.length ca) (.slice Ag S.bs.length cg) C A aw S off n.toNat i → i < S.gn → inT S off n.toNat i = true → ∃ g b, Aa = some ⟨g, 0, none⟩ ∧ wr.cell? ⟨g, i, none⟩ = some (.bool b) ∧ wr.frozen? ⟨g, i, none⟩ = false ∧ Hid (Ta w (wr.setCell ⟨g, i, none⟩ (.bool true)) base q o T L (.slice Ab S.bs.length cb) (.slice Aa S.bs.length ca) (.slice Ag S.bs.length cg) C A aw S off n.toNat (i + 1))) := Lib.hid (fun wr i h hi hy => by
    obtain ⟨g, h1, h2, h3, h4⟩ := owb_get h.r.oa (i := i) (b := turnF S.ak S off n.toNat i i) (tabB_get _ _ _ (by omega))
    obtain ⟨h5, h6⟩ := h4 true
    rw [turnF_yes _ _ _ _ _ _ hy] at h5
    refine ⟨g, _, h1, h2, h3, Lib.hid ⟨h.r.acks h5 h6, h.k.trans' h6 fun j hj => .inl (rqO_at (i := 2) (by rw [← hj]; rfl))⟩⟩)
  have HEND : Hid (∀ wr, Ta w wr base q o T L (.slice Ab S.bs.length cb) (.slice Aa S.bs.length ca) (.slice Ag S.bs.length cg) C A aw S off n.toNat S.gn →
      ((fin && S.en) = false → RsPost (.tuple #[]) base q o T L (rqO q (.slice Ab S.bs.length cb) (.slice Aa S.bs.length ca) (.slice Ag S.bs.length cg)) (ackO S off n.toNat fin) w (.returned (.tuple #[])) wr) ∧
      ((fin && S.en) = true → RsPost (.tuple #[]) base q o T L (rqO q (.slice Ab S.bs.length cb) (.slice Aa S.bs.length ca) (.slice Ag S.bs.length cg)) (ackO S off n.toNat fin) w (.returned (.tuple #[])) (wr.setCell ⟨q, o + 6, none⟩ (.bool true))) ∧ wr.cell? ⟨q, o + 6, none⟩ = some (.bool S.ea) ∧ wr.frozen? ⟨q, o + 6, none⟩ = false) := Lib.hid (fun wr h => by
    have hr := h.r
    rw [turnF_end] at hr
    have hrf := Rf.ack hfc hfa hag haw off n.toNat fin
    refine ⟨fun hf0 => ?_, fun hf1 => ?_, hr.cell 6 rfl, hr.at_.frozen _⟩
    · refine ⟨rfl, L, _, ⟨_, _, _, _, _, rfl, ?_, hrf⟩, Samo.refl _ _, h.k, fun j hj => .inl hj⟩
      have e : (ackO S off n.toNat fin).ea = S.ea := by
        show (S.ea || (fin && S.en)) = _
        rw [hf0, Bool.or_false]
      rw [e]
      exact hr
    · refine ⟨rfl, _, _, ⟨_, _, _, _, _, rfl, ?_, hrf⟩, (Samo.refl o L).set (i := 6) (by omega) (.bool true), h.k.setCell (p := ⟨q, o + 6, none⟩) (.inl (rqO_at (i := 0) rfl)) _, fun j hj => .inl hj⟩
      have e : (ackO S off n.toNat fin).ea = true := by
        show (S.ea || (fin && S.en)) = _
        rw [hf1, Bool.or_true]
      rw [e]
      exact hr.top 6 (.bool true) rfl (by omega))
  have HIN : Hid (∀ i, i < S.gn → inT S off n.toNat i = (decide (off ≤ i) && decide (i < off + n.toNat))) := Lib.hid (fun i hi => by unfold inT; simp [hi])
  have hgb : S.gn ≤ 1000000 := by omega
  have hgn : (S.gn : Int) ≤ (S.bs.length : Int) := by omega
  clear hr hfc hfa hag haw h hok l1 l2
  generalize S.bs.length = len at *
  obtain ⟨S', hS'⟩ : ∃ S', S' = ackO S off n.toNat fin := ⟨_, rfl⟩
  rw [← hS'] at HEND ⊢
  clear hS'
  have hwu : ∀ x : Nat, x ≤ 1000000 → IntKind.u64.wrap (x : Int) = (x : Int) := fun x hx => by rw [IntKind.wrap_u64]; omega
  have HWU := Lib.hid hwu
  clear hwu
  go_enter Tryz.func42, Tryz.ntmps42
  go_wp2
  go_loopg [10] S.gn (fun kx s10 wr => ∃ i : Nat, s10 = .int .i64 i ∧ i ≤ S.gn ∧ S.gn - i ≤ kx ∧ Hid (Ta w wr base q o T L (.slice Ab len cb) (.slice Aa len ca) (.slice Ag len cg) C A aw S off n.toNat i))
  case atStart => exact ⟨0, rfl, Nat.zero_le _, by omega, HT0⟩
  case round =>
    clear HT0
    obtain ⟨i, rfl, hig, hkx, hT⟩ := hrel
    obtain ⟨c3, c1, c5⟩ := HC.out wr i hT.out
    rcases Nat.lt_or_ge i S.gn with hi | hi
    · have hiz : (i : Int) < (S.gn : Int) := by omega
      have wi := HWU.out i (by omega)
      rcases Nat.lt_or_ge i off with h1 | h1
      · have h1z : ¬ (off : Int) ≤ (i : Int) := by omega
        have HX := Lib.hid (HNO.out wr i hT.out (by rw [HIN.out i hi]; simp; omega))
        clear hT
        go_wp2
        go_roundg (S.gn - (i + 1))
        case measure => omega
        case rel => exact ⟨i + 1, by simp, by omega, Nat.le_refl _, HX⟩
      · have h1z : (off : Int) ≤ (i : Int) := by omega
        obtain ⟨t, ht⟩ : ∃ t, t = i - off := ⟨_, rfl⟩
        have zt : (i : Int) - (off : Int) = (t : Int) := by omega
        have wt := HWU.out t (by omega)
        rcases Int.lt_or_le n 0 with h2 | h2
        · have h3 : ¬ (t : Int) < 0 := by omega
          have HX := Lib.hid (HNO.out wr i hT.out (by rw [HIN.out i hi]; simp; omega))
          clear hT ht
          go_wp2
          go_roundg (S.gn - (i + 1))
          case measure => omega
          case rel => exact ⟨i + 1, by simp, by omega, Nat.le_refl _, HX⟩
        · obtain ⟨N, hN⟩ : ∃ N, N = n.toNat := ⟨_, rfl⟩
          have hNn : n = (N : Int) := by omega
          have h2' : ¬ n < 0 := by omega
          have wN : IntKind.u64.wrap n = (N : Int) := by rw [IntKind.wrap_u64]; omega
          by_cases h3 : t < N
          · have h3z : (t : Int) < (N : Int) := by omega
            obtain ⟨g, b, e, x1, x2, HX⟩ := HYES.out wr i hT.out hi (by rw [HIN.out i hi]; simp; omega)
            have hil : (i : Int) < (len : Int) := by omega
            subst e
            clear hT ht hN hNn
            go_wp2
            go_roundg (S.gn - (i + 1))
            case measure => omega
            case rel => exact ⟨i + 1, by simp, by omega, Nat.le_refl _, HX⟩
          · have h3z : ¬ (t : Int) < (N : Int) := by omega
            have HX := Lib.hid (HNO.out wr i hT.out (by rw [HIN.out i hi]; simp; omega))
            clear hT ht hN hNn
            go_wp2
            go_roundg (S.gn - (i + 1))
            case measure => omega
            case rel => exact ⟨i + 1, by simp, by omega, Nat.le_refl _, HX⟩
    · obtain rfl : i = S.gn := by omega
      have hiz : ¬ (S.gn : Int) < (S.gn : Int) := by omega
      obtain ⟨z1, z2, z3, z4⟩ := HEND.out wr hT.out
      clear hT HEND HIN HNO HYES HC
      generalize S.en = en at *
      cases fin
      · have HZ := Lib.hid (z1 (by simp))
        clear z1 z2
        go_wp2
        go_end0
        exact HZ.out
      · cases en
        · have HZ := Lib.hid (z1 (by simp))
          clear z1 z2
          go_wp2
          go_end0
          exact HZ.out
        · have HZ := Lib.hid (z2 (by simp))
          clear z1 z2
          go_wp2
          go_end0
          exact HZ.out
/-- lost: behind i rounds. -/
structure Tg (w wr : World) (base q o : Nat) (T : TypeId) (L : List Value) (vb va vg : Value) (C A : List Bool) (aw : Nat → Bool) (S : OS) (off N i : Nat) : Prop where
  r : Rr wr base q o T L vb va vg S.bs C (tabB (turnF aw S off N i) S.bs.length) S.gn S.ov S.en S.ea S.el
  k : Kept (rqO q vb va vg) w wr
set_option maxHeartbeats 8000000 in
set_option maxRecDepth 100000 in
theorem rturn_lost (h : Rs w base q o T L O S) (hok : S.ok) (hL : S.bs.length ≤ 1000000) (off : Nat) (ho : off < 18446744073709551616) (n : Int) (hn : -9223372036854775808 ≤ n ∧ n < 9223372036854775808) (fin : Bool) :
    Calls Tryz.prog 42 #[.pointer (some ⟨q, o, none⟩), .int .u64 off, .int .i64 n, .bool fin, .bool false] w (RsPost (.tuple #[]) base q o T L O (lostO S off n.toNat fin) w) := by
  obtain ⟨Ab, cb, Aa, ca, Ag, cg, C, A, rfl, hr, hf, l1, l2⟩ := h.open_
  obtain ⟨hfc, aw, hfa, hag, haw⟩ := hf
  have hgl := hok.gl
  have HT0 : Hid (Tg w w base q o T L (.slice Ab S.bs.length cb) (.slice Aa S.bs.length ca) (.slice Ag S.bs.length cg) C A aw S off n.toNat 0) := Lib.hid ⟨by rw [turnF_0, ← hfa]; exact hr, Kept.refl _ _⟩
  have HC : Hid (∀ wr i, Tg w wr base q o T L (.slice Ab S.bs.length cb) (.slice Aa S.bs.length ca) (.slice Ag S.bs.length cg) C A aw S off n.toNat i → wr.cell? ⟨q, o + 3, none⟩ = some (.int .i64 S.gn) ∧ wr.cell? ⟨q, o + 2, none⟩ = some (.slice Ag S.bs.length cg) ∧ wr.cell? ⟨q, o + 5, none⟩ = some (.bool S.en)) := Lib.hid (fun wr i h => ⟨h.r.cell 3 rfl, h.r.cell 2 rfl, h.r.cell 5 rfl⟩)
  have HNO : Hid (∀ wr i, Tg w wr base q o T L (.slice Ab S.bs.length cb) (.slice Aa S.bs.length ca) (.slice Ag S.bs.length cg) C A aw S off n.toNat i → inT S off n.toNat i = false → Tg w wr base q o T L (.slice Ab S.bs.length cb) (.slice Aa S.bs.length ca) (.slice Ag S.bs.length cg) C A aw S off n.toNat (i + 1)) := Lib.hid (fun wr i h hno => ⟨by rw [turnF_no _ _ _ _ _ hno]; exact h.r, h.k⟩)
  have HYES : Hid (∀ wr i, Tg w wr base q o T L (.slice Ab S.bs.length cb) (.slice Aa S.bs.length ca) (.slice Ag S.bs.length cg) C A aw S off n.toNat i → i < S.gn → inT S off n.toNat i = true → ∃ g b, Ag = some ⟨g, 0, none⟩ ∧ wr.cell? ⟨g, i, none⟩ = some (.bool b) ∧ wr.frozen? ⟨g, i, none⟩ = false ∧ Hid (Tg w (wr.setCell ⟨g, i, none⟩ (.bool true)) base q o T L (.slice Ab S.bs.length cb) (.slice Aa S.bs.length ca) (.slice Ag S.bs.length cg) C A aw S off n.toNat (i + 1))) := Lib.hid (fun wr i h hi hy => by
    obtain ⟨g, h1, h2, h3, h4⟩ := owb_get h.r.og (i := i) (b := turnF aw S off n.toNat i i) (tabB_get _ _ _ (by omega))
    obtain ⟨h5, h6⟩ := h4 true
    rw [turnF_yes _ _ _ _ _ _ hy] at h5
    refine ⟨g, _, h1, h2, h3, Lib.hid ⟨h.r.agains h5 h6, h.k.trans' h6 fun j hj => .inl (rqO_at (i := 3) (by rw [← hj]; rfl))⟩⟩)
  have HEND : Hid (∀ wr, Tg w wr base q o T L (.slice Ab S.bs.length cb) (.slice Aa S.bs.length ca) (.slice Ag S.bs.length cg) C A aw S off n.toNat S.gn →
      ((fin && S.en) = false → RsPost (.tuple #[]) base q o T L (rqO q (.slice Ab S.bs.length cb) (.slice Aa S.bs.length ca) (.slice Ag S.bs.length cg)) (lostO S off n.toNat fin) w (.returned (.tuple #[])) wr) ∧
      ((fin && S.en) = true → RsPost (.tuple #[]) base q o T L (rqO q (.slice Ab S.bs.length cb) (.slice Aa S.bs.length ca) (.slice Ag S.bs.length cg)) (lostO S off n.toNat fin) w (.returned (.tuple #[])) (wr.setCell ⟨q, o + 7, none⟩ (.bool true))) ∧ wr.cell? ⟨q, o + 7, none⟩ = some (.bool S.el) ∧ wr.frozen? ⟨q, o + 7, none⟩ = false) := Lib.hid (fun wr h => by
    have hr := h.r
    rw [turnF_end] at hr
    have hrf := Rf.lost hfc hfa hag haw off n.toNat fin
    refine ⟨fun hf0 => ?_, fun hf1 => ?_, hr.cell 7 rfl, hr.at_.frozen _⟩
    · refine ⟨rfl, L, _, ⟨_, _, _, _, _, rfl, ?_, hrf⟩, Samo.refl _ _, h.k, fun j hj => .inl hj⟩
      have e : (lostO S off n.toNat fin).el = S.el := by
        show (S.el || (fin && S.en)) = _
        rw [hf0, Bool.or_false]
      rw [e]
      exact hr
    · refine ⟨rfl, _, _, ⟨_, _, _, _, _, rfl, ?_, hrf⟩, (Samo.refl o L).set (i := 7) (by omega) (.bool true), h.k.setCell (p := ⟨q, o + 7, none⟩) (.inl (rqO_at (i := 0) rfl)) _, fun j hj => .inl hj⟩
      have e : (lostO S off n.toNat fin).el = true := by
        show (S.el || (fin && S.en)) = _
        rw [hf1, Bool.or_true]
      rw [e]
      exact hr.top 7 (.bool true) rfl (by omega))
  have HIN : Hid (∀ i, i < S.gn → inT S off n.toNat i = (decide (off ≤ i) && decide (i < off + n.toNat))) := Lib.hid (fun i hi => by unfold inT; simp [hi])
  have hgb : S.gn ≤ 1000000 := by omega
  have hgn : (S.gn : Int) ≤ (S.bs.length : Int) := by omega
  clear hr hfc hfa hag haw h hok l1 l2
  generalize S.bs.length = len at *
  obtain ⟨S', hS'⟩ : ∃ S', S' = lostO S off n.toNat fin := ⟨_, rfl⟩
  rw [← hS'] at HEND ⊢
  clear hS'
  have hwu : ∀ x : Nat, x ≤ 1000000 → IntKind.u64.wrap (x : Int) = (x : Int) := fun x hx => by rw [IntKind.wrap_u64]; omega
  have HWU := Lib.hid hwu
  clear hwu
  go_enter Tryz.func42, Tryz.ntmps42
  go_wp2
  go_loopg [10] S.gn (fun kx s10 wr => ∃ i : Nat, s10 = .int .i64 i ∧ i ≤ S.gn ∧ S.gn - i ≤ kx ∧ Hid (Tg w wr base q o T L (.slice Ab len cb) (.slice Aa len ca) (.slice Ag len cg) C A aw S off n.toNat i))
  case atStart => exact ⟨0, rfl, Nat.zero_le _, by omega, HT0⟩
  case round =>
    clear HT0
    obtain ⟨i, rfl, hig, hkx, hT⟩ := hrel
    obtain ⟨c3, c1, c5⟩ := HC.out wr i hT.out
    rcases Nat.lt_or_ge i S.gn with hi | hi
    · have hiz : (i : Int) < (S.gn : Int) := by omega
      have wi := HWU.out i (by omega)
      rcases Nat.lt_or_ge i off with h1 | h1
      · have h1z : ¬ (off : Int) ≤ (i : Int) := by omega
        have HX := Lib.hid (HNO.out wr i hT.out (by rw [HIN.out i hi]; simp; omega))
        clear hT
        go_wp2
        go_roundg (S.gn - (i + 1))
        case measure => omega
        case rel => exact ⟨i + 1, by simp, by omega, Nat.le_refl _, HX⟩
      · have h1z : (off : Int) ≤ (i : Int) := by omega
        obtain ⟨t, ht⟩ : ∃ t, t = i - off := ⟨_, rfl⟩
        have zt : (i : Int) - (off : Int) = (t : Int) := by omega
        have wt := HWU.out t (by omega)
        rcases Int.lt_or_le n 0 with h2 | h2
        · have h3 : ¬ (t : Int) < 0 := by omega
          have HX := Lib.hid (HNO.out wr i hT.out (by rw [HIN.out i hi]; simp; omega))
          clear hT ht
          go_wp2
          go_roundg (S.gn - (i + 1))
          case measure => omega
          case rel => exact ⟨i + 1, by simp, by omega, Nat.le_refl _, HX⟩
        · obtain ⟨N, hN⟩ : ∃ N, N = n.toNat := ⟨_, rfl⟩
          have hNn : n = (N : Int) := by omega
          have h2' : ¬ n < 0 := by omega
          have wN : IntKind.u64.wrap n = (N : Int) := by rw [IntKind.wrap_u64]; omega
          by_cases h3 : t < N
          · have h3z : (t : Int) < (N : Int) := by omega
            obtain ⟨g, b, e, x1, x2, HX⟩ := HYES.out wr i hT.out hi (by rw [HIN.out i hi]; simp; omega)
            have hil : (i : Int) < (len : Int) := by omega
            subst e
            clear hT ht hN hNn
            go_wp2
            go_roundg (S.gn - (i + 1))
            case measure => omega
            case rel => exact ⟨i + 1, by simp, by omega, Nat.le_refl _, HX⟩
          · have h3z : ¬ (t : Int) < (N : Int) := by omega
            have HX := Lib.hid (HNO.out wr i hT.out (by rw [HIN.out i hi]; simp; omega))
            clear hT ht hN hNn
            go_wp2
            go_roundg (S.gn - (i + 1))
            case measure => omega
            case rel => exact ⟨i + 1, by simp, by omega, Nat.le_refl _, HX⟩
    · obtain rfl : i = S.gn := by omega
      have hiz : ¬ (S.gn : Int) < (S.gn : Int) := by omega
      obtain ⟨z1, z2, z3, z4⟩ := HEND.out wr hT.out
      clear hT HEND HIN HNO HYES HC
      generalize S.en = en at *
      cases fin
      · have HZ := Lib.hid (z1 (by simp))
        clear z1 z2
        go_wp2
        go_end0
        exact HZ.out
      · cases en
        · have HZ := Lib.hid (z1 (by simp))
          clear z1 z2
          go_wp2
          go_end0
          exact HZ.out
        · have HZ := Lib.hid (z2 (by simp))
          clear z1 z2
          go_wp2
          go_end0
          exact HZ.out
end
end
end Go.Proofs.YtbejpafephofaaaGreat
