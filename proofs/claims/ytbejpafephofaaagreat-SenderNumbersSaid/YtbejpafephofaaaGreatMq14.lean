/-
  sender.Sender behind a pointer, of the call's own: what it holds (Sm); New, State, Sent, Length, Write, Finish, Reset, Limit.
-/
import Derived.Test.YtbejpafephofaaaGreatMq13
import Derived.BigQuiet
import Derived.Test.YtbejpafephofaaaGreatProg
import Derived.Test.YtbejpafephofaaaGreatMq0
import Derived.Deep.QuietTactic
import Derived.Deep.RegionHeld3
import Derived.WalkSpells
import Derived.StillTailTactics
namespace Go.Proofs.YtbejpafephofaaaGreat
section
set_option linter.unusedVariables false
set_option linter.unusedSimpArgs false
open Go.RowKit
/-- A sender's numbers. -/
structure SS where
  id : Nat
  lim : Nat
  st : Nat
  cl : Bool
  code : Nat
  due : Bool
  o : OS
def ss0 (id : Nat) : SS := ⟨id, 0, 1, false, 0, false, os0⟩
def ssL (p : Nat) (X : SS) : List Value := [.int .u64 X.id, .int .u64 X.lim, .int .i64 X.st, .bool X.cl, .pointer (some ⟨p, 0, none⟩), .int .u64 X.code, .bool X.due]
structure SS.ok (X : SS) : Prop where
  id : X.id < 18446744073709551616
  lim : X.lim < 18446744073709551616
  code : X.code < 18446744073709551616
  st : X.st = 1 ∨ X.st = 2 ∨ X.st = 3 ∨ X.st = 4 ∨ X.st = 5 ∨ X.st = 6
/-- A sender that the call made behind the world w0; F: blocks that it has nothing to do with. -/
structure Sm (w0 W : World) (q p : Nat) (X : SS) (F : Nat → Prop) : Prop where
  at_ : At W q 43 (ssL p X)
  oz : Oz w0 W p X.o (fun b => b = q ∨ F b)
  qb : w0.heap.size ≤ q
  nF : ¬ F q
  ok : X.ok
section
variable {w0 W W' : World} {q p : Nat} {X : SS} {F : Nat → Prop}
theorem Sm.bl (h : Sm w0 W q p X F) : Below w0.heap.size w0 W := h.oz.bl
theorem Sm.below (h : Sm w0 W q p X F) (k : Below W.heap.size W W') : Sm w0 W' q p X F := { h with at_ := h.at_.below k h.at_.lt, oz := h.oz.below k }
theorem Sm.drewN (h : Sm w0 W q p X F) (n : Nat) : Sm w0 (W.drewN n) q p X F := h.below (below_drewN (Below.refl _ _) n)
/-- Other blocks turn; those that it has nothing to do with are others. -/
theorem Sm.change {F' : Nat → Prop} (h : Sm w0 W q p X F) (k : Kept F W W') (hk : ∀ b, F b → w0.heap.size ≤ b) (hF : ∀ b, F' b → F b ∨ (W.heap.size ≤ b ∧ b < W'.heap.size)) : Sm w0 W' q p X F' := by
  obtain ⟨O, h1, h2⟩ := h.oz.bf
  have hq := h.at_.lt
  refine ⟨h.at_.kept k h.nF, ⟨h.oz.ok, ⟨O, h1.kept k fun b hb e => (h2 b (.inr e)).1 hb, fun b hb => ?_⟩, k.below h.oz.bl h.oz.bl.size hk⟩, h.qb, fun e => ?_, h.ok⟩
  · rcases hb with rfl | hb
    · exact ⟨(h2 b (.inl rfl)).1, Nat.lt_of_lt_of_le hq k.size⟩
    · rcases hF b hb with h' | ⟨h', h''⟩
      · exact ⟨(h2 b (.inr h')).1, Nat.lt_of_lt_of_le (h2 b (.inr h')).2 k.size⟩
      · exact ⟨fun e => by have := (h1.lt b e).2; omega, h''⟩
  · rcases hF q e with h' | ⟨h', _⟩
    · exact h.nF h'
    · omega
/-- What a call that changes it leaves. -/
def SmPost (w0 W : World) (q p : Nat) (X' : SS) (F : Nat → Prop) (r : Value) (e : Ending) (W' : World) : Prop := e = .returned r ∧ Sm w0 W' q p X' F ∧ (∀ b, F b → W'.heap[b]? = W.heap[b]?) ∧ W.heap.size ≤ W'.heap.size
/-- Its own block is turned alone. -/
theorem Sm.top (h : Sm w0 W q p X F) {X' : SS} (k : Kept (· = q) W W') (hA : At W' q 43 (ssL p X')) (ho : X'.o = X.o) (hok : X'.ok) : Sm w0 W' q p X' F ∧ (∀ b, F b → W'.heap[b]? = W.heap[b]?) ∧ W.heap.size ≤ W'.heap.size := by
  obtain ⟨O, h1, h2⟩ := h.oz.bf
  exact ⟨⟨hA, by rw [ho]; exact h.oz.other (.inl rfl) h.qb k, h.qb, h.nF, hok⟩, fun b hb => k.block b (h2 b (.inr hb)).2 fun e => h.nF (by rw [← e]; exact hb), k.size⟩
/-- What a call of its buffer leaves. -/
theorem Sm.buf (h : Sm w0 W q p X F) {S' : OS} {r : Value} {e : Ending} (hP : OzPost w0 W p S' (fun b => b = q ∨ F b) r e W') : e = .returned r ∧ Sm w0 W' q p { X with o := S' } F ∧ (∀ b, F b → W'.heap[b]? = W.heap[b]?) ∧ W.heap.size ≤ W'.heap.size :=
  ⟨hP.1, ⟨(hP.2.2.1 q (.inl rfl)).trans h.at_, hP.2.1, h.qb, h.nF, ⟨h.ok.id, h.ok.lim, h.ok.code, h.ok.st⟩⟩, fun b hb => hP.2.2.1 b (.inr hb), hP.2.2.2⟩
theorem Sm.c0 (h : Sm w0 W q p X F) : W.cell? ⟨q, 0, none⟩ = some (.int .u64 X.id) := by rw [h.at_.cell]; rfl
theorem Sm.c1 (h : Sm w0 W q p X F) : W.cell? ⟨q, 1, none⟩ = some (.int .u64 X.lim) := by rw [h.at_.cell]; rfl
theorem Sm.c2 (h : Sm w0 W q p X F) : W.cell? ⟨q, 2, none⟩ = some (.int .i64 X.st) := by rw [h.at_.cell]; rfl
theorem Sm.c3 (h : Sm w0 W q p X F) : W.cell? ⟨q, 3, none⟩ = some (.bool X.cl) := by rw [h.at_.cell]; rfl
theorem Sm.c4 (h : Sm w0 W q p X F) : W.cell? ⟨q, 4, none⟩ = some (.pointer (some ⟨p, 0, none⟩)) := by rw [h.at_.cell]; rfl
theorem Sm.c5 (h : Sm w0 W q p X F) : W.cell? ⟨q, 5, none⟩ = some (.int .u64 X.code) := by rw [h.at_.cell]; rfl
theorem Sm.c6 (h : Sm w0 W q p X F) : W.cell? ⟨q, 6, none⟩ = some (.bool X.due) := by rw [h.at_.cell]; rfl
end
set_option maxRecDepth 100000 in
theorem sm_new (id : Nat) (hid : id < 18446744073709551616) (w0 : World) : Calls Tryz.prog 4 #[.int .u64 id] w0 fun e w' => ∃ q p, e = .returned (.pointer (some ⟨q, 0, none⟩)) ∧ Sm w0 w' q p (ss0 id) (fun _ => False) := by
  have HN := Lib.hid (oz_new w0)
  have HF : Hid (∀ w1 p, Oz w0 w1 p os0 (fun _ => False) → Sm w0 (w1.alloc (.cells (ssL p (ss0 id)).toArray 43)) w1.heap.size p (ss0 id) (fun _ => False)) := Lib.hid (fun w1 p h =>
    ⟨At.new w1 _ _, h.fresh ((Below.refl _ _).alloc (Nat.le_refl _) _) fun b hb => by
      rcases hb with rfl | hb
      · exact .inr ⟨Nat.le_refl _, by simp⟩
      · exact hb.elim, h.bl.size, fun e => e, ⟨hid, (by show 0 < _; omega), (by show 0 < _; omega), .inl rfl⟩⟩)
  clear hid
  unfold ssL at HF
  go_enter Tryz.func4, Tryz.ntmps4
  go_wp2_with (go_at_call 8; (with_reducible refine HN.out.mono ?_); rintro e w1 ⟨p, rfl, hO1⟩; have H1 := Lib.hid (HF.out w1 p hO1); clear hO1)
  go_ret
  exact ⟨_, _, rfl, H1.out⟩
section
variable {w0 W : World} {q p : Nat} {X : SS} {F : Nat → Prop}
theorem sm_state (h : Sm w0 W q p X F) : Calls Tryz.prog 26 #[.pointer (some ⟨q, 0, none⟩)] W fun e w' => e = .returned (.int .i64 X.st) ∧ w' = W := by
  have h2 := h.c2
  clear h
  go_enter Tryz.func26, Tryz.ntmps26
  go_wp2
  go_ret
  exact ⟨rfl, rfl⟩
theorem sm_sent (h : Sm w0 W q p X F) : Calls Tryz.prog 27 #[.pointer (some ⟨q, 0, none⟩)] W fun e w' => e = .returned (.int .u64 X.o.gn) ∧ w' = W := by
  have h4 := h.c4
  have HS := Lib.hid (oz_sent h.oz)
  clear h
  go_enter Tryz.func27, Tryz.ntmps27
  go_wp2_with (go_at_call 49; (with_reducible refine HS.out.mono ?_); rintro e w1 ⟨rfl, hw⟩; rw [hw]; clear hw)
  go_ret
  exact ⟨rfl, rfl⟩
set_option maxRecDepth 100000 in
theorem sm_write_closed (h : Sm w0 W q p X F) (hcl : X.cl = true) (A : Option Addr) (n c : Nat) : Calls Tryz.prog 10 #[.pointer (some ⟨q, 0, none⟩), .slice A n c] W fun e w' => e = .returned (.tuple #[.int .i64 0, .int .i64 24]) ∧ w' = W := by
  have h3 := h.c3
  rw [hcl] at h3
  clear h hcl
  go_enter Tryz.func10, Tryz.ntmps10
  go_wp2
  go_ret2
  exact ⟨rfl, rfl⟩
set_option maxRecDepth 100000 in
theorem sm_write_full (h : Sm w0 W q p X F) (hcl : X.cl = false) (A : Option Addr) (n c : Nat) (hn : 0 < n) (hr : roomO X.o = 0) : Calls Tryz.prog 10 #[.pointer (some ⟨q, 0, none⟩), .slice A n c] W fun e w' => e = .returned (.tuple #[.int .i64 0, .int .i64 26]) ∧ w' = W := by
  have h3 := h.c3
  have h4 := h.c4
  rw [hcl] at h3
  have HR := Lib.hid (oz_room h.oz)
  rw [hr] at HR
  clear h hcl hr
  have hz : (0 : Int) < (n : Int) := by omega
  go_enter Tryz.func10, Tryz.ntmps10
  go_wp2_with (go_at_call 29; (with_reducible refine HR.out.mono ?_); rintro e w1 ⟨rfl, hw⟩; rw [hw]; clear hw)
  go_ret2
  exact ⟨rfl, rfl⟩
set_option maxRecDepth 100000 in
theorem sm_write (h : Sm w0 W q p X F) (hcl : X.cl = false) (A : Option Addr) (n c : Nat) (bs : List Int) (hr : Rd W W.heap.size A n bs) (hnc : n ≤ c) (hn : n < 9223372036854775808) (hc : c < 9223372036854775808) (hR : n = 0 ∨ 0 < roomO X.o) :
    Calls Tryz.prog 10 #[.pointer (some ⟨q, 0, none⟩), .slice A n c] W (SmPost w0 W q p { X with o := writeO X.o bs } F (.tuple #[.int .i64 (writeN X.o n), .int .i64 0])) := by
  have h3 := h.c3
  have h4 := h.c4
  rw [hcl] at h3
  have HR := Lib.hid (oz_room h.oz)
  have HW := Lib.hid (oz_write h.oz A n c bs hr hnc hn hc)
  have HB := Lib.hid (fun (S' : OS) (r : Value) (e : Ending) (W' : World) (hP : OzPost w0 W p S' (fun b => b = q ∨ F b) r e W') => h.buf hP)
  clear hr hcl
  obtain ⟨R, hRR⟩ : ∃ R, R = roomO X.o := ⟨_, rfl⟩
  rw [← hRR] at HR hR
  clear hRR h
  by_cases hz : n = 0
  · have hz' : ¬ (0 : Int) < (n : Int) := by omega
    clear hR hz
    go_enter Tryz.func10, Tryz.ntmps10
    go_wp2_with (go_at_call 30; (with_reducible refine HW.out.mono ?_); intro e w1 hP; obtain ⟨he, hP'⟩ := HB.out _ _ _ _ hP; subst he; have HP := Lib.hid hP'; clear hP hP')
    go_ret2
    exact ⟨rfl, HP.out⟩
  · have hz' : (0 : Int) < (n : Int) := by omega
    have hR' : ¬ (R : Int) = 0 := by omega
    have hRb : ((R : Int) == 0) = false := by simpa using hR'
    clear hR hz
    go_enter Tryz.func10, Tryz.ntmps10
    go_wp2_with (first
      | (go_at_call 29; (with_reducible refine HR.out.mono ?_); rintro e w1 ⟨rfl, hw⟩; rw [hw]; clear hw)
      | (go_at_call 30; (with_reducible refine HW.out.mono ?_); intro e w1 hP; obtain ⟨he, hP'⟩ := HB.out _ _ _ _ hP; subst he; have HP := Lib.hid hP'; clear hP hP'))
    go_ret2
    exact ⟨rfl, HP.out⟩
theorem sm_finish_closed (h : Sm w0 W q p X F) (hcl : X.cl = true) : Calls Tryz.prog 12 #[.pointer (some ⟨q, 0, none⟩)] W fun e w' => e = .returned (.int .i64 24) ∧ w' = W := by
  have h3 := h.c3
  rw [hcl] at h3
  clear h hcl
  go_enter Tryz.func12, Tryz.ntmps12
  go_wp2
  go_ret
  exact ⟨rfl, rfl⟩
theorem sm_finish (h : Sm w0 W q p X F) (hcl : X.cl = false) : Calls Tryz.prog 12 #[.pointer (some ⟨q, 0, none⟩)] W (SmPost w0 W q p { X with cl := true, o := finO X.o } F (.int .i64 0)) := by
  have h3 := h.c3
  rw [hcl] at h3
  obtain ⟨h1, g1, s1⟩ := h.top (X' := { X with cl := true }) ((Kept.refl _ W).setAt 3 (.bool true)) (h.at_.set 3 (.bool true)) rfl ⟨h.ok.id, h.ok.lim, h.ok.code, h.ok.st⟩
  have f3 := h.at_.frozen 3
  have h4 := h1.c4
  have HW := Lib.hid (oz_finish h1.oz)
  have HB := Lib.hid (fun (S' : OS) (r : Value) (e : Ending) (W' : World) (hP : OzPost w0 (W.setCell ⟨q, 3, none⟩ (.bool true)) p S' (fun b => b = q ∨ F b) r e W') => h1.buf hP)
  have HG := Lib.hid g1
  have HS := Lib.hid s1
  clear h hcl h1 g1 s1
  go_enter Tryz.func12, Tryz.ntmps12
  go_wp2_with (go_at_call 33; (with_reducible refine HW.out.mono ?_); intro e w1 hP; obtain ⟨he, hP'⟩ := HB.out _ _ _ _ hP; subst he; have HP := Lib.hid hP'; clear hP hP')
  go_ret
  exact ⟨rfl, HP.out.1, fun b hb => (HP.out.2.1 b hb).trans (HG.out b hb), Nat.le_trans HS.out HP.out.2.2⟩
theorem sm_reset_no (h : Sm w0 W q p X F) (hst : 4 ≤ X.st) (code : Nat) : Calls Tryz.prog 14 #[.pointer (some ⟨q, 0, none⟩), .int .u64 code] W fun e w' => e = .returned (.int .i64 24) ∧ w' = W := by
  have h2 := h.c2
  have hk : X.st = 4 ∨ X.st = 5 ∨ X.st = 6 := by have := h.ok.st; omega
  clear h hst
  rcases hk with hk | hk | hk
  all_goals
    rw [hk] at h2
    clear hk
    go_enter Tryz.func14, Tryz.ntmps14
    go_wp2
    go_ret
    exact ⟨rfl, rfl⟩
theorem sm_reset_arg (h : Sm w0 W q p X F) (hst : X.st ≤ 3) (code : Nat) (hc : 4611686018427387903 < code) : Calls Tryz.prog 14 #[.pointer (some ⟨q, 0, none⟩), .int .u64 code] W fun e w' => e = .returned (.int .i64 1) ∧ w' = W := by
  have h2 := h.c2
  have hk : X.st = 1 ∨ X.st = 2 ∨ X.st = 3 := by have := h.ok.st; omega
  have hz : (4611686018427387903 : Int) < (code : Int) := by omega
  clear h hst hc
  rcases hk with hk | hk | hk
  all_goals
    rw [hk] at h2
    clear hk
    go_enter Tryz.func14, Tryz.ntmps14
    go_wp2
    go_ret
    exact ⟨rfl, rfl⟩
set_option maxHeartbeats 1000000 in
theorem sm_reset (h : Sm w0 W q p X F) (hst : X.st ≤ 3) (code : Nat) (hc : code ≤ 4611686018427387903) : Calls Tryz.prog 14 #[.pointer (some ⟨q, 0, none⟩), .int .u64 code] W (SmPost w0 W q p { X with st := 5, cl := true, code := code, due := true } F (.int .i64 0)) := by
  have h2 := h.c2
  have hk : X.st = 1 ∨ X.st = 2 ∨ X.st = 3 := by have := h.ok.st; omega
  have hz : ¬ (4611686018427387903 : Int) < (code : Int) := by omega
  have f2 := fun j => h.at_.frozen j
  have HT := Lib.hid (h.top (X' := { X with st := 5, cl := true, code := code, due := true }) (((((Kept.refl _ W).setAt 2 (.int .i64 5)).setAt 3 (.bool true)).setAt 5 (.int .u64 code)).setAt 6 (.bool true)) ((((h.at_.set 2 (.int .i64 5)).set 3 (.bool true)).set 5 (.int .u64 code)).set 6 (.bool true)) rfl ⟨h.ok.id, h.ok.lim, by show code < _; omega, .inr (.inr (.inr (.inr (.inl rfl))))⟩)
  have h3 := h.c3
  have h5 := h.c5
  have h6 := h.c6
  clear h hst hc
  rcases hk with hk | hk | hk
  all_goals
    rw [hk] at h2
    clear hk
    go_enter Tryz.func14, Tryz.ntmps14
    go_wp2
    go_ret
    exact ⟨rfl, HT.out⟩
theorem sm_limit (h : Sm w0 W q p X F) (n : Nat) (hn : n < 18446744073709551616) : Calls Tryz.prog 16 #[.pointer (some ⟨q, 0, none⟩), .int .u64 n] W (SmPost w0 W q p { X with lim := max X.lim n } F (.tuple #[])) := by
  have h1 := h.c1
  have f1 := h.at_.frozen 1
  have HT := fun v hv => (h.top (X' := { X with lim := v }) ((Kept.refl _ W).setAt 1 (.int .u64 v)) (h.at_.set 1 (.int .u64 v)) rfl ⟨h.ok.id, hv, h.ok.code, h.ok.st⟩)
  have hl := h.ok.lim
  clear h
  rcases Nat.lt_or_ge X.lim n with hlt | hge
  · have HT := Lib.hid (HT n hn)
    rw [Nat.max_eq_right (by omega)]
    have hz : (X.lim : Int) < (n : Int) := by omega
    have hz2 : (X.lim : Int) ≤ (n : Int) := by omega
    clear hlt
    go_enter Tryz.func16, Tryz.ntmps16
    go_wp2
    go_end0
    exact ⟨rfl, HT.out⟩
  · have HT := Lib.hid (HT X.lim hl)
    rw [Nat.max_eq_left (by omega)]
    have hz : ¬ (X.lim : Int) < (n : Int) := by omega
    clear hge
    go_enter Tryz.func16, Tryz.ntmps16
    go_wp2
    go_end0
    exact ⟨rfl, HT.out⟩
end
end
section
set_option linter.unusedVariables false
open Go.RowKit
/-- A frame's numbers. -/
structure FN where
  k : Int
  s : Int
  o : Int
  fin : Bool
  l : Int
  c : Int
  f : Int
  q : Int
  y : Int
  c0 : Int
  c1 : Int
  c2 : Int
  c3 : Int
  c4 : Int
  c5 : Int
  c6 : Int
  c7 : Int
def frL (m : FN) (d r : Sl) : List Value := [.int .i64 m.k, .int .u64 m.s, .int .u64 m.o, .slice d.A d.n d.c, .bool m.fin, .int .u64 m.l, .int .u64 m.c, .int .u64 m.f, .int .u64 m.q, .int .u64 m.y, .slice r.A r.n r.c,
  .int .u8 m.c0, .int .u8 m.c1, .int .u8 m.c2, .int .u8 m.c3, .int .u8 m.c4, .int .u8 m.c5, .int .u8 m.c6, .int .u8 m.c7]
def frV (m : FN) (d r : Sl) : Value := .agg (frL m d r).toArray
def FN.zero (k : Int) : FN := ⟨k, 0, 0, false, 0, 0, 0, 0, 0, 0, 0, 0, 0, 0, 0, 0, 0⟩
def askN (m : FN) : FN :=
  if m.k = 2 then { FN.zero 2 with y := m.y }
  else if m.k = 4 then { FN.zero 4 with s := m.s, c := m.c, f := m.f }
  else if m.k = 5 then { FN.zero 5 with s := m.s, c := m.c }
  else if m.k = 6 then { FN.zero 6 with o := m.o }
  else if m.k = 8 then { FN.zero 8 with s := m.s, o := m.o, fin := m.fin }
  else if m.k = 16 then { FN.zero 16 with l := m.l }
  else if m.k = 18 then { FN.zero 18 with l := m.l }
  else if m.k = 20 then { FN.zero 20 with l := m.l }
  else if m.k = 17 then { FN.zero 17 with s := m.s, l := m.l }
  else if m.k = 24 then { m with s := 0, o := 0, fin := false, c := 0, f := 0, y := 0 }
  else if m.k = 25 then { FN.zero 25 with q := m.q }
  else if m.k = 26 then { m with s := 0, o := 0, fin := false, l := 0, c := 0, f := 0, q := 0, y := 0 }
  else if m.k = 27 then { m with s := 0, o := 0, fin := false, l := 0, c := 0, f := 0, q := 0, y := 0 }
  else if m.k = 28 then { FN.zero 28 with c := m.c }
  else FN.zero m.k
def knownB (k : Int) : Bool := k == 0 || k == 1 || k == 30 || k == 2 || k == 4 || k == 5 || k == 6 || k == 8 || k == 16 || k == 18 || k == 20 || k == 17 || k == 24 || k == 25 || k == 26 || k == 27 || k == 28
/-- Does the Kind ask Data, does it ask Ranges? -/
def askD (k : Int) (d : Sl) : Sl := if k = 6 ∨ k = 8 ∨ k = 28 then d else .nil
def askR (k : Int) (r : Sl) : Sl := if k = 2 then r else .nil
theorem frL_len (m : FN) (d r : Sl) : (frL m d r).length = 19 := rfl
section
variable {ops : Array Oper} {rest : List Oper} {a : Act} {w : World} {Q : Exit → Act → World → Prop} {dst : Option Tmp} {x y : Operand} {t : TypeId} {pos : String} {after : Array Edge}
theorem ld_fr (p : Nat) (l : List Value) (hx : a.eval x = .pointer (some ⟨p, 0, none⟩)) (hA : At w p 51 l) (hl : l.length = 19)
    (h : wpList Tryz.prog ops Q rest (a.put dst (.agg l.toArray)) w) : wpList Tryz.prog ops Q (⟨dst, .load 51 x, t, pos, after, none⟩ :: rest) a w :=
  wpList_load_at p _ l _ hx hA Tryz.underlying51 rfl (by rw [hl]; kernel_rfl) h
theorem st_top (w0 : World) (l l' : List Value) (hw : w = w0.alloc (.cells l.toArray 51)) (g : Nat) (hx : a.eval x = .pointer (some ⟨g, 0, none⟩)) (hg : g = w0.heap.size) (hy : a.eval y = .agg l'.toArray) (hl : l.length = 19) (hl' : l'.length = 19)
    (h1 : l'.all (·.oneCell') = true) (h : wpList Tryz.prog ops Q rest (a.put dst undef) (w0.alloc (.cells l'.toArray 51))) :
    wpList Tryz.prog ops Q (⟨dst, .store 51 x y, t, pos, after, none⟩ :: rest) a w :=
  wpList_store_top w0 _ l l' hw g hx hg hy (hl.trans hl'.symm) (by rw [hl']; kernel_rfl) h1 h
theorem st_at (p : Nat) (l l' : List Value) (hx : a.eval x = .pointer (some ⟨p, 0, none⟩)) (hy : a.eval y = .agg l'.toArray) (hA : At w p 51 l) (hl : l.length = 19) (hl' : l'.length = 19)
    (h1 : l'.all (·.oneCell') = true) (h : ∀ w', At w' p 51 l' → Kept (· = p) w w' → wpList Tryz.prog ops Q rest (a.put dst undef) w') :
    wpList Tryz.prog ops Q (⟨dst, .store 51 x y, t, pos, after, none⟩ :: rest) a w :=
  wpList_store_at p _ l l' hx hy hA (hl.trans hl'.symm) (by rw [hl']; kernel_rfl) h1 h
theorem at_ld {g : Option (Nat × Bool)} (h : wpList Tryz.prog ops Q (⟨dst, .load 51 x, t, pos, after, g⟩ :: rest) a w) : wpList Tryz.prog ops Q (⟨dst, .load 51 x, t, pos, after, g⟩ :: rest) a w := h
theorem at_st {g : Option (Nat × Bool)} (h : wpList Tryz.prog ops Q (⟨dst, .store 51 x y, t, pos, after, g⟩ :: rest) a w) : wpList Tryz.prog ops Q (⟨dst, .store 51 x y, t, pos, after, g⟩ :: rest) a w := h
end
end
section
set_option linter.unusedVariables false
set_option linter.unusedSimpArgs false
open Go.RowKit
theorem fr_box (W : World) (m : FN) (d r : Sl) : ∃ (L : List Value) (W1 : World), frV m d r = .agg L.toArray ∧ W.alloc (.cells L.toArray 51) = W1 ∧ Below W.heap.size W W1 ∧
    W1.cell? ⟨W.heap.size, 0, none⟩ = some (.int .i64 m.k) ∧ W1.cell? ⟨W.heap.size, 1, none⟩ = some (.int .u64 m.s) ∧ W1.cell? ⟨W.heap.size, 2, none⟩ = some (.int .u64 m.o) ∧ W1.cell? ⟨W.heap.size, 3, none⟩ = some (.slice d.A d.n d.c) ∧ W1.cell? ⟨W.heap.size, 4, none⟩ = some (.bool m.fin) := by
  have hA := At.new W 51 (frL m d r)
  exact ⟨frL m d r, _, rfl, rfl, (Below.refl _ _).alloc (Nat.le_refl _) _, by rw [hA.cell]; rfl, by rw [hA.cell]; rfl, by rw [hA.cell]; rfl, by rw [hA.cell]; rfl, by rw [hA.cell]; rfl⟩
section
variable {w0 W W1 W' : World} {q p : Nat} {X X' : SS} {F : Nat → Prop}
theorem Sm.Flt (h : Sm w0 W q p X F) : ∀ b, F b → b < W.heap.size := by
  obtain ⟨O, h1, h2⟩ := h.oz.bf
  exact fun b hb => (h2 b (.inr hb)).2
theorem Sm.after (h : Sm w0 W q p X F) (k : Below W.heap.size W W1) {r : Value} {e : Ending} (hP : SmPost w0 W1 q p X' F r e W') : SmPost w0 W q p X' F r e W' :=
  ⟨hP.1, hP.2.1, fun b hb => (hP.2.2.1 b hb).trans (k.block b (h.Flt b hb)), Nat.le_trans k.size hP.2.2.2⟩
theorem Sm.same (h : Sm w0 W q p X F) (k : Below W.heap.size W W') (r : Value) : SmPost w0 W q p X F r (.returned r) W' := ⟨rfl, h.below k, fun b hb => k.block b (h.Flt b hb), k.size⟩
def lostX (X : SS) (off n : Nat) (fin : Bool) : SS := { X with o := lostO X.o off n fin }
def ackX (X : SS) (off n : Nat) (fin : Bool) : SS := { X with o := ackO X.o off n fin, st := if X.st = 3 ∧ wholeO (ackO X.o off n fin) = true then 4 else X.st }
set_option maxRecDepth 100000 in
set_option maxHeartbeats 2000000 in
theorem sm_lost_other (h : Sm w0 W q p X F) (m : FN) (d r : Sl) (hk : m.s ≠ X.id ∨ (m.k ≠ 8 ∧ m.k ≠ 4)) : Calls Tryz.prog 20 #[.pointer (some ⟨q, 0, none⟩), frV m d r] W (SmPost w0 W q p X F (.tuple #[])) := by
  obtain ⟨L, W1, hfv, hW1, hB, d0, d1, d2, d3, d4⟩ := fr_box W m d r
  have c0 := (h.below hB).c0
  have HS := Lib.hid (fun W' (k : Below W.heap.size W W') => h.same k (.tuple #[]))
  have HB := Lib.hid hB
  rw [hfv]
  clear hB hfv h d2 d3 d4
  cases hne : (m.s != (X.id : Int)) with
  | true =>
    clear hk
    have heq : (m.s == (X.id : Int)) = false := by simpa using hne
    go_enter Tryz.func20, Tryz.ntmps20
    go_wp2
    go_quiet (fail)
    go_wp2
    go_end0
    exact HS.out _ (below_drewN HB.out _)
  | false =>
    have heq : (m.s == (X.id : Int)) = true := by simpa using hne
    have hid : m.s = (X.id : Int) := by simpa using hne
    have hb8 : (m.k == 8) = false := by simp; omega
    have hb4 : (m.k == 4) = false := by simp; omega
    rw [hid] at d1
    clear hk hid hne heq
    go_enter Tryz.func20, Tryz.ntmps20
    go_wp2
    go_quiet (fail)
    go_wp2
    go_end0
    exact HS.out _ (below_drewN HB.out _)
set_option maxRecDepth 100000 in
set_option maxHeartbeats 2000000 in
theorem sm_lost (h : Sm w0 W q p X F) (hL : X.o.bs.length ≤ 1099511627776) (m : FN) (d r : Sl) (hk : m.k = 8) (hs : m.s = X.id) (off : Nat) (ho : m.o = off) (hob : off < 18446744073709551616) (hdn : d.n < 9223372036854775808) :
    Calls Tryz.prog 20 #[.pointer (some ⟨q, 0, none⟩), frV m d r] W (SmPost w0 W q p (lostX X off d.n m.fin) F (.tuple #[])) := by
  obtain ⟨L, W1, hfv, hW1, hB, d0, d1, d2, d3, d4⟩ := fr_box W m d r
  rw [hk] at d0
  rw [hs] at d1
  rw [ho] at d2
  generalize m.fin = fi at *
  obtain ⟨dA, dn, dc⟩ := d
  simp only at d3 hdn ⊢
  have h1 := h.below hB
  have c0 := h1.c0
  have c4 := h1.c4
  have HC := Lib.hid (fun (W2 : World) (h2 : Sm w0 W2 q p X F) => (oz_lost h2.oz hL off hob dn (by omega) fi).mono fun e w' hP => h2.buf hP)
  have HA := Lib.hid (fun (W2 : World) (k2 : Below W.heap.size W W2) (X' : SS) (r : Value) (e : Ending) (W' : World) (hP : SmPost w0 W2 q p X' F r e W') => h.after k2 hP)
  have HB := Lib.hid hB
  have H1 := Lib.hid h1
  rw [hfv]
  clear hfv h h1 hB ho hs hk
  go_enter Tryz.func20, Tryz.ntmps20
  go_wp2
  go_quiet (fail)
  have h2 := Lib.hid (And.intro (H1.out.drewN nq) (below_drewN HB.out nq))
  have e0 : (W1.drewN nq).cell? ⟨W.heap.size, 0, none⟩ = _ := d0
  have e2 : (W1.drewN nq).cell? ⟨W.heap.size, 2, none⟩ = _ := d2
  have e3 : (W1.drewN nq).cell? ⟨W.heap.size, 3, none⟩ = _ := d3
  have e4 : (W1.drewN nq).cell? ⟨W.heap.size, 4, none⟩ = _ := d4
  have e5 : (W1.drewN nq).cell? ⟨q, 4, none⟩ = _ := c4
  generalize W1.drewN nq = W2 at h2 e0 e2 e3 e4 e5 ⊢
  clear d0 d1 d2 d3 d4 c0 c4 H1 HB hW1
  go_wp2
  go_still_tail 11, (by kernel_rfl)
  change wpList _ _ _ _ _ (World.drew W2)
  have h3 := Lib.hid (And.intro (h2.out.1.drewN 1) (below_drewN h2.out.2 1))
  have HC3 := Lib.hid (HC.out (W2.drewN 1) h3.out.1)
  change wpList _ _ _ _ _ (World.drewN W2 1)
  generalize W2.drewN 1 = W3 at h3 HC3 ⊢
  go_wp2_with (go_at_call 41; (with_reducible refine HC3.out.mono ?_); intro e w4 hP; have HP := Lib.hid hP; obtain ⟨he, _⟩ := hP; subst he)
  go_end0
  exact HA.out W3 h3.out.2 _ _ _ _ ⟨rfl, HP.out.2⟩
set_option maxRecDepth 100000 in
set_option maxHeartbeats 2000000 in
theorem sm_lost_reset_no (h : Sm w0 W q p X F) (m : FN) (d r : Sl) (hk : m.k = 4) (hs : m.s = X.id) (hst : X.st ≠ 5) :
    Calls Tryz.prog 20 #[.pointer (some ⟨q, 0, none⟩), frV m d r] W (SmPost w0 W q p X F (.tuple #[])) := by
  obtain ⟨L, W1, hfv, hW1, hB, d0, d1, d2, d3, d4⟩ := fr_box W m d r
  rw [hk] at d0
  rw [hs] at d1
  have h1 := h.below hB
  have c0 := h1.c0
  have c2 := h1.c2
  have HA := Lib.hid (fun (W2 : World) (k2 : Below W.heap.size W W2) (X' : SS) (r : Value) (e : Ending) (W' : World) (hP : SmPost w0 W2 q p X' F r e W') => h.after k2 hP)
  have HB := Lib.hid hB
  have H1 := Lib.hid h1
  rw [hfv]
  clear hfv h h1 hB hs hk d2 d3 d4
  have hs5 : ((X.st : Int) == 5) = false := by simp; omega
  clear hst
  go_enter Tryz.func20, Tryz.ntmps20
  go_wp2
  go_quiet (fail)
  have h2 := Lib.hid (And.intro (H1.out.drewN nq) (below_drewN HB.out nq))
  have e0 : (W1.drewN nq).cell? ⟨W.heap.size, 0, none⟩ = _ := d0
  have e2 : (W1.drewN nq).cell? ⟨q, 2, none⟩ = _ := c2
  generalize W1.drewN nq = W2 at h2 e0 e2 ⊢
  clear d0 d1 c0 c2 H1 HB hW1
  go_wp2
  go_end0
  exact HA.out W2 h2.out.2 _ _ _ _ ⟨rfl, h2.out.1, fun _ _ => rfl, Nat.le_refl _⟩
set_option maxRecDepth 100000 in
set_option maxHeartbeats 2000000 in
theorem sm_lost_reset (h : Sm w0 W q p X F) (m : FN) (d r : Sl) (hk : m.k = 4) (hs : m.s = X.id) (hst : X.st = 5) :
    Calls Tryz.prog 20 #[.pointer (some ⟨q, 0, none⟩), frV m d r] W (SmPost w0 W q p { X with due := true } F (.tuple #[])) := by
  obtain ⟨L, W1, hfv, hW1, hB, d0, d1, d2, d3, d4⟩ := fr_box W m d r
  rw [hk] at d0
  rw [hs] at d1
  have h1 := h.below hB
  have c0 := h1.c0
  have c2 := h1.c2
  have HA := Lib.hid (fun (W2 : World) (k2 : Below W.heap.size W W2) (X' : SS) (r : Value) (e : Ending) (W' : World) (hP : SmPost w0 W2 q p X' F r e W') => h.after k2 hP)
  have HB := Lib.hid hB
  have H1 := Lib.hid h1
  rw [hfv]
  clear hfv h h1 hB hs hk d2 d3 d4
  have HT := Lib.hid (fun (W2 : World) (h2 : Sm w0 W2 q p X F) => h2.top (X' := { X with due := true }) ((Kept.refl _ W2).setAt 6 (.bool true)) (h2.at_.set 6 (.bool true)) rfl ⟨h2.ok.id, h2.ok.lim, h2.ok.code, h2.ok.st⟩)
  rw [hst] at c2
  clear hst
  go_enter Tryz.func20, Tryz.ntmps20
  go_wp2
  go_quiet (fail)
  have h2 := Lib.hid (And.intro (H1.out.drewN nq) (below_drewN HB.out nq))
  have e0 : (W1.drewN nq).cell? ⟨W.heap.size, 0, none⟩ = _ := d0
  have e2 : (W1.drewN nq).cell? ⟨q, 2, none⟩ = _ := c2
  have f2 := h2.out.1.at_.frozen 6
  have e6 := h2.out.1.c6
  generalize W1.drewN nq = W2 at h2 e0 e2 f2 e6 ⊢
  clear d0 d1 c0 c2 H1 HB hW1
  go_wp2
  go_end0
  exact HA.out W2 h2.out.2 _ _ _ _ ⟨rfl, HT.out W2 h2.out.1⟩
set_option maxRecDepth 100000 in
set_option maxHeartbeats 2000000 in
theorem sm_acked_reset_no (h : Sm w0 W q p X F) (m : FN) (d r : Sl) (hk : m.k = 4) (hs : m.s = X.id) (hst : X.st ≠ 5) :
    Calls Tryz.prog 19 #[.pointer (some ⟨q, 0, none⟩), frV m d r] W (SmPost w0 W q p X F (.tuple #[])) := by
  obtain ⟨L, W1, hfv, hW1, hB, d0, d1, d2, d3, d4⟩ := fr_box W m d r
  rw [hk] at d0
  rw [hs] at d1
  have h1 := h.below hB
  have c0 := h1.c0
  have c2 := h1.c2
  have HA := Lib.hid (fun (W2 : World) (k2 : Below W.heap.size W W2) (X' : SS) (r : Value) (e : Ending) (W' : World) (hP : SmPost w0 W2 q p X' F r e W') => h.after k2 hP)
  have HB := Lib.hid hB
  have H1 := Lib.hid h1
  rw [hfv]
  clear hfv h h1 hB hs hk d2 d3 d4
  have hs5 : ((X.st : Int) == 5) = false := by simp; omega
  clear hst
  go_enter Tryz.func19, Tryz.ntmps19
  go_wp2
  go_quiet (fail)
  have h2 := Lib.hid (And.intro (H1.out.drewN nq) (below_drewN HB.out nq))
  have e0 : (W1.drewN nq).cell? ⟨W.heap.size, 0, none⟩ = _ := d0
  have e2 : (W1.drewN nq).cell? ⟨q, 2, none⟩ = _ := c2
  generalize W1.drewN nq = W2 at h2 e0 e2 ⊢
  clear d0 d1 c0 c2 H1 HB hW1
  go_wp2
  go_end0
  exact HA.out W2 h2.out.2 _ _ _ _ ⟨rfl, h2.out.1, fun _ _ => rfl, Nat.le_refl _⟩
set_option maxRecDepth 100000 in
set_option maxHeartbeats 2000000 in
theorem sm_acked_reset (h : Sm w0 W q p X F) (m : FN) (d r : Sl) (hk : m.k = 4) (hs : m.s = X.id) (hst : X.st = 5) :
    Calls Tryz.prog 19 #[.pointer (some ⟨q, 0, none⟩), frV m d r] W (SmPost w0 W q p { X with st := 6 } F (.tuple #[])) := by
  obtain ⟨L, W1, hfv, hW1, hB, d0, d1, d2, d3, d4⟩ := fr_box W m d r
  rw [hk] at d0
  rw [hs] at d1
  have h1 := h.below hB
  have c0 := h1.c0
  have c2 := h1.c2
  have HA := Lib.hid (fun (W2 : World) (k2 : Below W.heap.size W W2) (X' : SS) (r : Value) (e : Ending) (W' : World) (hP : SmPost w0 W2 q p X' F r e W') => h.after k2 hP)
  have HB := Lib.hid hB
  have H1 := Lib.hid h1
  rw [hfv]
  clear hfv h h1 hB hs hk d2 d3 d4
  have HT := Lib.hid (fun (W2 : World) (h2 : Sm w0 W2 q p X F) => h2.top (X' := { X with st := 6 }) ((Kept.refl _ W2).setAt 2 (.int .i64 6)) (h2.at_.set 2 (.int .i64 6)) rfl ⟨h2.ok.id, h2.ok.lim, h2.ok.code, .inr (.inr (.inr (.inr (.inr rfl))))⟩)
  rw [hst] at c2
  clear hst
  go_enter Tryz.func19, Tryz.ntmps19
  go_wp2
  go_quiet (fail)
  have h2 := Lib.hid (And.intro (H1.out.drewN nq) (below_drewN HB.out nq))
  have e0 : (W1.drewN nq).cell? ⟨W.heap.size, 0, none⟩ = _ := d0
  have e2 : (W1.drewN nq).cell? ⟨q, 2, none⟩ = _ := c2
  have f2 := h2.out.1.at_.frozen 2
  have e6 := h2.out.1.c6
  generalize W1.drewN nq = W2 at h2 e0 e2 f2 e6 ⊢
  clear d0 d1 c0 c2 H1 HB hW1
  go_wp2
  go_end0
  exact HA.out W2 h2.out.2 _ _ _ _ ⟨rfl, HT.out W2 h2.out.1⟩
set_option maxRecDepth 100000 in
set_option maxHeartbeats 2000000 in
theorem sm_acked_other (h : Sm w0 W q p X F) (m : FN) (d r : Sl) (hk : m.s ≠ X.id ∨ (m.k ≠ 8 ∧ m.k ≠ 4)) : Calls Tryz.prog 19 #[.pointer (some ⟨q, 0, none⟩), frV m d r] W (SmPost w0 W q p X F (.tuple #[])) := by
  obtain ⟨L, W1, hfv, hW1, hB, d0, d1, d2, d3, d4⟩ := fr_box W m d r
  have c0 := (h.below hB).c0
  have HS := Lib.hid (fun W' (k : Below W.heap.size W W') => h.same k (.tuple #[]))
  have HB := Lib.hid hB
  rw [hfv]
  clear hB hfv h d2 d3 d4
  cases hne : (m.s != (X.id : Int)) with
  | true =>
    clear hk
    have heq : (m.s == (X.id : Int)) = false := by simpa using hne
    go_enter Tryz.func19, Tryz.ntmps19
    go_wp2
    go_quiet (fail)
    go_wp2
    go_end0
    exact HS.out _ (below_drewN HB.out _)
  | false =>
    have heq : (m.s == (X.id : Int)) = true := by simpa using hne
    have hid : m.s = (X.id : Int) := by simpa using hne
    have hb8 : (m.k == 8) = false := by simp; omega
    have hb4 : (m.k == 4) = false := by simp; omega
    rw [hid] at d1
    clear hk hid hne heq
    go_enter Tryz.func19, Tryz.ntmps19
    go_wp2
    go_quiet (fail)
    go_wp2
    go_end0
    exact HS.out _ (below_drewN HB.out _)
set_option maxRecDepth 100000 in
set_option maxHeartbeats 2000000 in
theorem sm_acked (h : Sm w0 W q p X F) (hL : X.o.bs.length ≤ 1099511627776) (m : FN) (d r : Sl) (hk : m.k = 8) (hs : m.s = X.id) (off : Nat) (ho : m.o = off) (hob : off < 18446744073709551616) (hdn : d.n < 9223372036854775808) :
    Calls Tryz.prog 19 #[.pointer (some ⟨q, 0, none⟩), frV m d r] W (SmPost w0 W q p (ackX X off d.n m.fin) F (.tuple #[])) := by
  obtain ⟨L, W1, hfv, hW1, hB, d0, d1, d2, d3, d4⟩ := fr_box W m d r
  rw [hk] at d0
  rw [hs] at d1
  rw [ho] at d2
  generalize m.fin = fi at *
  obtain ⟨dA, dn, dc⟩ := d
  simp only at d3 hdn ⊢
  have h1 := h.below hB
  have c0 := h1.c0
  have c4 := h1.c4
  obtain ⟨S', hS'⟩ : ∃ S', ackO X.o off dn fi = S' := ⟨_, rfl⟩
  have HC := Lib.hid (fun (W2 : World) (h2 : Sm w0 W2 q p X F) => (oz_acked h2.oz hL off hob dn (by omega) fi).mono fun e w' hP => h2.buf hP)
  rw [show ((dn : Nat) : Int).toNat = dn by omega, hS'] at HC
  have HA := Lib.hid (fun (W2 : World) (k2 : Below W.heap.size W W2) (X' : SS) (r : Value) (e : Ending) (W' : World) (hP : SmPost w0 W2 q p X' F r e W') => h.after k2 hP)
  have HB := Lib.hid hB
  have H1 := Lib.hid h1
  have hX : ackX X off dn fi = { X with o := S', st := if X.st = 3 ∧ wholeO S' = true then 4 else X.st } := by unfold ackX; rw [hS']
  obtain ⟨ns, hns⟩ : ∃ ns, (if X.st = 3 ∧ wholeO S' = true then 4 else X.st) = ns := ⟨_, rfl⟩
  have hcase : Hid ((X.st = 3 ∧ wholeO S' = true ∧ ns = 4) ∨ (X.st = 3 ∧ wholeO S' = false ∧ ns = X.st) ∨ (X.st ≠ 3 ∧ ns = X.st)) := Lib.hid (by
    rw [← hns]
    cases wholeO S' with
    | true => by_cases h3 : X.st = 3 <;> simp [h3]
    | false => by_cases h3 : X.st = 3 <;> simp [h3])
  rw [hfv, hX, hns]
  clear hfv h h1 hB ho hs hk hX hS' hns
  have HWH := Lib.hid (fun (W2 : World) (h2 : Sm w0 W2 q p { X with o := S' } F) => oz_whole h2.oz)
  have HT := Lib.hid (fun (W2 : World) (h2 : Sm w0 W2 q p { X with o := S' } F) => h2.top (X' := { X with o := S', st := 4 }) ((Kept.refl _ W2).setAt 2 (.int .i64 4)) (h2.at_.set 2 (.int .i64 4)) rfl ⟨h2.ok.id, h2.ok.lim, h2.ok.code, .inr (.inr (.inr (.inl rfl)))⟩)
  go_enter Tryz.func19, Tryz.ntmps19
  go_wp2
  go_quiet (fail)
  have h2 := Lib.hid (And.intro (H1.out.drewN nq) (below_drewN HB.out nq))
  have e0 : (W1.drewN nq).cell? ⟨W.heap.size, 0, none⟩ = _ := d0
  have e2 : (W1.drewN nq).cell? ⟨W.heap.size, 2, none⟩ = _ := d2
  have e3 : (W1.drewN nq).cell? ⟨W.heap.size, 3, none⟩ = _ := d3
  have e4 : (W1.drewN nq).cell? ⟨W.heap.size, 4, none⟩ = _ := d4
  have e5 : (W1.drewN nq).cell? ⟨q, 4, none⟩ = _ := c4
  generalize W1.drewN nq = W2 at h2 e0 e2 e3 e4 e5 ⊢
  clear d0 d1 d2 d3 d4 c0 c4 H1 HB hW1
  go_wp2
  go_still_tail 11, (by kernel_rfl)
  change wpList _ _ _ _ _ (World.drew W2)
  have h3 := Lib.hid (And.intro (h2.out.1.drewN 1) (below_drewN h2.out.2 1))
  have HC3 := Lib.hid (HC.out (W2.drewN 1) h3.out.1)
  change wpList _ _ _ _ _ (World.drewN W2 1)
  generalize W2.drewN 1 = W3 at h3 HC3 ⊢
  clear HC h2 e0 e2 e3 e4 e5
  rcases hcase.out with ⟨hc1, hc2, rfl⟩ | ⟨hc1, hc2, hns⟩ | ⟨hc1, hns⟩
  · rw [hc2] at HWH
    have HC1 := Lib.hid hc1
    clear hc1 hc2
    go_wp2_with (first
      | (go_at_call 39; (with_reducible refine HC3.out.mono ?_); rintro e w4 ⟨rfl, hP, hP2⟩; have HP := Lib.hid (And.intro hP hP2); have HW4 := Lib.hid (HWH.out w4 hP); have x2 := hP.c2; simp only [HC1.out] at x2; have x4 := hP.c4; have f2 := hP.at_.frozen 2; clear hP hP2)
      | (go_at_call 40; (with_reducible refine HW4.out.mono ?_); rintro e w5 ⟨rfl, hw5⟩; rw [hw5]; clear hw5))
    go_end0
    obtain ⟨y1, y2, y3⟩ := HT.out _ HP.out.1
    exact HA.out W3 h3.out.2 _ _ _ _ ⟨rfl, y1, fun b hb => (y2 b hb).trans (HP.out.2.1 b hb), Nat.le_trans HP.out.2.2 y3⟩
  · rw [hc2] at HWH
    subst hns
    have HC1 := Lib.hid hc1
    clear hc1 hc2
    go_wp2_with (first
      | (go_at_call 39; (with_reducible refine HC3.out.mono ?_); rintro e w4 ⟨rfl, hP, hP2⟩; have HP := Lib.hid (And.intro hP hP2); have HW4 := Lib.hid (HWH.out w4 hP); have x2 := hP.c2; simp only [HC1.out] at x2; have x4 := hP.c4; clear hP hP2)
      | (go_at_call 40; (with_reducible refine HW4.out.mono ?_); rintro e w5 ⟨rfl, hw5⟩; rw [hw5]; clear hw5))
    go_end0
    exact HA.out W3 h3.out.2 _ _ _ _ ⟨rfl, HP.out⟩
  · subst hns
    have hs3 : ((X.st : Int) == 3) = false := by simp; omega
    clear hc1
    go_wp2_with (go_at_call 39; (with_reducible refine HC3.out.mono ?_); rintro e w4 ⟨rfl, hP, hP2⟩; have HP := Lib.hid (And.intro hP hP2); have x2 := hP.c2; simp only at x2; have x4 := hP.c4; clear hP hP2)
    go_end0
    exact HA.out W3 h3.out.2 _ _ _ _ ⟨rfl, HP.out⟩
end
end
end Go.Proofs.YtbejpafephofaaaGreat
