/-
  sender: the law's known; SenderEnds' state.
-/
import Derived.Test.YtohahkjikhpamaaMq15
namespace Go.Proofs.Ytohahkjikhpamaa
set_option linter.unusedVariables false
set_option linter.unusedSimpArgs false
open Go.RowKit
def kx16 : SS := ⟨4, 0, 1, true, 0, false, finO os0⟩
set_option maxHeartbeats 8000000 in
set_option maxRecDepth 100000 in
theorem known16_any (w : World) : Calls Try.prog 16 #[] w fun e w' => e = .returned (.bool true) ∧ Below w.heap.size w w' := by
  have HN : Hid (Calls Try.prog 5 #[.int .u64 4] w fun e w' => ∃ q p, e = .returned (.pointer (some ⟨q, 0, none⟩)) ∧ Sm w w' q p (ss0 4) (fun _ => False)) := Lib.hid (sm_new 4 (by decide) w)
  have HST : Hid (∀ W q p, Sm w W q p (ss0 4) (fun _ => False) → Calls Try.prog 17 #[.pointer (some ⟨q, 0, none⟩)] W fun e w' => e = .returned (.int .i64 1) ∧ w' = W) := Lib.hid (fun W q p h => sm_state h)
  have HFI : Hid (∀ W q p, Sm w W q p (ss0 4) (fun _ => False) → Calls Try.prog 8 #[.pointer (some ⟨q, 0, none⟩)] W fun e w' => e = .returned (.int .i64 0) ∧ Sm w w' q p kx16 (fun _ => False)) := Lib.hid (fun W q p h => (sm_finish h rfl).mono fun e w' hP => ⟨hP.1, hP.2.1⟩)
  have HWR : Hid (∀ W q p A n c, Sm w W q p kx16 (fun _ => False) → Calls Try.prog 7 #[.pointer (some ⟨q, 0, none⟩), .slice A n c] W fun e w' => e = .returned (.tuple #[.int .i64 0, .int .i64 24]) ∧ w' = W) := Lib.hid (fun W q p A n c h => sm_write_closed h rfl A n c)
  have HNX : Hid (∀ W q p, Sm w W q p kx16 (fun _ => False) → Calls Try.prog 11 #[.pointer (some ⟨q, 0, none⟩), .int .i64 3, .int .u64 9] W fun e w' => ∃ L : List Value, e = .returned (.tuple #[.agg L.toArray, .bool false]) ∧ L.length = 19 ∧ L.all (·.oneCell') = true ∧ Sm w w' q p kx16 (fun _ => False)) := Lib.hid (fun W q p h => by
    refine (sm_next h (by decide) 3 (by omega) 9 (by omega)).mono fun e w' ⟨L, b, X', v, bs, he, hG, _, hS, _⟩ => ?_
    have hl := hG.len
    rcases hG with ⟨rfl, _, _, _, rfl⟩ | ⟨_, k, _⟩ | ⟨_, k, _⟩
    · exact ⟨L, he, hl.1, hl.2, hS⟩
    · have := k.1
      exact absurd this (by decide)
    · have := k.2.1
      omega)
  have HSE : Hid (∀ W q p (o : Obj), Sm w W q p kx16 (fun _ => False) → Calls Try.prog 13 #[.pointer (some ⟨q, 0, none⟩)] (W.alloc o) fun e w' => e = .returned (.int .u64 0) ∧ w' = W.alloc o) := Lib.hid (fun W q p o h => sm_sent (h.below ((Below.refl _ _).alloc (Nat.le_refl _) _)))
  have HBL : Hid (∀ W q p (o : Obj), Sm w W q p kx16 (fun _ => False) → Below w.heap.size w (W.alloc o)) := Lib.hid (fun W q p o h => h.bl.alloc h.bl.size _)
  have kc := fun (w : World) (C : Array Value) (n c : Nat) => Lib.run_convert_bytes_const (P := Try.prog) w 26 5 C n c Try.underlying26 Try.underlying5
  go_enter Try.func16, Try.ntmps16
  go_wp2_with (first
    | (go_at_call 5; (with_reducible refine HN.out.mono ?_); rintro e w1 ⟨q, p, rfl, hS1⟩; have H1 := Lib.hid (HST.out w1 q p hS1); have H1b := Lib.hid (HFI.out w1 q p hS1); clear hS1)
    | (go_at_call 17; (with_reducible refine H1.out.mono ?_); rintro e w2 ⟨rfl, hw2⟩; rw [hw2]; clear hw2)
    | (go_at_call 8; (with_reducible refine H1b.out.mono ?_); rintro e w3 ⟨rfl, hS3⟩; have HS3 := Lib.hid (fun (o : Obj) A n c => HWR.out (w3.alloc o) q p A n c (hS3.below ((Below.refl _ _).alloc (Nat.le_refl _) _))); have HS3b := Lib.hid (fun (o : Obj) => HNX.out (w3.alloc o) q p (hS3.below ((Below.refl _ _).alloc (Nat.le_refl _) _))); clear hS3)
    | (go_at_call 7; (with_reducible refine (HS3.out _ _ _ _).mono ?_); rintro e w4 ⟨rfl, hw4⟩; rw [hw4]; clear hw4)
    | (go_at_call 11; (with_reducible refine (HS3b.out _).mono ?_); rintro e w5 ⟨L, rfl, hl1, hl2, hS5⟩; have HL1 := Lib.hid hl1; have HL2 := Lib.hid hl2; have HS5 := Lib.hid (fun o => HSE.out w5 q p o hS5); have HB5 := Lib.hid (fun o => HBL.out w5 q p o hS5); clear hl1 hl2 hS5)
    | (go_at_call 13; (with_reducible refine (HS5.out _).mono ?_); rintro e w6 ⟨rfl, hw6⟩; rw [hw6]; clear hw6)
    | ((with_reducible refine at_st (x := .tmp 4) ?_); refine st_top _ _ L (by rfl) _ (by rfl) (by simp) (by rfl) (by rfl) HL1.out HL2.out ?_)
    | fail)
  go_ret
  exact ⟨by rfl, HB5.out _⟩
/-- SenderEnds, behind i rounds. -/
structure EnR (D : List Int) (i : Nat) (X : SS) (reset : Bool) : Prop where
  id : X.id = 3
  lim : X.lim = 1000
  bs : X.o.bs = D
  D2 : D.length ≤ 200
  i2 : i ≤ 211
  nr : reset = false → X.st ≤ 4
  ph : (X.st ≤ 3 ∧ ∃ a, En X.o D (20 * a) ∧ i ≤ a + min i 200) ∨ X.st = 4 ∨ (X.st = 5 ∧ X.due = true ∧ i ≤ 200) ∨ X.st = 6
theorem zsR_32 (X : SS) : zsR X ≤ 32 := by
  unfold zsR sizeF
  split
  · have h1 := putS_le (wkS (m4 X.id X.code X.o.gn))
    have h2 := putL_len [((X.id : Nat) : Int), ((X.code : Nat) : Int), ((X.o.gn : Nat) : Int)]
    simp only [List.length_cons, List.length_nil] at h2
    unfold oneS
    rw [List.length_append, show bodyS (m4 X.id X.code X.o.gn) [] [] = putL [((X.id : Nat) : Int), ((X.code : Nat) : Int), ((X.o.gn : Nat) : Int)] from rfl]
    omega
  · omega
theorem EnR.start {D : List Int} (hD : D.length ≤ 200) (X : SS) (reset : Bool) (h1 : X.id = 3) (h2 : X.lim = 1000) (h3 : X.o = finO (writeO os0 D)) (h4 : X.st = 1) : EnR D 0 X reset :=
  ⟨h1, h2, by rw [h3]; exact (en_start (by omega)).bs, hD, by omega, fun _ => by omega, .inl ⟨by omega, 0, by rw [h3]; exact en_start (by omega), by omega⟩⟩
theorem EnR.reset_ {D : List Int} {X : SS} {i : Nat} (h : EnR D i X true) (hi : i = 3) : EnR D i { X with st := 5, cl := true, code := 9, due := true } true := ⟨h.id, h.lim, h.bs, h.D2, h.i2, fun e => (by cases e), .inr (.inr (.inl ⟨rfl, rfl, by omega⟩))⟩
section
variable {w W : World} {q p : Nat} {X : SS} {D : List Int} {i : Nat} {reset : Bool}
/-- What Lost, Acked leave. -/
def EnPost (w : World) (q p : Nat) (D : List Int) (i : Nat) (reset : Bool) (e : Ending) (w' : World) : Prop := e = .returned (.tuple #[]) ∧ ∃ X2, Sm w w' q p X2 (fun _ => False) ∧ EnR D i X2 reset
theorem ends_next (h : Sm w W q p X (fun _ => False)) (hR : EnR D i X reset) :
    Calls Try.prog 11 #[.pointer (some ⟨q, 0, none⟩), .int .i64 40, .int .u64 1000] W fun e w' => ∃ (L : List Value) (b : Bool) (X' : SS), e = .returned (.tuple #[.agg L.toArray, .bool b]) ∧ L.length = 19 ∧ L.all (·.oneCell') = true ∧ Sm w w' q p X' (fun _ => False) ∧
      ((b = false ∧ X' = X ∧ (X.st = 4 ∨ X.st = 6)) ∨ (b = true ∧ ∀ W1, Sm w W1 q p X' (fun _ => False) → (i < 200 → Calls Try.prog 14 #[.pointer (some ⟨q, 0, none⟩), .agg L.toArray] W1 (EnPost w q p D (i + 1) reset)) ∧
        Calls Try.prog 15 #[.pointer (some ⟨q, 0, none⟩), .agg L.toArray] W1 (EnPost w q p D (i + 1) reset))) := by
  have hD := hR.D2
  have hbs := hR.bs
  have hlen : X.o.bs.length ≤ 200 := by rw [hbs]; exact hD
  have hz := zsR_32 X
  have hmo : moS 40 = 20 := rfl
  have hlm : lmS X 1000 = 1000 := by unfold lmS; rw [hR.lim]; omega
  have hok := h.oz.ok
  refine (sm_next h (by omega) 40 (by omega) 1000 (by omega)).mono fun e w' ⟨L, b, X', v, bs, he, hG, _, hS, _⟩ => ?_
  have hl := hG.len
  refine ⟨L, b, X', he, hl.1, hl.2, hS, ?_⟩
  rcases hG with ⟨rfl, k1, k2, _, rfl⟩ | ⟨rfl, k, rfl, rfl⟩ | ⟨rfl, k, rfl, A, c, y1, y2, rfl, rfl, _⟩
  · left
    refine ⟨rfl, rfl, ?_⟩
    rcases hR.ph with ⟨hst, a, hE, _⟩ | hst | ⟨hst, hdue, _⟩ | hst
    · exfalso
      refine k1 ⟨hst, by omega, ?_⟩
      rw [hmo, hlm, hE.next (by omega)]
      rfl
    · exact .inl hst
    · exact absurd ⟨hst, hdue, by omega⟩ k2
    · exact .inr hst
  · right
    refine ⟨rfl, fun W1 h1 => ⟨fun hi => ?_, ?_⟩⟩
    · refine (sm_lost_reset h1 (m4 X.id X.code X.o.gn) .nil .nil rfl rfl k.1).mono fun e w' hP => ⟨hP.1, _, hP.2.1, hR.id, hR.lim, hbs, hD, by omega, fun e => by have := hR.nr e; have := k.1; omega, .inr (.inr (.inl ⟨k.1, rfl, by omega⟩))⟩
    · refine (sm_acked_reset h1 (m4 X.id X.code X.o.gn) .nil .nil rfl rfl k.1).mono fun e w' hP => ⟨hP.1, _, hP.2.1, hR.id, hR.lim, hbs, hD, ?_, fun e => by have := hR.nr e; have := k.1; omega, .inr (.inr (.inr rfl))⟩
      rcases hR.ph with ⟨hst, _⟩ | hst | ⟨_, _, hi⟩ | hst
      · have := k.1; omega
      · have := k.1; omega
      · omega
      · have := k.1; omega
  · right
    have hst := k.1
    obtain ⟨a, hE, hi⟩ : ∃ a, En X.o D (20 * a) ∧ i ≤ a + min i 200 := by
      rcases hR.ph with ⟨_, hh⟩ | hh | ⟨hh, _⟩ | hh
      · exact hh
      · omega
      · omega
      · omega
    have ha := hE.bD
    have hn := hE.next (limit := 1000) (by omega)
    have h1000 : D.length ≤ 1000 := by omega
    rw [hmo, hlm] at hS y1 ⊢
    have hoff : (nextR X.o 20 1000).off = 20 * a := by rw [hn]; rfl
    have hnn : (nextR X.o 20 1000).n = (enR D (20 * a)).n := by rw [hn]
    have hfin : (nextR X.o 20 1000).fin = (enR D (20 * a)).fin := by rw [hn]
    have hnb : (enR D (20 * a)).n ≤ 200 := by show min (20 * a + 20) D.length - 20 * a ≤ 200; omega
    have hstS : stS X.st (enR D (20 * a)).fin ≤ 3 ∧ ((enR D (20 * a)).fin = true → stS X.st (enR D (20 * a)).fin = 3) := by
      unfold stS
      cases (enR D (20 * a)).fin with
      | true => exact ⟨Nat.le_refl _, fun _ => rfl⟩
      | false =>
        refine ⟨?_, fun e => by cases e⟩
        rw [if_neg (by decide)]
        split <;> omega
    refine ⟨rfl, fun W1 h1 => ⟨fun hi2 => ?_, ?_⟩⟩
    · have hX : (nextX X 20 1000).o.bs.length ≤ 1099511627776 := by show X.o.bs.length ≤ _; omega
      refine (sm_lost h1 hX (m8 X.id (nextR X.o 20 1000).off (nextR X.o 20 1000).fin) ⟨A, (nextR X.o 20 1000).n, c⟩ .nil rfl rfl (nextR X.o 20 1000).off rfl (by omega) (by show (nextR X.o 20 1000).n < _; omega)).mono fun e w' hP => ⟨hP.1, _, hP.2.1, hR.id, hR.lim, hbs, hD, by omega, fun _ => ?_, .inl ⟨?_, a, ?_, by omega⟩⟩
      · show stS X.st (nextR X.o 20 1000).fin ≤ 4
        rw [hfin]; omega
      · show stS X.st (nextR X.o 20 1000).fin ≤ 3
        rw [hfin]; omega
      · show En (lostO (nextO X.o 20 1000) (nextR X.o 20 1000).off (nextR X.o 20 1000).n (nextR X.o 20 1000).fin) D (20 * a)
        rw [hoff, hnn, hfin]
        exact hE.lost h1000
    · have hX : (nextX X 20 1000).o.bs.length ≤ 1099511627776 := by show X.o.bs.length ≤ _; omega
      refine (sm_acked h1 hX (m8 X.id (nextR X.o 20 1000).off (nextR X.o 20 1000).fin) ⟨A, (nextR X.o 20 1000).n, c⟩ .nil rfl rfl (nextR X.o 20 1000).off rfl (by omega) (by show (nextR X.o 20 1000).n < _; omega)).mono fun e w' hP => ⟨hP.1, _, hP.2.1, ?_⟩
      have hst' : (ackX (nextX X 20 1000) (nextR X.o 20 1000).off (nextR X.o 20 1000).n (nextR X.o 20 1000).fin).st = if stS X.st (enR D (20 * a)).fin = 3 ∧ wholeO (ackO (nextO X.o 20 1000) (20 * a) (enR D (20 * a)).n (enR D (20 * a)).fin) = true then 4 else stS X.st (enR D (20 * a)).fin := by
        rw [← hnn, ← hfin, ← hoff]
        rfl
      show EnR D (i + 1) (ackX (nextX X 20 1000) (nextR X.o 20 1000).off (nextR X.o 20 1000).n (nextR X.o 20 1000).fin) reset
      rcases Nat.lt_or_ge (20 * a + 20) D.length with hlt | hge
      · have hA := hE.acked h1000 hlt
        rw [hA.not_whole, if_neg (by simp)] at hst'
        refine ⟨hR.id, hR.lim, hbs, hD, by omega, fun _ => by rw [hst']; omega, .inl ⟨by rw [hst']; omega, a + 1, ?_, by omega⟩⟩
        show En (ackO (nextO X.o 20 1000) (nextR X.o 20 1000).off (nextR X.o 20 1000).n (nextR X.o 20 1000).fin) D (20 * (a + 1))
        rw [hoff, hnn, hfin]
        exact hA
      · have hf : (enR D (20 * a)).fin = true := by show decide _ = true; simp; omega
        rw [hE.whole h1000 hge, if_pos ⟨hstS.2 hf, rfl⟩] at hst'
        exact ⟨hR.id, hR.lim, hbs, hD, by omega, fun _ => by rw [hst']; omega, .inr (.inl hst')⟩
end
end Go.Proofs.Ytohahkjikhpamaa
