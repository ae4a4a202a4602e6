/-
  What the statements' 'reads' answers: true, for every row of bytes and every row of asks: the program's reader and the document's tell the same.
-/
import Derived.Test.YtijpfdjmfnokkaaRWtr
import Derived.Test.YtijpfdjmfnokkaaAsks
import Derived.Test.YtijpfdjmfnokkaaKeep
import Derived.Deep.RegionHeld
import Derived.Deep.RegionWith
namespace Go.Proofs.Ytijpfdjmfnokkaa
set_option linter.unusedVariables false
open Go.RowKit
/-- The program's reader at p, and the document's at r. -/
def RR (w : World) (base p r : Nat) (s1 s2 : St) : Prop :=
  base ≤ p ∧ p < r ∧ Rdr w p 59 (fun b => base ≤ b ∧ b < p) s1 ∧ Rdr w r 56 (fun b => b < base) s2
theorem RR.hp {w : World} {base p r : Nat} {s1 s2 : St} (h : RR w base p r s1 s2) : ∀ b, (base ≤ b ∧ b < p) → b ≠ p := fun b hb => by omega
theorem RR.hr {w : World} {base p r : Nat} {s1 s2 : St} (h : RR w base p r s1 s2) : ∀ b, b < base → b ≠ r := fun b hb => by have := h.1; have := h.2.1; omega
theorem RR.stepP {w w' : World} {base p r : Nat} {s1 s2 s3 : St} (h : RR w base p r s1 s2) (hk : Kept (· = p) w w') (h' : Rdr w' p 59 (fun b => base ≤ b ∧ b < p) s3) : RR w' base p r s3 s2 :=
  ⟨h.1, h.2.1, h', h.2.2.2.kept hk (fun e => by have := h.2.1; omega) (fun b hb e => by have := h.1; omega)⟩
theorem RR.stepR {w w' : World} {base p r : Nat} {s1 s2 s3 : St} (h : RR w base p r s1 s2) (hk : Kept (· = r) w w') (h' : Rdr w' r 56 (fun b => b < base) s3) : RR w' base p r s1 s3 :=
  ⟨h.1, h.2.1, h.2.2.1.kept hk (fun e => by have := h.2.1; omega) (fun b hb e => by have := h.2.1; omega), h'⟩
theorem RR.drewN {w : World} {base p r : Nat} {s1 s2 : St} (h : RR w base p r s1 s2) (n : Nat) : RR (w.drewN n) base p r s1 s2 := ⟨h.1, h.2.1, h.2.2.1.drewN n, h.2.2.2.drewN n⟩
theorem belowP {w0 w w' : World} {base p : Nat} (h : Below base w0 w) (hk : Kept (· = p) w w') (hb : base ≤ w.heap.size) (hp : base ≤ p) : Below base w0 w' := hk.below h hb (fun j hj => by omega)
theorem bad_quiet {w : World} {p : Nat} {T : TypeId} {P : Nat → Prop} {bs : List Int} {bad : Bool} (h : Rdr w p T P (bs, bad)) (n : Nat) : Calls Try.prog 18 #[.pointer (some ⟨p, 0, none⟩)] (w.drewN n) fun e w'' => e = .returned (.bool bad) ∧ ∃ m, w'' = w.drewN m :=
  Calls.quiet_of_same ((bad_any p T P (bs, bad) (w.drewN n) (h.drewN n)).mono fun _ _ h => ⟨h.1, h.2.symm⟩)
theorem left_quiet {w : World} {p : Nat} {T : TypeId} {P : Nat → Prop} {bs : List Int} {bad : Bool} {m : Nat} (h : Rdr w p T P (bs, bad)) (hm : bs.length = m) (n : Nat) : Calls Try.prog 19 #[.pointer (some ⟨p, 0, none⟩)] (w.drewN n) fun e w'' => e = .returned (.int .i64 m) ∧ ∃ m, w'' = w.drewN m := by
  subst hm
  exact Calls.quiet_of_same ((left_any p T P (bs, bad) (w.drewN n) (h.drewN n)).mono fun _ _ h => ⟨h.1, h.2.symm⟩)
theorem belowN {B : Nat} {a w : World} (h : Below B a w) (n : Nat) : Below B a (w.drewN n) := ⟨h.os, h.tape, h.output, h.size, h.block⟩
theorem byteR_st (s : St) : (takeN s 1).1.length ≤ s.1.length := takeN_le s 1
theorem textN_le (s : St) : (textN s).1.length ≤ s.1.length := Nat.le_trans (takeN_le _ _) (varN_le s)
def NP (p r : Nat) : Nat → Prop := fun b => b ≠ p ∧ b ≠ r
def RX (w0 w : World) (base p r : Nat) (s1 s2 : St) : Prop := RR w base p r s1 s2 ∧ Below base w0 w ∧ base ≤ w.heap.size
def RowPost (w0 w : World) (base p r : Nat) (s1 s2 : St) (T : List Int) (e : Ending) (w' : World) : Prop :=
  ∃ A n c, e = .returned (.slice A n c) ∧ RdP w' (NP p r) A n T ∧ RX w0 w' base p r s1 s2 ∧ ∀ A n T, RdP w (NP p r) A n T → RdP w' (NP p r) A n T
theorem Rdr.lt {w : World} {p : Nat} {T : TypeId} {P : Nat → Prop} {s : St} (h : Rdr w p T P s) : p < w.heap.size := by
  obtain ⟨A, n, c, h1, _⟩ := h; exact h1.lt
theorem RX.p {w0 w w' : World} {base p r : Nat} {s1 s2 s3 : St} {T : List Int} {e : Ending} (h : RX w0 w base p r s1 s2) (k : RawPost w p 59 (fun b => base ≤ b ∧ b < p) T s3 e w') : RowPost w0 w base p r s3 s2 T e w' := by
  obtain ⟨v, rfl, ho, hr, hk⟩ := k
  obtain ⟨h1, h2, h3⟩ := h
  obtain ⟨A, c, rfl, _⟩ := ho.open_
  have l1 := h1.2.2.1.lt
  have l2 := h1.2.2.2.lt
  have hs := hk.size
  exact ⟨A, _, c, rfl, (ho.rdP rfl).mono (fun b _ e => by have := (ho.block_lt b e).1; exact ⟨by omega, by omega⟩), ⟨h1.stepP hk hr, belowP h2 hk h3 h1.1, by omega⟩, fun A n T h => h.kept hk (fun b hb e => hb.1 e)⟩
theorem RX.r {w0 w w' : World} {base p r : Nat} {s1 s2 s3 : St} {T : List Int} {e : Ending} (h : RX w0 w base p r s1 s2) (k : RawPost w r 56 (fun b => b < base) T s3 e w') : RowPost w0 w base p r s1 s3 T e w' := by
  obtain ⟨v, rfl, ho, hr, hk⟩ := k
  obtain ⟨h1, h2, h3⟩ := h
  obtain ⟨A, c, rfl, _⟩ := ho.open_
  have l1 := h1.2.2.1.lt
  have l2 := h1.2.2.2.lt
  have l3 := h1.1
  have l4 := h1.2.1
  have hs := hk.size
  exact ⟨A, _, c, rfl, (ho.rdP rfl).mono (fun b _ e => by have := (ho.block_lt b e).1; exact ⟨by omega, by omega⟩), ⟨h1.stepR hk hr, belowP h2 hk h3 (by omega), by omega⟩, fun A n T h => h.kept hk (fun b hb e => hb.2 e)⟩
theorem RX.drew {w0 w : World} {base p r : Nat} {s1 s2 : St} (h : RX w0 w base p r s1 s2) : RX w0 w.drew base p r s1 s2 := ⟨h.1, h.2.1.drew, h.2.2⟩
theorem rx_raw {w0 w : World} {base p r : Nat} {s1 s2 : St} (h : RX w0 w base p r s1 s2) (y : Int) (hl : s1.1.length ≤ 100000) :
    Calls Try.prog 16 #[.pointer (some ⟨p, 0, none⟩), .int .i64 y] w (RowPost w0 w base p r (takeN s1 y) s2 (takeR s1 y)) :=
  (raw_any p _ _ s1 y w h.1.2.2.1 h.1.hp (by omega)).mono fun _ _ k => h.p k
theorem rx_rraw {w0 w : World} {base p r : Nat} {s1 s2 : St} (h : RX w0 w base p r s1 s2) (y : Int) (hl : s2.1.length ≤ 100000) :
    Calls Try.prog 34 #[.pointer (some ⟨r, 0, none⟩), .int .i64 y] w (RowPost w0 w base p r s1 (takeN s2 y) (takeR s2 y)) :=
  (rraw_any r _ _ s2 y w h.1.2.2.2 h.1.hr (by omega)).mono fun _ _ k => h.r k
theorem rx_text {w0 w : World} {base p r : Nat} {s1 s2 : St} (h : RX w0 w base p r s1 s2) (hl : s1.1.length ≤ 100000) :
    Calls Try.prog 17 #[.pointer (some ⟨p, 0, none⟩)] w (RowPost w0 w base p r (textN s1) s2 (textR s1)) :=
  (text_any p _ _ s1 w h.1.2.2.1 h.1.hp (by omega)).mono fun _ _ k => h.p k
theorem rx_rtext {w0 w : World} {base p r : Nat} {s1 s2 : St} (h : RX w0 w base p r s1 s2) (hl : s2.1.length ≤ 100000) :
    Calls Try.prog 35 #[.pointer (some ⟨r, 0, none⟩)] w (RowPost w0 w base p r s1 (textN s2) (textR s2)) :=
  (rtext_any r _ _ s2 w h.1.2.2.2 h.1.hr (by omega)).mono fun _ _ k => h.r k
set_option maxRecDepth 100000 in
set_option maxHeartbeats 16000000 in
theorem reads_any (A : Option Addr) (n c : Nat) (bs : List Int) (A2 : Option Addr) (n2 c2 : Nat) (L : List AskD) (w : World) (hr : InRow w A n c bs) (hn : n ≤ 100000) (hL : Asks w w.heap.size A2 n2 c2 L) :
    Calls Try.prog 8 #[.slice A n c, .slice A2 n2 c2] w fun e w' => e = .returned (.bool true) ∧ Below w.heap.size w w' := by
  obtain ⟨hr, hnc, hc, hA⟩ := hr
  have hc' := hc
  unfold maxLen at hc'
  have hn2 := hL.2.1
  have hc2 := hL.2.2.1
  unfold maxLen at hc2
  have HLL := Lib.hid hL.1
  have hbl0 : bs.length ≤ 100000 := by rw [hr.1]; exact hn
  go_enter Try.func8, Try.ntmps8
  go_wp2_with fail
  refine (of_any A n c _ w hr (by omega) hA).mono ?_
  rintro e w1 ⟨p, rfl, hp, hr1, hb1⟩
  have hs1 := hb1.size
  have hpl : p < w1.heap.size := by obtain ⟨A, n, c, h1, _⟩ := hr1; exact h1.lt
  have hRR : RR (w1.alloc (.cells #[.slice A n c, .bool false] 56)) w.heap.size p w1.heap.size (bs, false) (bs, false) := by
    refine ⟨hp, hpl, hr1.kept ((Kept.refl (fun _ => False) _).alloc _) (fun h => h) (fun _ _ h => h), A, n, c, At.new w1 _ _, hnc, hc, hA, ?_, fun h => by cases h⟩
    exact (RdP.of_rd (hr.below hb1) hs1).kept ((Kept.refl (fun _ => False) _).alloc _) (fun _ _ h => h)
  have hb2 : Below w.heap.size w (w1.alloc (.cells #[.slice A n c, .bool false] 56)) := hb1.alloc hs1 _
  obtain ⟨r, hrr⟩ : ∃ r, w1.heap.size = r := ⟨_, rfl⟩
  have hpr : p < r := by omega
  rw [hrr] at hRR
  have HR := Lib.hid hrr
  clear hr1 hpl
  go_wp2_with fail
  clear hb1 hs1 hrr
  go_loopw [7] (fun i wr => ∃ (k : Nat) (s : St), k ≤ n2 ∧ k ≤ 15 ∧ i = .int .i64 k ∧ RR wr w.heap.size p r s s ∧ s.1.length ≤ 100000 ∧ Below w.heap.size w wr) (fun i _ => 15 - (intOf i).toNat)
  case atStart => exact ⟨0, _, by omega, by omega, rfl, hRR, hbl0, hb2⟩
  case round =>
    obtain ⟨k, s, hk1, hk2, rfl, hrr, hsl, hbr⟩ := hrel
    have hbs := hbr.size
    have hLr := hL.below hbr
    clear hRR hb2
    by_cases hlt : k < n2 ∧ k < 15
    · obtain ⟨hlt1, hlt2⟩ := hlt
      have hd1 : decide (k < n2) = true := by simpa using hlt1
      have hd2 : decide (k < 15) = true := by simpa using hlt2
      have hd3 : decide ((k : Int) < 15) = true := by simp; omega
      obtain ⟨b, off, rfl, hbl, hask⟩ := hLr.2.2.2.2 (by omega)
      obtain ⟨d, hd⟩ : ∃ d, L[k]? = some d := ⟨_, List.getElem?_eq_getElem (by rw [HLL.out]; exact hlt1)⟩
      have hak := hask k d hd
      have ck := hak.ck
      have cn := hak.cn
      have hn0 := hak.n0
      have hn1 := hak.n1
      obtain ⟨x, hx⟩ : ∃ x, d.k = x := ⟨_, rfl⟩
      obtain ⟨y, hy⟩ : ∃ y, d.n = y := ⟨_, rfl⟩
      rw [hx] at ck
      rw [hy] at cn hn0 hn1
      have hcase : x = 1 ∨ x = 2 ∨ x = 3 ∨ x = 4 ∨ x = 5 ∨ ((x == 1) = false ∧ (x == 2) = false ∧ (x == 3) = false ∧ (x == 4) = false ∧ (x == 5) = false) := by
        simp; omega
      clear hask hak hd hx hy hd1 hd2 hd3
      rcases hcase with rfl | rfl | rfl | rfl | rfl | ⟨e1, e2, e3, e4, e5⟩
      · go_wp2_with fail
        refine (byte_any p _ _ s wr hrr.2.2.1 hrr.hp).mono ?_
        rintro e w3 ⟨rfl, hr3, hk3⟩
        have hRA := hrr.stepP hk3 hr3
        have hBA := belowP hbr hk3 hbs hrr.1
        have hs3 := hk3.size
        clear hr3 hk3
        go_wp2_with fail
        refine (rbyte_any r _ _ s w3 hRA.2.2.2 hRA.hr (by omega)).mono ?_
        rintro e w4 ⟨rfl, hr4, hk4⟩
        have hRB := hRA.stepR hk4 hr4
        have hBB := belowP hBA hk4 (by omega) (by have := hrr.1; omega)
        have hs4 := hk4.size
        clear hRA hBA hr4 hk4
        have hRF : RR _ w.heap.size p r (takeN s 1) (takeN s 1) := hRB
        have hBF := hBB
        have hSF : (takeN s 1).1.length ≤ 100000 := Nat.le_trans (takeN_le s 1) hsl
        obtain ⟨sF, hsF⟩ : ∃ sF : St, takeN s 1 = sF := ⟨_, rfl⟩
        rw [hsF] at hRF hSF
        clear hsF
        obtain ⟨bsF, badF⟩ := sF
        have HRF := Lib.hid hRF
        obtain ⟨_, _, hrP, A5, m5, c5, hA5, hm5, hc5, _, hrd5, _⟩ := hRF
        have d0 := hA5.cell 0
        have d1 := hA5.cell 1
        have LB := Lib.hid hrd5.len
        have hc5' := hc5
        unfold maxLen at hc5'
        go_wp2_with fail
        go_quiet ((first | (go_at_call 18; exact bad_quiet hrP _) | (go_at_call 19; exact left_quiet hrP LB.out _)))
        go_wp2_with fail
        go_roundw
        case rel => exact ⟨k + 1, (bsF, badF), by omega, by omega, by go_num, HRF.out.drewN _, hSF, belowN hBF _⟩
        case measure => simp [intOf]; omega
      · go_wp2_with fail
        refine (two_any p _ _ s wr hrr.2.2.1 hrr.hp).mono ?_
        rintro e w3 ⟨rfl, hr3, hk3⟩
        have hRA := hrr.stepP hk3 hr3
        have hBA := belowP hbr hk3 hbs hrr.1
        have hs3 := hk3.size
        clear hr3 hk3
        go_wp2_with fail
        refine (rtwo_any r _ _ s w3 hRA.2.2.2 hRA.hr (by omega)).mono ?_
        rintro e w4 ⟨rfl, hr4, hk4⟩
        have hRB := hRA.stepR hk4 hr4
        have hBB := belowP hBA hk4 (by omega) (by have := hrr.1; omega)
        have hs4 := hk4.size
        clear hRA hBA hr4 hk4
        have hRF : RR _ w.heap.size p r (takeN s 2) (takeN s 2) := hRB
        have hBF := hBB
        have hSF : (takeN s 2).1.length ≤ 100000 := Nat.le_trans (takeN_le s 2) hsl
        obtain ⟨sF, hsF⟩ : ∃ sF : St, takeN s 2 = sF := ⟨_, rfl⟩
        rw [hsF] at hRF hSF
        clear hsF
        obtain ⟨bsF, badF⟩ := sF
        have HRF := Lib.hid hRF
        obtain ⟨_, _, hrP, A5, m5, c5, hA5, hm5, hc5, _, hrd5, _⟩ := hRF
        have d0 := hA5.cell 0
        have d1 := hA5.cell 1
        have LB := Lib.hid hrd5.len
        have hc5' := hc5
        unfold maxLen at hc5'
        go_wp2_with fail
        go_quiet ((first | (go_at_call 18; exact bad_quiet hrP _) | (go_at_call 19; exact left_quiet hrP LB.out _)))
        go_wp2_with fail
        go_roundw
        case rel => exact ⟨k + 1, (bsF, badF), by omega, by omega, by go_num, HRF.out.drewN _, hSF, belowN hBF _⟩
        case measure => simp [intOf]; omega
      · go_wp2_with fail
        refine (var_any p _ _ s wr hrr.2.2.1 hrr.hp).mono ?_
        rintro e w3 ⟨rfl, hr3, hk3⟩
        have hRA := hrr.stepP hk3 hr3
        have hBA := belowP hbr hk3 hbs hrr.1
        have hs3 := hk3.size
        clear hr3 hk3
        go_wp2_with fail
        refine (rvar_any r _ _ s w3 hRA.2.2.2 hRA.hr).mono ?_
        rintro e w4 ⟨rfl, hr4, hk4⟩
        have hRB := hRA.stepR hk4 hr4
        have hBB := belowP hBA hk4 (by omega) (by have := hrr.1; omega)
        have hs4 := hk4.size
        clear hRA hBA hr4 hk4
        have hRF : RR _ w.heap.size p r (varN s) (varN s) := hRB
        have hBF := hBB
        have hSF : (varN s).1.length ≤ 100000 := Nat.le_trans (varN_le s) hsl
        obtain ⟨sF, hsF⟩ : ∃ sF : St, varN s = sF := ⟨_, rfl⟩
        rw [hsF] at hRF hSF
        clear hsF
        obtain ⟨bsF, badF⟩ := sF
        have HRF := Lib.hid hRF
        obtain ⟨_, _, hrP, A5, m5, c5, hA5, hm5, hc5, _, hrd5, _⟩ := hRF
        have d0 := hA5.cell 0
        have d1 := hA5.cell 1
        have LB := Lib.hid hrd5.len
        have hc5' := hc5
        unfold maxLen at hc5'
        go_wp2_with fail
        go_quiet ((first | (go_at_call 18; exact bad_quiet hrP _) | (go_at_call 19; exact left_quiet hrP LB.out _)))
        go_wp2_with fail
        go_roundw
        case rel => exact ⟨k + 1, (bsF, badF), by omega, by omega, by go_num, HRF.out.drewN _, hSF, belowN hBF _⟩
        case measure => simp [intOf]; omega
      · obtain ⟨TX, hTX⟩ : ∃ TX, strOfNums (takeR s y) = TX := ⟨_, rfl⟩
        have TT := Lib.hid hTX
        clear hTX
        have hX : RX w wr w.heap.size p r s s := ⟨hrr, hbr, hbs⟩
        go_wp2_with fail
        go_region_held (fun w' => w'.cell? ⟨b, off + k * 4 + 1, none⟩ = some (.int .i64 y)) (first | assumption | go_keep)
          ((first | (go_at_call 34; refine (rx_rraw hX3 y hsl).mono ?_; rintro e w4 ⟨A4, n4, c4, rfl, rd4, hF, fr4⟩; have rd5 := fr4 _ _ _ rd3; have cn4 : w4.cell? ⟨b, off + k * 4 + 1, none⟩ = some (.int .i64 y) := (hF.2.1.cell (p := ⟨b, _, none⟩) hbl).trans ((hbr.cell (p := ⟨b, _, none⟩) hbl).symm.trans cn); have t4 := run_text (P := Try.prog) (c := c4) rd4.1 23 5 9 Try.underlying23 Try.underlying5 Try.underlying9; rw [TT.out] at t4; have t5 := run_text (P := Try.prog) (c := c3) rd5.1 23 5 9 Try.underlying23 Try.underlying5 Try.underlying9; rw [TT.out] at t5) | (go_at_call 16; refine (rx_raw hX4 y hsl).mono ?_; rintro e w4 ⟨A4, n4, c4, rfl, rd4, hF, fr4⟩; have rd5 := fr4 _ _ _ rd3; have cn4 : w4.cell? ⟨b, off + k * 4 + 1, none⟩ = some (.int .i64 y) := (hF.2.1.cell (p := ⟨b, _, none⟩) hbl).trans ((hbr.cell (p := ⟨b, _, none⟩) hbl).symm.trans cn); have t4 := run_text (P := Try.prog) (c := c4) rd4.1 23 5 9 Try.underlying23 Try.underlying5 Try.underlying9; rw [TT.out] at t4; have t5 := run_text (P := Try.prog) (c := c3) rd5.1 23 5 9 Try.underlying23 Try.underlying5 Try.underlying9; rw [TT.out] at t5) | (go_at_call 16; refine (rx_raw hX.drew y hsl).mono ?_; rintro e w3 ⟨A3, n3, c3, rfl, rd3, hX3, _⟩; have cn3 : w3.cell? ⟨b, off + k * 4 + 1, none⟩ = some (.int .i64 y) := (hX3.2.1.cell (p := ⟨b, _, none⟩) hbl).trans ((hbr.cell (p := ⟨b, _, none⟩) hbl).symm.trans cn); have t3 := run_text (P := Try.prog) (c := c3) rd3.1 23 5 9 Try.underlying23 Try.underlying5 Try.underlying9; rw [TT.out] at t3) | (go_at_call 34; refine (rx_rraw hX.drew y hsl).mono ?_; rintro e w3 ⟨A3, n3, c3, rfl, rd3, hX4, _⟩; have cn3 : w3.cell? ⟨b, off + k * 4 + 1, none⟩ = some (.int .i64 y) := (hX4.2.1.cell (p := ⟨b, _, none⟩) hbl).trans ((hbr.cell (p := ⟨b, _, none⟩) hbl).symm.trans cn); have t3 := run_text (P := Try.prog) (c := c3) rd3.1 23 5 9 Try.underlying23 Try.underlying5 Try.underlying9; rw [TT.out] at t3)))
        all_goals
          have hRF : RR _ w.heap.size p r (takeN s y) (takeN s y) := hF.1
          have hBF := hF.2.1
          have hSF : (takeN s y).1.length ≤ 100000 := Nat.le_trans (takeN_le s y) hsl
          obtain ⟨sF, hsF⟩ : ∃ sF : St, takeN s y = sF := ⟨_, rfl⟩
          rw [hsF] at hRF hSF
          clear hsF
          obtain ⟨bsF, badF⟩ := sF
          have HRF := Lib.hid hRF
          obtain ⟨_, _, hrP, A5, m5, c5, hA5, hm5, hc5, _, hrd5, _⟩ := hRF
          have d0 := hA5.cell 0
          have d1 := hA5.cell 1
          have LB := Lib.hid hrd5.len
          have hc5' := hc5
          unfold maxLen at hc5'
          go_wp2_with fail
          go_quiet ((first | (go_at_call 18; exact bad_quiet hrP _) | (go_at_call 19; exact left_quiet hrP LB.out _)))
          go_wp2_with fail
          go_roundw
          case rel => exact ⟨k + 1, (bsF, badF), by omega, by omega, by go_num, HRF.out.drewN _, hSF, belowN hBF _⟩
          case measure => simp [intOf]; omega
      · obtain ⟨TX, hTX⟩ : ∃ TX, strOfNums (textR s) = TX := ⟨_, rfl⟩
        have TT := Lib.hid hTX
        clear hTX
        have hX : RX w wr w.heap.size p r s s := ⟨hrr, hbr, hbs⟩
        go_wp2_with fail
        go_region_held (fun w' => w'.cell? ⟨b, off + k * 4 + 1, none⟩ = some (.int .i64 y)) (first | assumption | go_keep)
          ((first | (go_at_call 35; refine (rx_rtext hX3 hsl).mono ?_; rintro e w4 ⟨A4, n4, c4, rfl, rd4, hF, fr4⟩; have rd5 := fr4 _ _ _ rd3; have cn4 : w4.cell? ⟨b, off + k * 4 + 1, none⟩ = some (.int .i64 y) := (hF.2.1.cell (p := ⟨b, _, none⟩) hbl).trans ((hbr.cell (p := ⟨b, _, none⟩) hbl).symm.trans cn); have t4 := run_text (P := Try.prog) (c := c4) rd4.1 23 5 9 Try.underlying23 Try.underlying5 Try.underlying9; rw [TT.out] at t4; have t5 := run_text (P := Try.prog) (c := c3) rd5.1 23 5 9 Try.underlying23 Try.underlying5 Try.underlying9; rw [TT.out] at t5) | (go_at_call 17; refine (rx_text hX4 hsl).mono ?_; rintro e w4 ⟨A4, n4, c4, rfl, rd4, hF, fr4⟩; have rd5 := fr4 _ _ _ rd3; have cn4 : w4.cell? ⟨b, off + k * 4 + 1, none⟩ = some (.int .i64 y) := (hF.2.1.cell (p := ⟨b, _, none⟩) hbl).trans ((hbr.cell (p := ⟨b, _, none⟩) hbl).symm.trans cn); have t4 := run_text (P := Try.prog) (c := c4) rd4.1 23 5 9 Try.underlying23 Try.underlying5 Try.underlying9; rw [TT.out] at t4; have t5 := run_text (P := Try.prog) (c := c3) rd5.1 23 5 9 Try.underlying23 Try.underlying5 Try.underlying9; rw [TT.out] at t5) | (go_at_call 17; refine (rx_text hX.drew hsl).mono ?_; rintro e w3 ⟨A3, n3, c3, rfl, rd3, hX3, _⟩; have cn3 : w3.cell? ⟨b, off + k * 4 + 1, none⟩ = some (.int .i64 y) := (hX3.2.1.cell (p := ⟨b, _, none⟩) hbl).trans ((hbr.cell (p := ⟨b, _, none⟩) hbl).symm.trans cn); have t3 := run_text (P := Try.prog) (c := c3) rd3.1 23 5 9 Try.underlying23 Try.underlying5 Try.underlying9; rw [TT.out] at t3) | (go_at_call 35; refine (rx_rtext hX.drew hsl).mono ?_; rintro e w3 ⟨A3, n3, c3, rfl, rd3, hX4, _⟩; have cn3 : w3.cell? ⟨b, off + k * 4 + 1, none⟩ = some (.int .i64 y) := (hX4.2.1.cell (p := ⟨b, _, none⟩) hbl).trans ((hbr.cell (p := ⟨b, _, none⟩) hbl).symm.trans cn); have t3 := run_text (P := Try.prog) (c := c3) rd3.1 23 5 9 Try.underlying23 Try.underlying5 Try.underlying9; rw [TT.out] at t3)))
        all_goals
          have hRF : RR _ w.heap.size p r (textN s) (textN s) := hF.1
          have hBF := hF.2.1
          have hSF : (textN s).1.length ≤ 100000 := Nat.le_trans (textN_le s) hsl
          obtain ⟨sF, hsF⟩ : ∃ sF : St, textN s = sF := ⟨_, rfl⟩
          rw [hsF] at hRF hSF
          clear hsF
          obtain ⟨bsF, badF⟩ := sF
          have HRF := Lib.hid hRF
          obtain ⟨_, _, hrP, A5, m5, c5, hA5, hm5, hc5, _, hrd5, _⟩ := hRF
          have d0 := hA5.cell 0
          have d1 := hA5.cell 1
          have LB := Lib.hid hrd5.len
          have hc5' := hc5
          unfold maxLen at hc5'
          go_wp2_with fail
          go_quiet ((first | (go_at_call 18; exact bad_quiet hrP _) | (go_at_call 19; exact left_quiet hrP LB.out _)))
          go_wp2_with fail
          go_roundw
          case rel => exact ⟨k + 1, (bsF, badF), by omega, by omega, by go_num, HRF.out.drewN _, hSF, belowN hBF _⟩
          case measure => simp [intOf]; omega
      · have hRF : RR _ w.heap.size p r (s) (s) := hrr
        have hBF := hbr
        have hSF : (s).1.length ≤ 100000 := hsl
        obtain ⟨sF, hsF⟩ : ∃ sF : St, s = sF := ⟨_, rfl⟩
        rw [hsF] at hRF hSF
        clear hsF
        obtain ⟨bsF, badF⟩ := sF
        have HRF := Lib.hid hRF
        obtain ⟨_, _, hrP, A5, m5, c5, hA5, hm5, hc5, _, hrd5, _⟩ := hRF
        have d0 := hA5.cell 0
        have d1 := hA5.cell 1
        have LB := Lib.hid hrd5.len
        have hc5' := hc5
        unfold maxLen at hc5'
        go_wp2_with fail
        go_quiet ((first | (go_at_call 18; exact bad_quiet hrP _) | (go_at_call 19; exact left_quiet hrP LB.out _)))
        go_wp2_with fail
        go_roundw
        case rel => exact ⟨k + 1, (bsF, badF), by omega, by omega, by go_num, HRF.out.drewN _, hSF, belowN hBF _⟩
        case measure => simp [intOf]; omega
    · have hcase : k = n2 ∨ (k = 15 ∧ k < n2) := by omega
      clear hlt
      rcases hcase with rfl | ⟨rfl, hlt⟩
      all_goals
        go_wp2_with fail
        go_ret
        exact ⟨rfl, hbr⟩
end Go.Proofs.Ytijpfdjmfnokkaa
