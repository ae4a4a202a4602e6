/-
  Chapter 13's law: known; play.
-/
import Derived.Test.YtppgffphlmempaaGb
import Derived.Test.YtppgffphlmempaaGc
import Derived.StillTailTactics
namespace Go.Proofs.Ytppgffphlmempaa
set_option linter.unusedVariables false
set_option linter.unusedSimpArgs false
open Go.RowKit
set_option maxRecDepth 100000 in
set_option maxHeartbeats 4000000 in
theorem gknown_any (w : World) : Calls Try.prog 11 #[] w fun e w' => e = .returned (.bool true) ∧ Below w.heap.size w w' := by
  have HN := Lib.hid (gnew_any w)
  have h5 : (-9223372036854775808 : Int) ≤ 5 ∧ (5 : Int) < 9223372036854775808 := by decide
  have H0 := Lib.hid (fun (p : Nat) (W : World) (h : At W p 36 cs0.l) => And.intro (gsize_any h) (And.intro (gslow_any h) (And.intro (gmay_any h cs0_ok (-1) 5 (by decide) (by decide)) (glost_any h cs0_ok 5 9))))
  rw [show cs0.sz = 5120 by rfl, show decide (5120 < cs0.tp) = true by rfl, show mayB cs0 (-1) 5 = false by rfl, show lostS cs0 5 9 = ⟨2560, 2560, 9⟩ by rfl] at H0
  have k1 : (CS.mk 2560 2560 9).ok := ⟨by decide, by decide, by decide, by decide⟩
  have H1 := Lib.hid (fun (p : Nat) (W : World) (h : At W p 36 (CS.l ⟨2560, 2560, 9⟩)) => And.intro (gsize_any h) (And.intro (gslow_any h) (And.intro (gmay_any h k1 2060 500 (by decide) (by decide)) (And.intro (gmay_any h k1 2061 500 (by decide) (by decide)) (glost_any h k1 7 10)))))
  simp only [show decide ((2560 : Int) < 2560) = false by rfl, show mayB ⟨2560, 2560, 9⟩ 2060 500 = true by rfl, show mayB ⟨2560, 2560, 9⟩ 2061 500 = false by rfl, show lostS ⟨2560, 2560, 9⟩ 7 10 = ⟨2560, 2560, 9⟩ by rfl] at H1
  clear h5 k1
  go_enter Try.func11, Try.ntmps11
  go_wp2_with (go_at_call 7; refine HN.out.mono ?_; rintro e w1 ⟨rfl, hA1, hB1⟩)
  obtain ⟨p, hp⟩ : ∃ p, w.heap.size = p := ⟨_, rfl⟩
  rw [hp] at hA1 ⊢
  have HP := Lib.hid (And.intro hp (And.intro hA1 hB1))
  clear hp hA1 hB1
  go_wp2_with (first
    | (go_at_call 9; (with_reducible refine (H0.out p _ HP.out.2.1).1.mono ?_); rintro e w2 ⟨rfl, rfl⟩)
    | (go_at_call 20; (with_reducible refine (H0.out p _ HP.out.2.1).2.2.1.mono ?_); rintro e w2 ⟨rfl, rfl⟩)
    | (go_at_call 15; (with_reducible refine (H0.out p _ HP.out.2.1).2.1.mono ?_); rintro e w2 ⟨rfl, d2, rfl⟩)
    | (go_at_call 13; (with_reducible refine (H0.out p _ (HP.out.2.1.drewN _)).2.2.2.mono ?_); rintro e w5 ⟨rfl, hA5, hk5⟩; have H5 := Lib.hid (And.intro hA5 hk5); clear hA5 hk5)
    | (go_at_call 13; (with_reducible refine (H1.out p _ H5.out.1).2.2.2.2.mono ?_); rintro e w6 ⟨rfl, hA6, hk6⟩; have H6 := Lib.hid (And.intro hA6 (H5.out.2.from_drewN.trans hk6)); clear hA6 hk6)
    | (go_at_call 9; (with_reducible refine (H1.out p _ H6.out.1).1.mono ?_); rintro e w7 ⟨rfl, rfl⟩)
    | (go_at_call 15; (with_reducible refine (H1.out p _ H6.out.1).2.1.mono ?_); rintro e w7 ⟨rfl, d7, rfl⟩)
    | (go_at_call 20; (with_reducible refine (H1.out p _ (H6.out.1.drewN _)).2.2.1.mono ?_); rintro e w7 ⟨rfl, rfl⟩)
    | (go_at_call 20; (with_reducible refine (H1.out p _ (H6.out.1.drewN _)).2.2.2.1.mono ?_); rintro e w7 ⟨rfl, rfl⟩))
  go_ret
  exact ⟨rfl, (H6.out.2.drewN _).below HP.out.2.2 HP.out.2.2.size (fun j hj => by rw [hj]; exact Nat.le_of_eq HP.out.1)⟩
/-- Two windows that know the same. -/
structure Tg (w0 wr : World) (p q : Nat) (s : CS) : Prop where
  ok : s.ok
  ap : At wr p 36 s.l
  aq : At wr q 40 s.l
  bl : Below w0.heap.size w0 wr
  lp : w0.heap.size ≤ p
  lq : w0.heap.size ≤ q
  ne : p ≠ q
theorem Tg.drewN {w0 wr : World} {p q : Nat} {s : CS} (h : Tg w0 wr p q s) (d : Nat) : Tg w0 (wr.drewN d) p q s := ⟨h.ok, h.ap, h.aq, ⟨h.bl.os, h.bl.tape, h.bl.output, h.bl.size, h.bl.block⟩, h.lp, h.lq, h.ne⟩
theorem Tg.drew {w0 wr : World} {p q : Nat} {s : CS} (h : Tg w0 wr p q s) : Tg w0 wr.drew p q s := h.drewN 1
theorem Tg.mid {w0 wr w1 : World} {p q : Nat} {s : CS} (h : Tg w0 wr p q s) (k : Kept (· = p) wr w1) : Below w0.heap.size w0 w1 ∧ At w1 q 40 s.l :=
  ⟨k.below h.bl h.bl.size (fun j hj => by rw [hj]; exact h.lp), h.aq.kept k (fun e => h.ne e.symm)⟩
theorem Tg.next {w0 wr w1 w2 : World} {p q : Nat} {s s' : CS} (h : Tg w0 wr p q s) (ok : s'.ok) (a : At w1 p 36 s'.l) (k : Kept (· = p) wr w1) (a2 : At w2 q 40 s'.l) (k2 : Kept (· = q) w1 w2) : Tg w0 w2 p q s' :=
  ⟨ok, a.kept k2 h.ne, a2, k2.below (h.mid k).1 (h.mid k).1.size (fun j hj => by rw [hj]; exact h.lq), h.lp, h.lq, h.ne⟩
/-- What the check behind each call asks of a world. -/
structure Ck (w0 Y : World) (p q : Nat) (s : CS) (x : Int) : Prop where
  c0 : Y.cell? ⟨q, 0, none⟩ = some (.int .i64 s.sz)
  c1 : Y.cell? ⟨q, 1, none⟩ = some (.int .i64 s.tp)
  size : ∀ n, Calls Try.prog 9 #[.pointer (some ⟨p, 0, none⟩)] (Y.drewN n) fun e w' => e = .returned (.int .i64 s.sz) ∧ ∃ m, w' = Y.drewN m
  slow : ∀ n, Calls Try.prog 15 #[.pointer (some ⟨p, 0, none⟩)] (Y.drewN n) fun e w' => e = .returned (.bool (decide (s.sz < s.tp))) ∧ ∃ m, w' = Y.drewN m
  may : ∀ f g, I64 f → I64 g → ∀ n, Calls Try.prog 20 #[.pointer (some ⟨p, 0, none⟩), .int .i64 f, .int .i64 g] (Y.drewN n) fun e w' => e = .returned (.bool (mayB s f g)) ∧ ∃ m, w' = Y.drewN m
  rmay : ∀ f g, I64 f → I64 g → ∀ n, Calls Try.prog 21 #[.pointer (some ⟨q, 0, none⟩), .int .i64 f, .int .i64 g] (Y.drewN n) fun e w' => e = .returned (.bool (mayB s f g)) ∧ ∃ m, w' = Y.drewN m
theorem Tg.ck {w0 wr : World} {p q : Nat} {s : CS} (h : Tg w0 wr p q s) (x : Int) : Ck w0 wr p q s x where
  c0 := h.aq.cell 0
  c1 := h.aq.cell 1
  size := fun n => Calls.quiet_of_same ((gsize_any (w := wr.drewN n) h.ap).mono fun _ _ ⟨h1, h2⟩ => ⟨h1, h2.symm⟩)
  slow := fun n => Calls.quiet_of (gslow_any (w := wr.drewN n) h.ap)
  may := fun f g hf hg n => Calls.quiet_of_same ((gmay_any (w := wr.drewN n) h.ap h.ok f g hf hg).mono fun _ _ ⟨h1, h2⟩ => ⟨h1, h2.symm⟩)
  rmay := fun f g hf hg n => Calls.quiet_of_same ((grmay_any (w := wr.drewN n) h.aq h.ok f g hf hg).mono fun _ _ ⟨h1, h2⟩ => ⟨h1, h2.symm⟩)
set_option maxRecDepth 100000 in
set_option maxHeartbeats 8000000 in
theorem gplay_any (A : Option Addr) (n c : Nat) (L : List AskD) (B : Nat) (w : World) (hu : Asks w B A n c L) (hB : B ≤ w.heap.size) :
    Calls Try.prog 10 #[.slice A n c] w fun e w' => e = .returned (.bool true) ∧ Below w.heap.size w w' := by
  have HU := Lib.hid hu
  have HUL := Lib.hid hu.1
  have hnc := hu.2.1
  have hcm := hu.2.2.1
  unfold maxLen at hcm
  clear hu
  go_enter Try.func10, Try.ntmps10
  go_wp2_with (go_at_call 7; refine (gnew_any _).mono ?_; rintro e w1 ⟨rfl, hA1, hB1⟩)
  obtain ⟨p, hp⟩ : ∃ p, w.heap.size = p := ⟨_, rfl⟩
  rw [hp] at hA1 ⊢
  have H1 := Lib.hid (And.intro hp (And.intro hA1 hB1))
  clear hp hA1 hB1
  go_wp2_with (go_at_call 16; refine (grnew_any _).mono ?_; rintro e w2 ⟨rfl, hA2, hB2⟩)
  obtain ⟨q, hq⟩ : ∃ q, w1.heap.size = q := ⟨_, rfl⟩
  rw [hq] at hA2 ⊢
  have HT : Hid (Tg w w2 p q cs0) := Lib.hid ⟨cs0_ok, H1.out.2.1.below hB2 H1.out.2.1.lt, hA2, H1.out.2.2.trans (hB2.mono H1.out.2.2.size), by rw [H1.out.1]; exact Nat.le_refl _, by rw [← hq]; exact H1.out.2.2.size, by have := H1.out.2.1.lt; omega⟩
  clear H1 hA2 hB2 hq
  go_loopg [5] 80 (fun kx s5 wr => ∃ (i : Nat) (s : CS), s5 = .int .i64 i ∧ i ≤ n ∧ i ≤ 80 ∧ 80 - i ≤ kx ∧ Hid (Tg w wr p q s))
  case atStart => exact ⟨0, _, rfl, Nat.zero_le _, by omega, by omega, HT⟩
  case round =>
    clear HT
    obtain ⟨i, s, rfl, hin, hi80, hkx, hT⟩ := hrel
    by_cases hgo : i < n ∧ i < 80
    · obtain ⟨g1, g2⟩ := hgo
      have hbB : Below B w wr := hT.out.bl.mono hB
      obtain ⟨d, hx⟩ : ∃ d, L[i]? = some d := ⟨_, List.getElem?_eq_getElem (by rw [HUL.out]; exact g1)⟩
      obtain ⟨b, off, rfl, hb, hc⟩ := HU.out.2.2.2.2 (by omega)
      have ha := hc i d hx
      have HW := Lib.hid (show ∀ W, Below w.heap.size w W → AskAt W b (off + i * 4) d from fun W hW => ha.below (hW.mono hB) hb)
      have hwf := ha.wf
      unfold AskD.wf at hwf
      obtain ⟨hwk, hws, hwt, hwn⟩ := hwf
      have HX := Lib.hid (And.intro hws (And.intro hwt hwn))
      clear hc ha hx hwt hwn
      obtain ⟨k, x, t, nw⟩ := d
      have hk0 := (HW.out wr hT.out.bl).ck
      simp only at hk0 hws
      have hiz : (i : Int) < (n : Int) := by omega
      have hi6 : (i : Int) < 80 := by omega
      have hcase : k = 1 ∨ k = 2 ∨ (k ≠ 1 ∧ k ≠ 2) := by omega
      rcases hcase with rfl | rfl | ⟨hk1, hk2⟩
      · have c2 := (HW.out wr hT.out.bl).ct
        have c3 := (HW.out wr hT.out.bl).cn
        simp only at c2 c3
        go_wp2
        go_still_tail 11, (by kernel_rfl)
        change wpList _ _ _ _ _ (World.drew wr)
        have hT3 := Lib.hid hT.out.drew
        generalize World.drew wr = w3 at hT3 ⊢
        go_wp2_with (go_at_call 13; (with_reducible refine (glost_any hT3.out.ap hT3.out.ok t nw).mono ?_); rintro e w4 ⟨rfl, hA4, hk4⟩; have H4 := Lib.hid (And.intro hA4 hk4); clear hA4 hk4)
        have c2' := (HW.out w4 (hT3.out.mid H4.out.2).1).ct
        have c3' := (HW.out w4 (hT3.out.mid H4.out.2).1).cn
        simp only at c2' c3'
        go_still_tail 11, (by kernel_rfl)
        change wpList _ _ _ _ _ (World.drew w4)
        have H5 := Lib.hid (show At w4.drew p 36 (lostS s t nw).l ∧ Kept (· = p) w3 w4.drew from ⟨H4.out.1, H4.out.2.drew⟩)
        generalize World.drew w4 = w5 at H5 ⊢
        go_wp2_with (go_at_call 17; (with_reducible refine (grlost_any (hT3.out.mid H5.out.2).2 hT3.out.ok t nw).mono ?_); rintro e w6 ⟨rfl, hA6, hk6⟩; have H6 : Hid (Tg w w6 p q (lostS s t nw)) := Lib.hid (hT3.out.next (lostS_ok hT3.out.ok t nw) H5.out.1 H5.out.2 hA6 hk6); clear hA6 hk6)
        obtain ⟨s', hs'⟩ : ∃ s', lostS s t nw = s' := ⟨_, rfl⟩
        rw [hs'] at H6
        clear hs' H5 H4 hT3
        dsimp only [List.append]
        have HC := Lib.hid (H6.out.ck x)
        have d0 := HC.out.c0
        have d1 := HC.out.c1
        have d2 := (HW.out w6 H6.out.bl).cs
        simp only at d2
        have ha0 := H6.out.ok.a0
        have ha1 := H6.out.ok.a1
        have HM1 := Lib.hid (HC.out.may x 512 HX.out.1 (by unfold I64; decide))
        have HM2 := Lib.hid (HC.out.may (s'.sz - 500) 500 (by unfold I64; omega) (by unfold I64; decide))
        have HM3 := Lib.hid (HC.out.may 1 x (by unfold I64; decide) HX.out.1)
        have HR1 := Lib.hid (HC.out.rmay x 512 HX.out.1 (by unfold I64; decide))
        have HR2 := Lib.hid (HC.out.rmay (s'.sz - 500) 500 (by unfold I64; omega) (by unfold I64; decide))
        have HR3 := Lib.hid (HC.out.rmay 1 x (by unfold I64; decide) HX.out.1)
        obtain ⟨m1, hm1⟩ : ∃ m, mayB s' x 512 = m := ⟨_, rfl⟩
        obtain ⟨m2, hm2⟩ : ∃ m, mayB s' (s'.sz - 500) 500 = m := ⟨_, rfl⟩
        obtain ⟨m3, hm3⟩ : ∃ m, mayB s' 1 x = m := ⟨_, rfl⟩
        rw [hm1] at HM1 HR1
        rw [hm2] at HM2 HR2
        rw [hm3] at HM3 HR3
        clear hm1 hm2 hm3
        have hwr : IntKind.i64.wrap (s'.sz - 500) = s'.sz - 500 := by rw [IntKind.wrap_i64]; omega
        go_quiet (first
          | (go_at_call 9; exact HC.out.size _)
          | (go_at_call 15; exact HC.out.slow _)
          | (go_at_call 20; first | (with_reducible exact HM1.out _) | (with_reducible exact HM2.out _) | (with_reducible exact HM3.out _))
          | (go_at_call 21; first | (with_reducible exact HR1.out _) | (with_reducible exact HR2.out _) | (with_reducible exact HR3.out _)))
        go_wp2
        have H7 := Lib.hid (H6.out.drewN nq)
        go_roundg (80 - (i + 1))
        case measure => omega
        case rel => exact ⟨i + 1, _, by simp, by omega, by omega, by omega, H7⟩
      · go_wp2_with (first
          | (go_at_call 14; (with_reducible refine (gper_any hT.out.ap).mono ?_); rintro e w4 ⟨rfl, hA4, hk4⟩; have H4 := Lib.hid (And.intro hA4 hk4); clear hA4 hk4)
          | (go_at_call 18; (with_reducible refine (grper_any (hT.out.mid H4.out.2).2).mono ?_); rintro e w6 ⟨rfl, hA6, hk6⟩; have H6 : Hid (Tg w w6 p q (perS s)) := Lib.hid (hT.out.next (perS_ok hT.out.ok) H4.out.1 H4.out.2 hA6 hk6); clear hA6 hk6))
        obtain ⟨s', hs'⟩ : ∃ s', perS s = s' := ⟨_, rfl⟩
        rw [hs'] at H6
        clear hs' H4
        dsimp only [List.append]
        have HC := Lib.hid (H6.out.ck x)
        have d0 := HC.out.c0
        have d1 := HC.out.c1
        have d2 := (HW.out w6 H6.out.bl).cs
        simp only at d2
        have ha0 := H6.out.ok.a0
        have ha1 := H6.out.ok.a1
        have HM1 := Lib.hid (HC.out.may x 512 HX.out.1 (by unfold I64; decide))
        have HM2 := Lib.hid (HC.out.may (s'.sz - 500) 500 (by unfold I64; omega) (by unfold I64; decide))
        have HM3 := Lib.hid (HC.out.may 1 x (by unfold I64; decide) HX.out.1)
        have HR1 := Lib.hid (HC.out.rmay x 512 HX.out.1 (by unfold I64; decide))
        have HR2 := Lib.hid (HC.out.rmay (s'.sz - 500) 500 (by unfold I64; omega) (by unfold I64; decide))
        have HR3 := Lib.hid (HC.out.rmay 1 x (by unfold I64; decide) HX.out.1)
        obtain ⟨m1, hm1⟩ : ∃ m, mayB s' x 512 = m := ⟨_, rfl⟩
        obtain ⟨m2, hm2⟩ : ∃ m, mayB s' (s'.sz - 500) 500 = m := ⟨_, rfl⟩
        obtain ⟨m3, hm3⟩ : ∃ m, mayB s' 1 x = m := ⟨_, rfl⟩
        rw [hm1] at HM1 HR1
        rw [hm2] at HM2 HR2
        rw [hm3] at HM3 HR3
        clear hm1 hm2 hm3
        have hwr : IntKind.i64.wrap (s'.sz - 500) = s'.sz - 500 := by rw [IntKind.wrap_i64]; omega
        go_quiet (first
          | (go_at_call 9; exact HC.out.size _)
          | (go_at_call 15; exact HC.out.slow _)
          | (go_at_call 20; first | (with_reducible exact HM1.out _) | (with_reducible exact HM2.out _) | (with_reducible exact HM3.out _))
          | (go_at_call 21; first | (with_reducible exact HR1.out _) | (with_reducible exact HR2.out _) | (with_reducible exact HR3.out _)))
        go_wp2
        have H7 := Lib.hid (H6.out.drewN nq)
        go_roundg (80 - (i + 1))
        case measure => omega
        case rel => exact ⟨i + 1, _, by simp, by omega, by omega, by omega, H7⟩
      · have c1 := (HW.out wr hT.out.bl).cs
        have c2 := (HW.out wr hT.out.bl).ct
        simp only at c1 c2
        have HWX : Hid (-9223372036854775808 ≤ x ∧ x < 9223372036854775808) := Lib.hid hws
        go_wp2
        go_still_tail 11, (by kernel_rfl)
        change wpList _ _ _ _ _ (World.drew wr)
        have hT3 := Lib.hid hT.out.drew
        generalize World.drew wr = w3 at hT3 ⊢
        go_wp2_with (go_at_call 8; (with_reducible refine (gack_any hT3.out.ap hT3.out.ok x t HWX.out).mono ?_); rintro e w4 ⟨rfl, hA4, hk4⟩; have H4 := Lib.hid (And.intro hA4 hk4); clear hA4 hk4)
        have c2' := (HW.out w4 (hT3.out.mid H4.out.2).1).cs
        have c3' := (HW.out w4 (hT3.out.mid H4.out.2).1).ct
        simp only at c2' c3'
        go_still_tail 11, (by kernel_rfl)
        change wpList _ _ _ _ _ (World.drew w4)
        have H5 := Lib.hid (show At w4.drew p 36 (ackS s x t).l ∧ Kept (· = p) w3 w4.drew from ⟨H4.out.1, H4.out.2.drew⟩)
        generalize World.drew w4 = w5 at H5 ⊢
        go_wp2_with (go_at_call 19; (with_reducible refine (grack_any (hT3.out.mid H5.out.2).2 hT3.out.ok x t HWX.out).mono ?_); rintro e w6 ⟨rfl, hA6, hk6⟩; have H6 : Hid (Tg w w6 p q (ackS s x t)) := Lib.hid (hT3.out.next (ackS_ok hT3.out.ok x t) H5.out.1 H5.out.2 hA6 hk6); clear hA6 hk6)
        obtain ⟨s', hs'⟩ : ∃ s', ackS s x t = s' := ⟨_, rfl⟩
        rw [hs'] at H6
        clear hs' H5 H4 hT3
        dsimp only [List.append]
        have HC := Lib.hid (H6.out.ck x)
        have d0 := HC.out.c0
        have d1 := HC.out.c1
        have d2 := (HW.out w6 H6.out.bl).cs
        simp only at d2
        have ha0 := H6.out.ok.a0
        have ha1 := H6.out.ok.a1
        have HM1 := Lib.hid (HC.out.may x 512 HX.out.1 (by unfold I64; decide))
        have HM2 := Lib.hid (HC.out.may (s'.sz - 500) 500 (by unfold I64; omega) (by unfold I64; decide))
        have HM3 := Lib.hid (HC.out.may 1 x (by unfold I64; decide) HX.out.1)
        have HR1 := Lib.hid (HC.out.rmay x 512 HX.out.1 (by unfold I64; decide))
        have HR2 := Lib.hid (HC.out.rmay (s'.sz - 500) 500 (by unfold I64; omega) (by unfold I64; decide))
        have HR3 := Lib.hid (HC.out.rmay 1 x (by unfold I64; decide) HX.out.1)
        obtain ⟨m1, hm1⟩ : ∃ m, mayB s' x 512 = m := ⟨_, rfl⟩
        obtain ⟨m2, hm2⟩ : ∃ m, mayB s' (s'.sz - 500) 500 = m := ⟨_, rfl⟩
        obtain ⟨m3, hm3⟩ : ∃ m, mayB s' 1 x = m := ⟨_, rfl⟩
        rw [hm1] at HM1 HR1
        rw [hm2] at HM2 HR2
        rw [hm3] at HM3 HR3
        clear hm1 hm2 hm3
        have hwr : IntKind.i64.wrap (s'.sz - 500) = s'.sz - 500 := by rw [IntKind.wrap_i64]; omega
        go_quiet (first
          | (go_at_call 9; exact HC.out.size _)
          | (go_at_call 15; exact HC.out.slow _)
          | (go_at_call 20; first | (with_reducible exact HM1.out _) | (with_reducible exact HM2.out _) | (with_reducible exact HM3.out _))
          | (go_at_call 21; first | (with_reducible exact HR1.out _) | (with_reducible exact HR2.out _) | (with_reducible exact HR3.out _)))
        go_wp2
        have H7 := Lib.hid (H6.out.drewN nq)
        go_roundg (80 - (i + 1))
        case measure => omega
        case rel => exact ⟨i + 1, _, by simp, by omega, by omega, by omega, H7⟩
    · have hgo2 : (i = n ∧ ¬ (i : Int) < (n : Int)) ∨ ((80 : Int) < (n : Int) ∧ i = 80) := by omega
      clear hgo
      rcases hgo2 with ⟨rfl, hgo2⟩ | ⟨hgo2, rfl⟩
      all_goals go_wp2
      all_goals go_ret
      all_goals exact ⟨rfl, hT.out.bl⟩
end Go.Proofs.Ytppgffphlmempaa
