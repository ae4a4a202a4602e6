/-
  CongBounds: its walk.
-/
import Derived.Test.YtppgffphlmempaaGd
namespace Go.Proofs.Ytppgffphlmempaa
set_option linter.unusedVariables false
set_option linter.unusedSimpArgs false
open Go.RowKit
/-- A window of the call's own. -/
structure Og (w0 wr : World) (p : Nat) (s : CS) : Prop where
  ok : s.ok
  ap : At wr p 36 s.l
  bl : Below w0.heap.size w0 wr
  lp : w0.heap.size ≤ p
theorem Og.drewN {w0 wr : World} {p : Nat} {s : CS} (h : Og w0 wr p s) (d : Nat) : Og w0 (wr.drewN d) p s := ⟨h.ok, h.ap, ⟨h.bl.os, h.bl.tape, h.bl.output, h.bl.size, h.bl.block⟩, h.lp⟩
theorem Og.drew {w0 wr : World} {p : Nat} {s : CS} (h : Og w0 wr p s) : Og w0 wr.drew p s := h.drewN 1
theorem Og.next {w0 wr w1 : World} {p : Nat} {s s' : CS} (h : Og w0 wr p s) (ok : s'.ok) (a : At w1 p 36 s'.l) (k : Kept (· = p) wr w1) : Og w0 w1 p s' :=
  ⟨ok, a, k.below h.bl h.bl.size (fun j hj => by rw [hj]; exact h.lp), h.lp⟩
theorem ackS_bd {s : CS} (h : s.ok) (n t : Int) : s.sz ≤ (ackS s n t).sz ∧ (ackS s n t).sz ≤ s.sz + 512 := by
  have hb := moreS_bd h n
  obtain ⟨h0, h1, h2, h3⟩ := h
  unfold ackS
  split
  · omega
  · simp only; omega
theorem lostS_bd {s : CS} (h : s.ok) (t nw : Int) : (lostS s t nw).sz ≤ s.sz ∧ s.sz / 2 ≤ (lostS s t nw).sz := by
  obtain ⟨h0, h1, h2, h3⟩ := h
  unfold lostS
  split
  · omega
  · simp only; omega
set_option maxRecDepth 100000 in
set_option maxHeartbeats 8000000 in
theorem gbounds_law (A : Option Addr) (n c : Nat) (L : List AskD) (w : World) (hu : Asks w w.heap.size A n c L) :
    Calls Try.prog 5 #[.slice A n c] w fun e w' => e = .returned (.bool true) ∧ Below w.heap.size w w' := by
  have HU := Lib.hid hu
  have HUL := Lib.hid hu.1
  have hnc := hu.2.1
  have hcm := hu.2.2.1
  unfold maxLen at hcm
  clear hu
  go_enter Try.func5, Try.ntmps5
  go_wp2_with (go_at_call 7; refine (gnew_any _).mono ?_; rintro e w1 ⟨rfl, hA1, hB1⟩)
  obtain ⟨p, hp⟩ : ∃ p, w.heap.size = p := ⟨_, rfl⟩
  rw [hp] at hA1 ⊢
  have HT : Hid (Og w w1 p cs0) := Lib.hid ⟨cs0_ok, hA1, hB1, Nat.le_of_eq hp⟩
  clear hp hA1 hB1
  go_wp2
  go_loopg [4, 5] 80 (fun kx s4 s5 wr => ∃ (i : Nat) (s : CS), s4 = .int .i64 i ∧ i ≤ n ∧ i ≤ 80 ∧ 80 - i ≤ kx ∧ Hid (Og w wr p s))
  case atStart => exact ⟨0, _, rfl, Nat.zero_le _, by omega, by omega, HT⟩
  case round =>
    clear HT
    obtain ⟨i, s, rfl, hin, hi80, hkx, hT⟩ := hrel
    by_cases hgo : i < n ∧ i < 80
    · obtain ⟨g1, g2⟩ := hgo
      obtain ⟨d, hx⟩ : ∃ d, L[i]? = some d := ⟨_, List.getElem?_eq_getElem (by rw [HUL.out]; exact g1)⟩
      obtain ⟨b, off, rfl, hb, hc⟩ := HU.out.2.2.2.2 (by omega)
      have ha := hc i d hx
      have HW := Lib.hid (show ∀ W, Below w.heap.size w W → AskAt W b (off + i * 4) d from fun W hW => ha.below hW hb)
      have hwf := ha.wf
      unfold AskD.wf at hwf
      obtain ⟨hwk, hws, hwt, hwn⟩ := hwf
      clear hc ha hx
      obtain ⟨k, x, t, nw⟩ := d
      have hk0 := (HW.out wr hT.out.bl).ck
      simp only at hk0 hws
      have HWX : Hid (-9223372036854775808 ≤ x ∧ x < 9223372036854775808) := Lib.hid hws
      clear hws hwt hwn
      have hiz : (i : Int) < (n : Int) := by omega
      have hi6 : (i : Int) < 80 := by omega
      have HSZ := Lib.hid (fun (s : CS) (W : World) (a : At W p 36 s.l) => gsize_any a)
      have hz0 := hT.out.ok.a0
      have hz1 := hT.out.ok.a1
      have hcase : k = 1 ∨ k = 2 ∨ (k ≠ 1 ∧ k ≠ 2) := by omega
      rcases hcase with rfl | rfl | ⟨hk1, hk2⟩
      · have c2 := (HW.out wr hT.out.bl).ct
        have c3 := (HW.out wr hT.out.bl).cn
        simp only at c2 c3
        have hbd := lostS_bd hT.out.ok t nw
        have HL := Lib.hid (fun (W : World) (a : Og w W p s) => glost_any a.ap a.ok t nw)
        have HN := Lib.hid (fun (w1 w2 : World) (h : Og w w1 p s) a k => (Og.next (w1 := w2) h (lostS_ok hT.out.ok t nw) a k))
        obtain ⟨s', hs'⟩ : ∃ s', lostS s t nw = s' := ⟨_, rfl⟩
        rw [hs'] at hbd HL HN
        clear hs'
        obtain ⟨hbd0, hbd1⟩ := hbd
        have hsz0 : ¬ s'.sz > s.sz := by omega
        go_wp2_with (go_at_call 9; (with_reducible refine (HSZ.out s _ hT.out.ap).mono ?_); rintro e w2 ⟨rfl, rfl⟩)
        go_still_tail 11, (by kernel_rfl)
        change wpList _ _ _ _ _ (World.drew wr)
        have hT3 := Lib.hid hT.out.drew
        generalize World.drew wr = w3 at hT3 ⊢
        go_wp2_with (first
          | (go_at_call 13; (with_reducible refine (HL.out _ hT3.out).mono ?_); rintro e w4 ⟨rfl, hA4, hk4⟩; have H4 := Lib.hid (HN.out _ _ hT3.out hA4 hk4); clear hA4 hk4; have hy0 := H4.out.ok.a0; have hy1 := H4.out.ok.a1)
          | (go_at_call 9; (with_reducible refine (HSZ.out s' _ H4.out.ap).mono ?_); rintro e w5 ⟨rfl, rfl⟩))
        go_roundg (80 - (i + 1))
        case measure => omega
        case rel => exact ⟨i + 1, s', by simp, by omega, by omega, by omega, H4⟩
      · have HL := Lib.hid (fun (W : World) (a : Og w W p s) => gper_any a.ap)
        have HN := Lib.hid (fun (w1 w2 : World) (h : Og w w1 p s) a k => (Og.next (w1 := w2) h (perS_ok hT.out.ok) a k))
        have hsz : (perS s).sz = 1024 := rfl
        obtain ⟨s', hs'⟩ : ∃ s', perS s = s' := ⟨_, rfl⟩
        rw [hs'] at HL HN hsz
        clear hs'
        have HSZ2 := Lib.hid (fun (W : World) (a : At W p 36 s'.l) => gsize_any a)
        rw [hsz] at HSZ2
        clear hsz
        go_wp2_with (first
          | (go_at_call 9; (with_reducible refine (HSZ.out s _ hT.out.ap).mono ?_); rintro e w2 ⟨rfl, rfl⟩)
          | (go_at_call 14; (with_reducible refine (HL.out _ hT.out).mono ?_); rintro e w4 ⟨rfl, hA4, hk4⟩; have H4 := Lib.hid (HN.out _ _ hT.out hA4 hk4); clear hA4 hk4)
          | (go_at_call 9; (with_reducible refine (HSZ2.out _ H4.out.ap).mono ?_); rintro e w5 ⟨rfl, rfl⟩))
        go_roundg (80 - (i + 1))
        case measure => omega
        case rel => exact ⟨i + 1, s', by simp, by omega, by omega, by omega, H4⟩
      · have c1 := (HW.out wr hT.out.bl).cs
        have c2 := (HW.out wr hT.out.bl).ct
        simp only at c1 c2
        have hbd := ackS_bd hT.out.ok x t
        have HL := Lib.hid (fun (W : World) (a : Og w W p s) => gack_any a.ap a.ok x t HWX.out)
        have HN := Lib.hid (fun (w1 w2 : World) (h : Og w w1 p s) a k => (Og.next (w1 := w2) h (ackS_ok hT.out.ok x t) a k))
        obtain ⟨s', hs'⟩ : ∃ s', ackS s x t = s' := ⟨_, rfl⟩
        rw [hs'] at hbd HL HN
        clear hs'
        obtain ⟨hbd0, hbd1⟩ := hbd
        go_wp2_with (go_at_call 9; (with_reducible refine (HSZ.out s _ hT.out.ap).mono ?_); rintro e w2 ⟨rfl, rfl⟩)
        go_still_tail 11, (by kernel_rfl)
        change wpList _ _ _ _ _ (World.drew wr)
        have hT3 := Lib.hid hT.out.drew
        generalize World.drew wr = w3 at hT3 ⊢
        go_wp2_with (first
          | (go_at_call 8; (with_reducible refine (HL.out _ hT3.out).mono ?_); rintro e w4 ⟨rfl, hA4, hk4⟩; have H4 := Lib.hid (HN.out _ _ hT3.out hA4 hk4); clear hA4 hk4; have hy0 := H4.out.ok.a0; have hy1 := H4.out.ok.a1)
          | (go_at_call 9; (with_reducible refine (HSZ.out s' _ H4.out.ap).mono ?_); rintro e w5 ⟨rfl, rfl⟩))
        go_roundg (80 - (i + 1))
        case measure => omega
        case rel => exact ⟨i + 1, s', by simp, by omega, by omega, by omega, H4⟩
    · have hgo2 : (i = n ∧ ¬ (i : Int) < (n : Int)) ∨ ((80 : Int) < (n : Int) ∧ i = 80) := by omega
      clear hgo
      have HK := Lib.hid (gknown_any wr)
      rcases hgo2 with ⟨rfl, hgo2⟩ | ⟨hgo2, rfl⟩
      all_goals go_wp2_with (go_at_call 11; refine HK.out.mono ?_; rintro e w8 ⟨rfl, hB8⟩)
      all_goals go_ret
      all_goals exact ⟨rfl, hT.out.bl.trans (hB8.mono hT.out.bl.size)⟩
end Go.Proofs.Ytppgffphlmempaa
