/-
  Package cong's Acked, Lost, Persist, and the document's.
-/
import Derived.Test.YtppgffphlmempaaGa
namespace Go.Proofs.Ytppgffphlmempaa
set_option linter.unusedVariables false
set_option linter.unusedSimpArgs false
open Go.RowKit
section
variable {p : Nat} {s : CS} {w : World}
set_option maxHeartbeats 8000000 in
theorem gack_any (h : At w p 36 s.l) (ok : s.ok) (n t : Int) (hn : -9223372036854775808 ≤ n ∧ n < 9223372036854775808) :
    Calls Try.prog 8 #[.pointer (some ⟨p, 0, none⟩), .int .i64 n, .int .i64 t] w fun e w' => e = .returned (.tuple #[]) ∧ At w' p 36 (ackS s n t).l ∧ Kept (· = p) w w' := by
  have c0 : w.cell? ⟨p, 0, none⟩ = some (.int .i64 s.sz) := h.cell 0
  have c2 : w.cell? ⟨p, 2, none⟩ = some (.int .i64 s.sn) := h.cell 2
  have f0 := h.frozen 0
  have HA := Lib.hid h
  have HS := Lib.hid (fun W (a : At W p 36 s.l) => gslow_any a)
  have hm := moreS_bd ok n
  obtain ⟨h0, h1, h2, h3⟩ := ok
  unfold ackS
  by_cases ht : t ≤ s.sn
  · rw [if_pos ht]
    clear h hm
    go_enter Try.func8, Try.ntmps8
    go_wp2
    refine bodyPost_ret (results_none rfl _ _ _) rfl ?_
    exact ⟨rfl, HA.out, Kept.refl _ _⟩
  · rw [if_neg ht]
    have hs : ∀ d y, y = min (s.sz + moreS s n) 1073741824 → At ((w.drewN d).setCell ⟨p, 0, none⟩ (.int .i64 y)) p 36 (CS.l ⟨min (s.sz + moreS s n) 1073741824, s.tp, s.sn⟩) := by
      rintro d _ rfl
      exact (HA.out.drewN d).set 0 _
    have HT := Lib.hid hs
    clear hs h
    unfold moreS at hm HT ⊢
    have hc : (n < 0 ∧ clN n = 0) ∨ (0 ≤ n ∧ n ≤ 512 ∧ clN n = n) ∨ (512 < n ∧ clN n = 512) := by unfold clN; omega
    by_cases hsl : s.sz < s.tp
    · rw [if_pos hsl] at HT hm ⊢
      rw [decide_eq_true hsl] at HS
      rcases hc with ⟨hc1, hc2⟩ | ⟨hc1, hc3, hc2⟩ | ⟨hc1, hc2⟩
      all_goals
        rw [hc2] at HT hm ⊢
        clear hc2
        go_enter Try.func8, Try.ntmps8
        go_wp2_with (go_at_call 15; refine (HS.out _ HA.out).mono ?_; rintro e w9 ⟨rfl, d, rfl⟩)
        all_goals go_end0
        all_goals exact ⟨rfl, HT.out _ _ (by omega), ((Kept.refl _ _).drewN _).setAt _ _⟩
    · rw [if_neg hsl] at HT hm ⊢
      rw [decide_eq_false hsl] at HS
      rcases hc with ⟨hc1, hc2⟩ | ⟨hc1, hc3, hc2⟩ | ⟨hc1, hc2⟩
      all_goals
        rw [hc2] at HT hm ⊢
        clear hc2
        try simp only [show (512 : Int) * 512 = 262144 from rfl, Int.mul_zero, Int.zero_ediv] at HT hm ⊢
        obtain ⟨hm0, hm1⟩ := hm
        have hz : s.sz ≠ 0 := by omega
        go_enter Try.func8, Try.ntmps8
        go_wp2_with (go_at_call 15; refine (HS.out _ HA.out).mono ?_; rintro e w9 ⟨rfl, d, rfl⟩)
        all_goals go_end0
        all_goals exact ⟨rfl, HT.out _ _ (by omega), ((Kept.refl _ _).drewN _).setAt _ _⟩
set_option maxHeartbeats 8000000 in
theorem grack_any (h : At w p 40 s.l) (ok : s.ok) (n t : Int) (hn : -9223372036854775808 ≤ n ∧ n < 9223372036854775808) :
    Calls Try.prog 19 #[.pointer (some ⟨p, 0, none⟩), .int .i64 n, .int .i64 t] w fun e w' => e = .returned (.tuple #[]) ∧ At w' p 40 (ackS s n t).l ∧ Kept (· = p) w w' := by
  have c0 : w.cell? ⟨p, 0, none⟩ = some (.int .i64 s.sz) := h.cell 0
  have c1 : w.cell? ⟨p, 1, none⟩ = some (.int .i64 s.tp) := h.cell 1
  have c2 : w.cell? ⟨p, 2, none⟩ = some (.int .i64 s.sn) := h.cell 2
  have f0 := h.frozen 0
  have HA := Lib.hid h
  have hm := moreS_bd ok n
  obtain ⟨h0, h1, h2, h3⟩ := ok
  unfold ackS
  by_cases ht : t ≤ s.sn
  · rw [if_pos ht]
    clear h hm
    go_enter Try.func19, Try.ntmps19
    go_wp2
    refine bodyPost_ret (results_none rfl _ _ _) rfl ?_
    exact ⟨rfl, HA.out, Kept.refl _ _⟩
  · rw [if_neg ht]
    have hs : ∀ d y, y = min (s.sz + moreS s n) 1073741824 → At ((w.drewN d).setCell ⟨p, 0, none⟩ (.int .i64 y)) p 40 (CS.l ⟨min (s.sz + moreS s n) 1073741824, s.tp, s.sn⟩) := by
      rintro d _ rfl
      exact (HA.out.drewN d).set 0 _
    have HT := Lib.hid hs
    clear hs h
    unfold moreS at hm HT ⊢
    have hc : (n < 0 ∧ clN n = 0) ∨ (0 ≤ n ∧ n ≤ 512 ∧ clN n = n) ∨ (512 < n ∧ clN n = 512) := by unfold clN; omega
    by_cases hsl : s.sz < s.tp
    · rw [if_pos hsl] at HT hm ⊢
      rcases hc with ⟨hc1, hc2⟩ | ⟨hc1, hc3, hc2⟩ | ⟨hc1, hc2⟩
      all_goals
        rw [hc2] at HT hm ⊢
        clear hc2
        go_enter Try.func19, Try.ntmps19
        go_wp2
        all_goals go_quiet (fail)
        all_goals go_wp2
        all_goals go_end0
        all_goals exact ⟨rfl, HT.out _ _ (by omega), ((Kept.refl _ _).drewN _).setAt _ _⟩
    · rw [if_neg hsl] at HT hm ⊢
      rcases hc with ⟨hc1, hc2⟩ | ⟨hc1, hc3, hc2⟩ | ⟨hc1, hc2⟩
      all_goals
        rw [hc2] at HT hm ⊢
        clear hc2
        try simp only [show (512 : Int) * 512 = 262144 from rfl, Int.mul_zero, Int.zero_ediv] at HT hm ⊢
        obtain ⟨hm0, hm1⟩ := hm
        have hz : s.sz ≠ 0 := by omega
        go_enter Try.func19, Try.ntmps19
        go_wp2
        all_goals go_quiet (fail)
        all_goals go_wp2
        all_goals go_end0
        all_goals exact ⟨rfl, HT.out _ _ (by omega), ((Kept.refl _ _).drewN _).setAt _ _⟩
set_option maxHeartbeats 4000000 in
theorem glost_any (h : At w p 36 s.l) (ok : s.ok) (t now : Int) :
    Calls Try.prog 13 #[.pointer (some ⟨p, 0, none⟩), .int .i64 t, .int .i64 now] w fun e w' => e = .returned (.tuple #[]) ∧ At w' p 36 (lostS s t now).l ∧ Kept (· = p) w w' := by
  have c0 : w.cell? ⟨p, 0, none⟩ = some (.int .i64 s.sz) := h.cell 0
  have c1 : w.cell? ⟨p, 1, none⟩ = some (.int .i64 s.tp) := h.cell 1
  have c2 : w.cell? ⟨p, 2, none⟩ = some (.int .i64 s.sn) := h.cell 2
  have f0 := h.frozen 0
  have f1 := h.frozen 1
  have f2 := h.frozen 2
  have HA := Lib.hid h
  obtain ⟨h0, h1, h2, h3⟩ := ok
  unfold lostS
  by_cases ht : t ≤ s.sn
  · rw [if_pos ht]
    clear h
    go_enter Try.func13, Try.ntmps13
    go_wp2
    refine bodyPost_ret (results_none rfl _ _ _) rfl ?_
    exact ⟨rfl, HA.out, Kept.refl _ _⟩
  · rw [if_neg ht]
    have hs : ∀ y, y = max (s.sz / 2) 1024 → At (((w.setCell ⟨p, 2, none⟩ (.int .i64 now)).setCell ⟨p, 0, none⟩ (.int .i64 y)).setCell ⟨p, 1, none⟩ (.int .i64 y)) p 36 (CS.l ⟨max (s.sz / 2) 1024, max (s.sz / 2) 1024, now⟩) := by
      rintro _ rfl
      exact ((HA.out.set 2 _).set 0 _).set 1 _
    have HT := Lib.hid hs
    clear hs h
    go_enter Try.func13, Try.ntmps13
    go_wp2
    all_goals go_end0
    all_goals exact ⟨rfl, HT.out _ (by omega), (((Kept.refl _ _).setAt _ _).setAt _ _).setAt _ _⟩
theorem gper_any (h : At w p 36 s.l) : Calls Try.prog 14 #[.pointer (some ⟨p, 0, none⟩)] w fun e w' => e = .returned (.tuple #[]) ∧ At w' p 36 (perS s).l ∧ Kept (· = p) w w' := by
  have f0 := h.frozen 0
  have f2 := h.frozen 2
  have c0 : w.cell? ⟨p, 0, none⟩ = some (.int .i64 s.sz) := h.cell 0
  have c2 : w.cell? ⟨p, 2, none⟩ = some (.int .i64 s.sn) := h.cell 2
  have HT := Lib.hid (show At ((w.setCell ⟨p, 0, none⟩ (.int .i64 1024)).setCell ⟨p, 2, none⟩ (.int .i64 (-1))) p 36 (perS s).l from (h.set 0 _).set 2 _)
  clear h
  go_enter Try.func14, Try.ntmps14
  go_wp2
  go_end0
  exact ⟨rfl, HT.out, ((Kept.refl _ _).setAt _ _).setAt _ _⟩
set_option maxHeartbeats 4000000 in
theorem grlost_any (h : At w p 40 s.l) (ok : s.ok) (t now : Int) :
    Calls Try.prog 17 #[.pointer (some ⟨p, 0, none⟩), .int .i64 t, .int .i64 now] w fun e w' => e = .returned (.tuple #[]) ∧ At w' p 40 (lostS s t now).l ∧ Kept (· = p) w w' := by
  have c0 : w.cell? ⟨p, 0, none⟩ = some (.int .i64 s.sz) := h.cell 0
  have c1 : w.cell? ⟨p, 1, none⟩ = some (.int .i64 s.tp) := h.cell 1
  have c2 : w.cell? ⟨p, 2, none⟩ = some (.int .i64 s.sn) := h.cell 2
  have f0 := h.frozen 0
  have f1 := h.frozen 1
  have f2 := h.frozen 2
  have HA := Lib.hid h
  obtain ⟨h0, h1, h2, h3⟩ := ok
  unfold lostS
  by_cases ht : t ≤ s.sn
  · rw [if_pos ht]
    clear h
    go_enter Try.func17, Try.ntmps17
    go_wp2
    refine bodyPost_ret (results_none rfl _ _ _) rfl ?_
    exact ⟨rfl, HA.out, Kept.refl _ _⟩
  · rw [if_neg ht]
    have hs : ∀ y, y = max (s.sz / 2) 1024 → At (((w.setCell ⟨p, 2, none⟩ (.int .i64 now)).setCell ⟨p, 0, none⟩ (.int .i64 y)).setCell ⟨p, 1, none⟩ (.int .i64 y)) p 40 (CS.l ⟨max (s.sz / 2) 1024, max (s.sz / 2) 1024, now⟩) := by
      rintro _ rfl
      exact ((HA.out.set 2 _).set 0 _).set 1 _
    have HT := Lib.hid hs
    clear hs h
    go_enter Try.func17, Try.ntmps17
    go_wp2
    all_goals go_end0
    all_goals exact ⟨rfl, HT.out _ (by omega), (((Kept.refl _ _).setAt _ _).setAt _ _).setAt _ _⟩
theorem grper_any (h : At w p 40 s.l) : Calls Try.prog 18 #[.pointer (some ⟨p, 0, none⟩)] w fun e w' => e = .returned (.tuple #[]) ∧ At w' p 40 (perS s).l ∧ Kept (· = p) w w' := by
  have f0 := h.frozen 0
  have f2 := h.frozen 2
  have c0 : w.cell? ⟨p, 0, none⟩ = some (.int .i64 s.sz) := h.cell 0
  have c2 : w.cell? ⟨p, 2, none⟩ = some (.int .i64 s.sn) := h.cell 2
  have HT := Lib.hid (show At ((w.setCell ⟨p, 0, none⟩ (.int .i64 1024)).setCell ⟨p, 2, none⟩ (.int .i64 (-1))) p 40 (perS s).l from (h.set 0 _).set 2 _)
  clear h
  go_enter Try.func18, Try.ntmps18
  go_wp2
  go_end0
  exact ⟨rfl, HT.out, ((Kept.refl _ _).setAt _ _).setAt _ _⟩
end
end Go.Proofs.Ytppgffphlmempaa
