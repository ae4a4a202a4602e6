/-
  Package rtt's Sample, and the document's Sample and Period.
-/
import Derived.Test.YtolnadnmnadpoaaRa
import Derived.Deep.RegionWith
import Derived.Deep.Cut
namespace Go.Proofs.Ytolnadnmnadpoaa
set_option linter.unusedVariables false
set_option linter.unusedSimpArgs false
open Go.RowKit
/-- b, doubled j times, is F. -/
structure Dbl (F : Int) (j : Nat) (b : Int) : Prop where
  b0 : 0 ≤ b
  b1 : b ≤ 1310848
  fl : F ≤ 1310848
  eq : b * 2 ^ j = F
theorem Dbl.at0 {F b : Int} (h : Dbl F 0 b) : b = F := by have := h.eq; simpa using this
theorem pow1 (j : Nat) : (1 : Int) ≤ 2 ^ j := by
  induction j with
  | zero => decide
  | succ n ih => rw [Int.pow_succ]; omega
theorem dbl_le {b F : Int} {j : Nat} (h0 : 0 ≤ b) (h : b * 2 ^ j = F) : b ≤ F := by
  have := Int.mul_le_mul_of_nonneg_left (pow1 j) h0
  omega
theorem dbl_start (B F : Int) (kk : Nat) (h0 : 0 ≤ B) (h : B * 2 ^ kk = F) (h1 : F ≤ 1310848) : Dbl F kk B := ⟨h0, Int.le_trans (dbl_le h0 h) h1, h1, h⟩
theorem dbl_next {F : Int} (j : Nat) (b : Int) (h : Dbl F (j + 1) b) : Dbl F j (2 * b) := by
  have e : 2 * b * 2 ^ j = F := by rw [← h.eq, Int.pow_succ, Int.mul_comm 2 b, Int.mul_assoc, Int.mul_comm 2]
  have h0 := h.b0
  exact ⟨by omega, Int.le_trans (dbl_le (by omega) e) h.fl, h.fl, e⟩
section
variable {p : Nat} {s : ES} {w : World}
set_option maxRecDepth 100000 in
set_option maxHeartbeats 4000000 in
theorem esample_any (h : At w p 38 s.l) (ok : s.ok) (t : Int) (ht : -9223372036854775808 ≤ t ∧ t < 9223372036854775808) :
    Calls Try.prog 11 #[.pointer (some ⟨p, 0, none⟩), .int .i64 t] w fun e w' => e = .returned (.tuple #[]) ∧ At w' p 38 (sampS s t).l ∧ Kept (· = p) w w' := by
  have c0 : w.cell? ⟨p, 0, none⟩ = some (.int .i64 s.sm) := h.cell 0
  have c1 : w.cell? ⟨p, 1, none⟩ = some (.int .i64 s.dv) := h.cell 1
  have c2 : w.cell? ⟨p, 2, none⟩ = some (.int .i64 s.ls) := h.cell 2
  have c3 : w.cell? ⟨p, 3, none⟩ = some (.bool s.has) := h.cell 3
  have f0 := h.frozen 0
  have f1 := h.frozen 1
  have f2 := h.frozen 2
  have f3 := h.frozen 3
  have HA := Lib.hid h
  obtain ⟨h0, h1, h2, h3, h4, h5⟩ := ok
  have HW := Lib.hid (fun W => ewithin_any t 4096 W (by decide))
  obtain ⟨x, hx⟩ : ∃ x, min (max t 0) 4096 = x := ⟨_, rfl⟩
  have hxb := clT_bd t
  have hS : sampS s t = if s.has then ⟨(7 * s.sm + x) / 8, (3 * s.dv + max (s.sm - x) (x - s.sm)) / 4, min s.ls x, true⟩ else ⟨x, x / 2, x, true⟩ := by unfold sampS clT; rw [hx]
  unfold clT at hxb
  rw [hx] at HW hxb
  rw [hS]
  clear hx hS h
  obtain ⟨hx0, hx1⟩ := hxb
  obtain ⟨sm, dv, ls, has⟩ := s
  simp only at c0 c1 c2 c3 h0 h1 h2 h3 h4 h5 ⊢
  cases has with
  | false =>
    rw [if_neg (by decide)]
    have hs := (((HA.out.set 0 (.int .i64 x)).set 1 (.int .i64 (x / 2))).set 2 (.int .i64 x)).set 3 (.bool true)
    have HS := Lib.hid hs
    clear hs
    go_enter Try.func11, Try.ntmps11
    go_wp2_with (go_at_call 19; refine (HW.out _).mono ?_; rintro e w9 ⟨rfl, rfl⟩)
    trace_state
    refine bodyPost_ret (results_none rfl _ _ _) rfl ?_
    exact ⟨rfl, HS.out, ((((Kept.refl _ _).setAt _ _).setAt _ _).setAt _ _).setAt _ _⟩
  | true =>
    rw [if_pos rfl]
    have HP := Lib.hid (fun W => eapart_any sm x W ⟨h0, h1⟩ ⟨hx0, hx1⟩)
    obtain ⟨d, hd⟩ : ∃ d, max (sm - x) (x - sm) = d := ⟨_, rfl⟩
    rw [hd] at HP ⊢
    have hd0 : 0 ≤ d ∧ d ≤ 4096 := by omega
    obtain ⟨hd0, hd1⟩ := hd0
    clear hd
    have hs : ∀ y, y = min ls x → At (((w.setCell ⟨p, 1, none⟩ (.int .i64 ((3 * dv + d) / 4))).setCell ⟨p, 0, none⟩ (.int .i64 ((7 * sm + x) / 8))).setCell ⟨p, 2, none⟩ (.int .i64 y)) p 38 (ES.l ⟨(7 * sm + x) / 8, (3 * dv + d) / 4, min ls x, true⟩) := by
      rintro _ rfl
      exact (((HA.out.set 1 (.int .i64 ((3 * dv + d) / 4))).set 0 (.int .i64 ((7 * sm + x) / 8)))).set 2 (.int .i64 (min ls x))
    have HS := Lib.hid hs
    clear hs
    go_enter Try.func11, Try.ntmps11
    go_wp2_with (go_at_call 19; refine (HW.out _).mono ?_; rintro e w9 ⟨rfl, rfl⟩)
    go_region_with (go_at_call 20; refine (HP.out _).mono ?_; rintro e w9 ⟨rfl, rfl⟩)
    all_goals go_wp2
    all_goals go_end0
    all_goals exact ⟨rfl, HS.out _ (by omega), ((((Kept.refl _ _).setAt _ _).setAt _ _).setAt _ _).drew⟩
set_option maxRecDepth 100000 in
set_option maxHeartbeats 4000000 in
theorem frsample_any (h : At w p 42 s.l) (ok : s.ok) (t : Int) (ht : -9223372036854775808 ≤ t ∧ t < 9223372036854775808) :
    Calls Try.prog 17 #[.pointer (some ⟨p, 0, none⟩), .int .i64 t] w fun e w' => e = .returned (.tuple #[]) ∧ At w' p 42 (sampS s t).l ∧ Kept (· = p) w w' := by
  have c0 : w.cell? ⟨p, 0, none⟩ = some (.int .i64 s.sm) := h.cell 0
  have c1 : w.cell? ⟨p, 1, none⟩ = some (.int .i64 s.dv) := h.cell 1
  have c2 : w.cell? ⟨p, 2, none⟩ = some (.int .i64 s.ls) := h.cell 2
  have c3 : w.cell? ⟨p, 3, none⟩ = some (.bool s.has) := h.cell 3
  have f0 := h.frozen 0
  have f1 := h.frozen 1
  have f2 := h.frozen 2
  have f3 := h.frozen 3
  have HA := Lib.hid h
  clear h
  obtain ⟨h0, h1, h2, h3, h4, h5⟩ := ok
  obtain ⟨sm, dv, ls, has⟩ := s
  unfold sampS clT
  simp only at c0 c1 c2 c3 h0 h1 h2 h3 h4 h5 ⊢
  cases has with
  | false =>
    rw [if_neg (by decide)]
    have hs : ∀ y z, y = min (max t 0) 4096 → z = min (max t 0) 4096 / 2 → At ((((w.setCell ⟨p, 0, none⟩ (.int .i64 y)).setCell ⟨p, 1, none⟩ (.int .i64 z)).setCell ⟨p, 2, none⟩ (.int .i64 y)).setCell ⟨p, 3, none⟩ (.bool true)) p 42 (ES.l ⟨min (max t 0) 4096, min (max t 0) 4096 / 2, min (max t 0) 4096, true⟩) := by
      rintro _ _ rfl rfl
      exact (((HA.out.set 0 _).set 1 _).set 2 _).set 3 _
    have HS := Lib.hid hs
    clear hs
    go_enter Try.func17, Try.ntmps17
    go_wp2
    all_goals refine bodyPost_ret (results_none rfl _ _ _) rfl ?_
    all_goals exact ⟨rfl, HS.out _ _ (by omega) (by omega), ((((Kept.refl _ _).setAt _ _).setAt _ _).setAt _ _).setAt _ _⟩
  | true =>
    rw [if_pos rfl]
    obtain ⟨x, hx⟩ : ∃ x, min (max t 0) 4096 = x := ⟨_, rfl⟩
    have hxb : 0 ≤ x ∧ x ≤ 4096 := by omega
    rw [hx]
    have hs : ∀ u v y, u = (3 * dv + max (sm - x) (x - sm)) / 4 → v = (7 * sm + x) / 8 → y = min ls x → At (((w.setCell ⟨p, 1, none⟩ (.int .i64 u)).setCell ⟨p, 0, none⟩ (.int .i64 v)).setCell ⟨p, 2, none⟩ (.int .i64 y)) p 42 (ES.l ⟨(7 * sm + x) / 8, (3 * dv + max (sm - x) (x - sm)) / 4, min ls x, true⟩) := by
      rintro _ _ _ rfl rfl rfl
      exact ((HA.out.set 1 _).set 0 _).set 2 _
    have HS := Lib.hid hs
    clear hs
    obtain ⟨hx0, hx1⟩ := hxb
    go_enter Try.func17, Try.ntmps17
    go_wp2
    all_goals go_end0
    all_goals exact ⟨rfl, HS.out _ _ _ (by omega) (by omega) (by omega), (((Kept.refl _ _).setAt _ _).setAt _ _).setAt _ _⟩
set_option maxRecDepth 100000 in
set_option maxHeartbeats 4000000 in
theorem frperiod_any (h : At w p 42 s.l) (ok : s.ok) (k : Int) (hk : -9223372036854775808 ≤ k ∧ k < 9223372036854775808) :
    Calls Try.prog 21 #[.pointer (some ⟨p, 0, none⟩), .int .i64 k] w fun e w' => e = .returned (.int .i64 (perS s k)) ∧ ∃ d, w' = w.drewN d := by
  have hc : w.cell? ⟨p, 0, none⟩ = some (.int .i64 s.sm) := h.cell 0
  have hc2 : w.cell? ⟨p, 1, none⟩ = some (.int .i64 s.dv) := h.cell 1
  clear h
  obtain ⟨h0, h1, h2, h3, h4, h5⟩ := ok
  unfold perS
  obtain ⟨sm, dv, ls, has⟩ := s
  simp only at hc hc2 h0 h1 h2 h3 ⊢
  clear h4 h5
  have hb : ∃ B, sm + max (4 * dv) 1 + 2 = B := ⟨_, rfl⟩
  obtain ⟨B, hB⟩ := hb
  rw [hB]
  have hB0 : 0 ≤ B ∧ B ≤ 20482 := by omega
  obtain ⟨hB0, hB1⟩ := hB0
  obtain ⟨kk, hkk⟩ : ∃ x, (min (max k 0) 6).toNat = x := ⟨_, rfl⟩
  rw [hkk]
  have hk6 : kk ≤ 6 := by omega
  obtain ⟨F, hF⟩ : ∃ F, B * 2 ^ kk = F := ⟨_, rfl⟩
  have hF1 : F ≤ 1310848 := by
    have : kk = 0 ∨ kk = 1 ∨ kk = 2 ∨ kk = 3 ∨ kk = 4 ∨ kk = 5 ∨ kk = 6 := by omega
    rcases this with rfl | rfl | rfl | rfl | rfl | rfl | rfl <;> simp at hF <;> omega
  rw [hF]
  have HS := Lib.hid (dbl_start B F kk hB0 hF hF1)
  have HN := Lib.hid (dbl_next (F := F))
  clear hF hF1
  go_enter Try.func21, Try.ntmps21
  go_wp2
  all_goals go_quiet (fail)
  all_goals go_wp2
  all_goals
    go_loopg [5, 6] 6 (fun kx s5 s6 wr => ∃ (j : Nat) (b : Int), s5 = .int .i64 j ∧ s6 = .int .i64 b ∧ j ≤ kx ∧ j ≤ 6 ∧ Hid (Dbl F j b) ∧ ∃ d, wr = w.drewN d)
    case atStart => exact ⟨kk, B, by congr 1; omega, by congr 1; omega, by omega, by omega, HS, _, rfl⟩
    case round =>
      obtain ⟨j, b, rfl, rfl, hjk, hj6, hD, d, rfl⟩ := hrel
      have hb0 := hD.out.b0
      have hb1 := hD.out.b1
      cases j with
      | zero =>
        go_wp2
        go_ret
        exact ⟨ret_int hD.out.at0, _, rfl⟩
      | succ j =>
        have hj1 : (0 : Int) < ((j + 1 : Nat) : Int) := by omega
        have hD2 := Lib.hid (HN.out j b hD.out)
        go_wp2
        go_roundg j
        case measure => omega
        case rel => exact ⟨j, _, by congr 1, rfl, by omega, by omega, hD2, _, rfl⟩
end
end Go.Proofs.Ytolnadnmnadpoaa
