/-
  The law's same and known, over package rtt's Estimator and the document's.
-/
import Derived.Test.YtolnadnmnadpoaaRb
namespace Go.Proofs.Ytolnadnmnadpoaa
set_option linter.unusedVariables false
set_option linter.unusedSimpArgs false
open Go.RowKit
theorem perS_bd (s : ES) (ok : s.ok) (k : Int) : 0 ≤ perS s k ∧ perS s k ≤ 1310848 := by
  obtain ⟨h0, h1, h2, h3, h4, h5⟩ := ok
  unfold perS
  obtain ⟨x, hx⟩ : ∃ x, s.sm + max (4 * s.dv) 1 + 2 = x := ⟨_, rfl⟩
  have : 0 ≤ x ∧ x ≤ 20482 := by omega
  rw [hx]
  have hk : (min (max k 0) 6).toNat = 0 ∨ (min (max k 0) 6).toNat = 1 ∨ (min (max k 0) 6).toNat = 2 ∨ (min (max k 0) 6).toNat = 3 ∨ (min (max k 0) 6).toNat = 4 ∨ (min (max k 0) 6).toNat = 5 ∨ (min (max k 0) 6).toNat = 6 := by omega
  rcases hk with h | h | h | h | h | h | h <;> rw [h] <;> simp <;> omega
set_option maxRecDepth 100000 in
set_option maxHeartbeats 4000000 in
theorem esame_any {p q : Nat} {s : ES} {w : World} (hp : At w p 38 s.l) (hq : At w q 42 s.l) (ok : s.ok) (k : Int) (hk : -9223372036854775808 ≤ k ∧ k < 9223372036854775808) :
    Calls Try.prog 18 #[.pointer (some ⟨p, 0, none⟩), .pointer (some ⟨q, 0, none⟩), .int .i64 k] w fun e w' => e = .returned (.bool true) ∧ ∃ d, w' = w.drewN d := by
  have HL := Lib.hid (eleast_any hp)
  obtain ⟨P, hP⟩ : ∃ P, perS s k = P := ⟨_, rfl⟩
  have HY : Hid (∀ Y d, w.drewN d = Y → (Y.cell? ⟨q, 0, none⟩ = some (.int .i64 s.sm) ∧ Y.cell? ⟨q, 1, none⟩ = some (.int .i64 s.dv) ∧ Y.cell? ⟨q, 2, none⟩ = some (.int .i64 s.ls) ∧ Y.cell? ⟨q, 3, none⟩ = some (.bool s.has))
      ∧ (∀ n, Calls Try.prog 13 #[.pointer (some ⟨p, 0, none⟩)] (Y.drewN n) fun e w' => e = .returned (.int .i64 s.sm) ∧ ∃ m, w' = Y.drewN m)
      ∧ (∀ n, Calls Try.prog 14 #[.pointer (some ⟨p, 0, none⟩)] (Y.drewN n) fun e w' => e = .returned (.int .i64 s.dv) ∧ ∃ m, w' = Y.drewN m)
      ∧ (∀ n, Calls Try.prog 15 #[.pointer (some ⟨p, 0, none⟩), .int .i64 k] (Y.drewN n) fun e w' => e = .returned (.int .i64 P) ∧ ∃ m, w' = Y.drewN m)
      ∧ (∀ n, Calls Try.prog 21 #[.pointer (some ⟨q, 0, none⟩), .int .i64 k] (Y.drewN n) fun e w' => e = .returned (.int .i64 P) ∧ ∃ m, w' = Y.drewN m)) := by
    refine Lib.hid fun Y d hY => ?_
    subst hY
    refine ⟨⟨hq.cell 0, hq.cell 1, hq.cell 2, hq.cell 3⟩, fun n => ?_, fun n => ?_, fun n => ?_, fun n => ?_⟩
    · exact Calls.quiet_of_same ((esm_any (w := (w.drewN d).drewN n) hp).mono fun _ _ ⟨h1, h2⟩ => ⟨h1, h2.symm⟩)
    · exact Calls.quiet_of_same ((evar_any (w := (w.drewN d).drewN n) hp).mono fun _ _ ⟨h1, h2⟩ => ⟨h1, h2.symm⟩)
    · exact Calls.quiet_of (by rw [← hP]; exact eperiod_any (w := (w.drewN d).drewN n) hp ok k hk)
    · exact Calls.quiet_of (by rw [← hP]; exact frperiod_any (w := (w.drewN d).drewN n) hq ok k hk)
  clear hP ok hp hq
  go_enter Try.func18, Try.ntmps18
  go_wp2_with (go_at_call 12; refine HL.out.mono ?_; rintro e w9 ⟨rfl, d, rfl⟩)
  obtain ⟨Y, hY⟩ : ∃ Y, w.drewN d = Y := ⟨_, rfl⟩
  have H2 := Lib.hid (HY.out Y d hY)
  rw [hY]
  have HE := Lib.hid hY
  clear hY HY
  have c0 := H2.out.1.1
  have c1 := H2.out.1.2.1
  have c2 := H2.out.1.2.2.1
  have c3 := H2.out.1.2.2.2
  go_quiet (first
    | (go_at_call 13; exact H2.out.2.1 _)
    | (go_at_call 14; exact H2.out.2.2.1 _)
    | (go_at_call 15; exact H2.out.2.2.2.1 _)
    | (go_at_call 21; exact H2.out.2.2.2.2 _))
  go_wp2
  go_ret
  exact ⟨rfl, by rw [← HE.out]; exact ⟨_, (World.drewN_drewN _ _ _)⟩⟩
set_option maxRecDepth 100000 in
set_option maxHeartbeats 4000000 in
theorem eknown_any (w : World) : Calls Try.prog 8 #[] w fun e w' => e = .returned (.bool true) ∧ Below w.heap.size w w' := by
  have HN := Lib.hid (enew_any w)
  have HP := Lib.hid (fun (p : Nat) (W : World) (h : At W p 38 es0.l) => And.intro (eperiod_any h es0_ok 0 (by decide)) (And.intro (eperiod_any h es0_ok 9 (by decide)) (eperiod_any h es0_ok 6 (by decide))))
  rw [show perS es0 0 = 32 by decide, show perS es0 9 = 2048 by decide, show perS es0 6 = 2048 by decide] at HP
  have HS := Lib.hid (fun (p : Nat) (W : World) (h : At W p 38 es0.l) => esample_any h es0_ok 8 (by decide))
  rw [show sampS es0 8 = ⟨8, 4, 8, true⟩ by rfl] at HS
  have HM := Lib.hid (fun (p : Nat) (W : World) (h : At W p 38 (ES.l ⟨8, 4, 8, true⟩)) => And.intro (esm_any h) (evar_any h))
  simp only at HM
  go_enter Try.func8, Try.ntmps8
  go_wp2_with (go_at_call 10; refine HN.out.mono ?_; rintro e w1 ⟨rfl, hA1, hB1⟩)
  obtain ⟨p, hp⟩ : ∃ p, w.heap.size = p := ⟨_, rfl⟩
  rw [hp] at hA1 ⊢
  have H1 := Lib.hid (And.intro hp (And.intro hA1 hB1))
  clear hp hA1 hB1
  have HQ := Lib.hid (fun d : Nat => (show At (w1.drewN d) p 38 es0.l from H1.out.2.1))
  go_wp2_with (first
    | (go_at_call 15; (with_reducible refine (HP.out p _ H1.out.2.1).1.mono ?_); rintro e w2 ⟨rfl, d2, rfl⟩)
    | (go_at_call 15; (with_reducible refine (HP.out p _ (HQ.out _)).2.1.mono ?_); rintro e w3 ⟨rfl, d3, rfl⟩; simp only [World.drewN_drewN])
    | (go_at_call 15; (with_reducible refine (HP.out p _ (HQ.out _)).2.2.mono ?_); rintro e w4 ⟨rfl, d4, rfl⟩; simp only [World.drewN_drewN])
    | (go_at_call 11; (with_reducible refine (HS.out p _ (HQ.out _)).mono ?_); rintro e w5 ⟨rfl, hA5, hk5⟩; have H5 := Lib.hid (And.intro hA5 hk5); clear hA5 hk5)
    | (go_at_call 14; (with_reducible refine (HM.out p _ H5.out.1).2.mono ?_); rintro e w6 ⟨rfl, rfl⟩)
    | (go_at_call 13; (with_reducible refine (HM.out p _ H5.out.1).1.mono ?_); rintro e w7 ⟨rfl, rfl⟩))
  go_ret
  exact ⟨rfl, (H5.out.2.from_drewN).below H1.out.2.2 H1.out.2.2.size (fun j hj => by rw [hj]; exact Nat.le_of_eq H1.out.1)⟩
end Go.Proofs.Ytolnadnmnadpoaa
