/-
  Package rtt's Estimator and the document's: what each call answers of a state, and the state behind it.
-/
import Derived.Test.YtolnadnmnadpoaaProg
import Derived.Test.YtolnadnmnadpoaaObj
import Derived.Test.YtolnadnmnadpoaaInts
import Derived.Deep.QuietTactic
import Derived.BigQuiet
import Derived.WalkSpells
namespace Go.Proofs.Ytolnadnmnadpoaa
set_option linter.unusedVariables false
set_option linter.unusedSimpArgs false
open Go.RowKit
/-- What an estimator knows. -/
structure ES where
  sm : Int
  dv : Int
  ls : Int
  has : Bool
def ES.l (s : ES) : List Value := [.int .i64 s.sm, .int .i64 s.dv, .int .i64 s.ls, .bool s.has]
structure ES.ok (s : ES) : Prop where
  sm0 : 0 ≤ s.sm
  sm1 : s.sm ≤ 4096
  dv0 : 0 ≤ s.dv
  dv1 : s.dv ≤ 4096
  ls0 : 0 ≤ s.ls
  ls1 : s.ls ≤ 4096
def es0 : ES := ⟨10, 5, 0, false⟩
theorem es0_ok : es0.ok := ⟨by decide, by decide, by decide, by decide, by decide, by decide⟩
def clT (t : Int) : Int := min (max t 0) 4096
theorem clT_bd (t : Int) : 0 ≤ clT t ∧ clT t ≤ 4096 := by unfold clT; omega
def sampS (s : ES) (t : Int) : ES := if s.has then ⟨(7 * s.sm + clT t) / 8, (3 * s.dv + max (s.sm - clT t) (clT t - s.sm)) / 4, min s.ls (clT t), true⟩ else ⟨clT t, clT t / 2, clT t, true⟩
theorem sampS_ok {s : ES} (h : s.ok) (t : Int) : (sampS s t).ok := by
  have hb := clT_bd t
  obtain ⟨h0, h1, h2, h3, h4, h5⟩ := h
  unfold sampS
  split
  · exact ⟨by simp only; omega, by simp only; omega, by simp only; omega, by simp only; omega, by simp only; omega, by simp only; omega⟩
  · exact ⟨by simp only; omega, by simp only; omega, by simp only; omega, by simp only; omega, by simp only; omega, by simp only; omega⟩
def perS (s : ES) (k : Int) : Int := (s.sm + max (4 * s.dv) 1 + 2) * 2 ^ (min (max k 0) 6).toNat
theorem ewithin_any (n m : Int) (w : World) (hm : 0 ≤ m) : Calls Try.prog 19 #[.int .i64 n, .int .i64 m] w fun e w' => e = .returned (.int .i64 (min (max n 0) m)) ∧ w = w' := by
  go_enter Try.func19, Try.ntmps19
  go_wp2
  all_goals go_ret
  all_goals exact ⟨ret_int (by omega), rfl⟩
theorem eapart_any (a b : Int) (w : World) (h : 0 ≤ a ∧ a ≤ 4096) (k : 0 ≤ b ∧ b ≤ 4096) : Calls Try.prog 20 #[.int .i64 a, .int .i64 b] w fun e w' => e = .returned (.int .i64 (max (a - b) (b - a))) ∧ w = w' := by
  obtain ⟨h0, h1⟩ := h
  obtain ⟨k0, k1⟩ := k
  go_enter Try.func20, Try.ntmps20
  go_wp2
  all_goals go_ret
  all_goals exact ⟨ret_int (by omega), rfl⟩
theorem enew_any (w : World) : Calls Try.prog 10 #[] w fun e w' => e = .returned (.pointer (some ⟨w.heap.size, 0, none⟩)) ∧ At w' w.heap.size 38 es0.l ∧ Below w.heap.size w w' := by
  have hA := Lib.hid (At.new w 38 es0.l)
  have HB := Lib.hid ((Below.refl _ w).alloc (Nat.le_refl _) (.cells es0.l.toArray 38))
  go_enter Try.func10, Try.ntmps10
  go_wp2
  go_ret
  exact ⟨rfl, hA.out, HB.out⟩
theorem frnew_any (w : World) : Calls Try.prog 16 #[] w fun e w' => e = .returned (.pointer (some ⟨w.heap.size, 0, none⟩)) ∧ At w' w.heap.size 42 es0.l ∧ Below w.heap.size w w' := by
  have hA := Lib.hid (At.new w 42 es0.l)
  have HB := Lib.hid ((Below.refl _ w).alloc (Nat.le_refl _) (.cells es0.l.toArray 42))
  go_enter Try.func16, Try.ntmps16
  go_wp2
  go_ret
  exact ⟨rfl, hA.out, HB.out⟩
section
variable {p : Nat} {s : ES} {w : World}
theorem esm_any (h : At w p 38 s.l) : Calls Try.prog 13 #[.pointer (some ⟨p, 0, none⟩)] w fun e w' => e = .returned (.int .i64 s.sm) ∧ w = w' := by
  have hc : w.cell? ⟨p, 0, none⟩ = some (.int .i64 s.sm) := h.cell 0
  clear h
  go_enter Try.func13, Try.ntmps13
  go_wp2
  go_ret
  exact ⟨rfl, rfl⟩
theorem evar_any (h : At w p 38 s.l) : Calls Try.prog 14 #[.pointer (some ⟨p, 0, none⟩)] w fun e w' => e = .returned (.int .i64 s.dv) ∧ w = w' := by
  have hc : w.cell? ⟨p, 1, none⟩ = some (.int .i64 s.dv) := h.cell 1
  clear h
  go_enter Try.func14, Try.ntmps14
  go_wp2
  go_ret
  exact ⟨rfl, rfl⟩
theorem eleast_any (h : At w p 38 s.l) : Calls Try.prog 12 #[.pointer (some ⟨p, 0, none⟩)] w fun e w' => e = .returned (.tuple #[.int .i64 s.ls, .bool s.has]) ∧ ∃ d, w' = w.drewN d := by
  have hc : w.cell? ⟨p, 2, none⟩ = some (.int .i64 s.ls) := h.cell 2
  have hc2 : w.cell? ⟨p, 3, none⟩ = some (.bool s.has) := h.cell 3
  clear h
  go_enter Try.func12, Try.ntmps12
  go_wp2
  go_quiet (fail)
  go_wp2
  go_ret2
  exact ⟨rfl, _, rfl⟩
theorem eperiod_any (h : At w p 38 s.l) (ok : s.ok) (k : Int) (hk : -9223372036854775808 ≤ k ∧ k < 9223372036854775808) :
    Calls Try.prog 15 #[.pointer (some ⟨p, 0, none⟩), .int .i64 k] w fun e w' => e = .returned (.int .i64 (perS s k)) ∧ ∃ d, w' = w.drewN d := by
  have hc : w.cell? ⟨p, 0, none⟩ = some (.int .i64 s.sm) := h.cell 0
  have hc2 : w.cell? ⟨p, 1, none⟩ = some (.int .i64 s.dv) := h.cell 1
  clear h
  obtain ⟨h0, h1, h2, h3, h4, h5⟩ := ok
  unfold perS
  obtain ⟨kk, hkk⟩ : ∃ x, min (max k 0) 6 = x := ⟨_, rfl⟩
  obtain ⟨sm, dv, ls, has⟩ := s
  simp only at hc hc2 h0 h1 h2 h3 ⊢
  have HW := Lib.hid (fun W => ewithin_any k 6 W (by decide))
  rw [hkk] at HW ⊢
  have hk7 : kk = 0 ∨ kk = 1 ∨ kk = 2 ∨ kk = 3 ∨ kk = 4 ∨ kk = 5 ∨ kk = 6 := by omega
  clear hkk h4 h5
  rcases hk7 with rfl | rfl | rfl | rfl | rfl | rfl | rfl
  all_goals
    go_enter Try.func15, Try.ntmps15
    go_wp2
    go_quiet (fail)
    go_wp2_with (go_at_call 19; refine (HW.out _).mono ?_; rintro e w9 ⟨rfl, rfl⟩)
    all_goals go_ret
    all_goals exact ⟨ret_int (by omega), _, rfl⟩
end
end Go.Proofs.Ytolnadnmnadpoaa
