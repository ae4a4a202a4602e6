/-
  Package cong's Window and the document's: what each call answers of a state, and the state behind it.
-/
import Derived.Test.YtppgffphlmempaaProg
import Derived.Test.YtppgffphlmempaaObj
import Derived.Test.YtppgffphlmempaaInts
import Derived.Deep.QuietTactic
import Derived.BigQuiet
import Derived.WalkSpells
import Derived.Deep.RegionWith
import Derived.Deep.Cut
namespace Go.Proofs.Ytppgffphlmempaa
set_option linter.unusedVariables false
set_option linter.unusedSimpArgs false
open Go.RowKit
/-- What a window knows. -/
structure CS where
  sz : Int
  tp : Int
  sn : Int
def CS.l (s : CS) : List Value := [.int .i64 s.sz, .int .i64 s.tp, .int .i64 s.sn]
structure CS.ok (s : CS) : Prop where
  a0 : 1024 ≤ s.sz
  a1 : s.sz ≤ 1073741824
  t0 : 1024 ≤ s.tp
  t1 : s.tp ≤ 1073741824
def cs0 : CS := ⟨5120, 1073741824, -1⟩
theorem cs0_ok : cs0.ok := ⟨by decide, by decide, by decide, by decide⟩
def clN (n : Int) : Int := min (max n 0) 512
theorem clN_bd (n : Int) : 0 ≤ clN n ∧ clN n ≤ 512 := by unfold clN; omega
def moreS (s : CS) (n : Int) : Int := if s.sz < s.tp then clN n else 512 * clN n / s.sz
theorem moreS_bd {s : CS} (h : s.ok) (n : Int) : 0 ≤ moreS s n ∧ moreS s n ≤ 512 := by
  have hb := clN_bd n
  have h0 := h.a0
  unfold moreS
  split
  · exact hb
  · refine ⟨Int.ediv_nonneg (by omega) (by omega), ?_⟩
    have : 512 * clN n / s.sz ≤ clN n := by
      refine Int.le_of_lt_add_one (Int.ediv_lt_of_lt_mul (by omega) ?_)
      have := Int.mul_le_mul_of_nonneg_right (show (1024 : Int) ≤ s.sz by omega) (show 0 ≤ clN n + 1 by omega)
      rw [Int.mul_comm s.sz] at this
      omega
    omega
def ackS (s : CS) (n t : Int) : CS := if t ≤ s.sn then s else ⟨min (s.sz + moreS s n) 1073741824, s.tp, s.sn⟩
def lostS (s : CS) (t now : Int) : CS := if t ≤ s.sn then s else ⟨max (s.sz / 2) 1024, max (s.sz / 2) 1024, now⟩
def perS (s : CS) : CS := ⟨1024, s.tp, -1⟩
def mayB (s : CS) (f n : Int) : Bool := decide (0 ≤ f ∧ 0 ≤ n ∧ n ≤ s.sz - f)
theorem ackS_ok {s : CS} (h : s.ok) (n t : Int) : (ackS s n t).ok := by
  have hb := moreS_bd h n
  obtain ⟨h0, h1, h2, h3⟩ := h
  unfold ackS
  split
  · exact ⟨h0, h1, h2, h3⟩
  · exact ⟨by simp only; omega, by simp only; omega, h2, h3⟩
theorem lostS_ok {s : CS} (h : s.ok) (t now : Int) : (lostS s t now).ok := by
  obtain ⟨h0, h1, h2, h3⟩ := h
  unfold lostS
  split
  · exact ⟨h0, h1, h2, h3⟩
  · exact ⟨by simp only; omega, by simp only; omega, by simp only; omega, by simp only; omega⟩
theorem perS_ok {s : CS} (h : s.ok) : (perS s).ok := ⟨by simp [perS], by simp [perS], h.t0, h.t1⟩
theorem gnew_any (w : World) : Calls Try.prog 7 #[] w fun e w' => e = .returned (.pointer (some ⟨w.heap.size, 0, none⟩)) ∧ At w' w.heap.size 36 cs0.l ∧ Below w.heap.size w w' := by
  have hA := Lib.hid (At.new w 36 cs0.l)
  have HB := Lib.hid ((Below.refl _ w).alloc (Nat.le_refl _) (.cells cs0.l.toArray 36))
  go_enter Try.func7, Try.ntmps7
  go_wp2
  go_ret
  exact ⟨rfl, hA.out, HB.out⟩
theorem grnew_any (w : World) : Calls Try.prog 16 #[] w fun e w' => e = .returned (.pointer (some ⟨w.heap.size, 0, none⟩)) ∧ At w' w.heap.size 40 cs0.l ∧ Below w.heap.size w w' := by
  have hA := Lib.hid (At.new w 40 cs0.l)
  have HB := Lib.hid ((Below.refl _ w).alloc (Nat.le_refl _) (.cells cs0.l.toArray 40))
  go_enter Try.func16, Try.ntmps16
  go_wp2
  go_ret
  exact ⟨rfl, hA.out, HB.out⟩
theorem ret_bo {a b : Bool} (h : a = b) : Ending.returned (.bool a) = Ending.returned (.bool b) := by rw [h]
section
variable {p : Nat} {s : CS} {w : World}
theorem gsize_any (h : At w p 36 s.l) : Calls Try.prog 9 #[.pointer (some ⟨p, 0, none⟩)] w fun e w' => e = .returned (.int .i64 s.sz) ∧ w = w' := by
  have hc : w.cell? ⟨p, 0, none⟩ = some (.int .i64 s.sz) := h.cell 0
  clear h
  go_enter Try.func9, Try.ntmps9
  go_wp2
  go_ret
  exact ⟨rfl, rfl⟩
theorem gslow_any (h : At w p 36 s.l) : Calls Try.prog 15 #[.pointer (some ⟨p, 0, none⟩)] w fun e w' => e = .returned (.bool (decide (s.sz < s.tp))) ∧ ∃ d, w' = w.drewN d := by
  have hc : w.cell? ⟨p, 0, none⟩ = some (.int .i64 s.sz) := h.cell 0
  have hc1 : w.cell? ⟨p, 1, none⟩ = some (.int .i64 s.tp) := h.cell 1
  clear h
  go_enter Try.func15, Try.ntmps15
  go_wp2
  go_quiet (fail)
  go_wp2
  go_ret
  exact ⟨rfl, _, rfl⟩
theorem gmay_any (h : At w p 36 s.l) (ok : s.ok) (f n : Int) (hf : -9223372036854775808 ≤ f ∧ f < 9223372036854775808) (hn : -9223372036854775808 ≤ n ∧ n < 9223372036854775808) : Calls Try.prog 20 #[.pointer (some ⟨p, 0, none⟩), .int .i64 f, .int .i64 n] w fun e w' => e = .returned (.bool (mayB s f n)) ∧ w = w' := by
  have hc : w.cell? ⟨p, 0, none⟩ = some (.int .i64 s.sz) := h.cell 0
  obtain ⟨h0, h1, _, _⟩ := ok
  clear h
  unfold mayB
  by_cases hf0 : 0 ≤ f
  · by_cases hn0 : 0 ≤ n
    · go_enter Try.func20, Try.ntmps20
      go_wp2
      all_goals go_ret
      all_goals exact ⟨ret_bo (by first | exact decide_eq_decide.2 (by omega) | (simp; omega)), rfl⟩
    · go_enter Try.func20, Try.ntmps20
      go_wp2
      all_goals go_ret
      all_goals exact ⟨ret_bo (by first | exact decide_eq_decide.2 (by omega) | (simp; omega)), rfl⟩
  · go_enter Try.func20, Try.ntmps20
    go_wp2
    all_goals go_ret
    all_goals exact ⟨ret_bo (by first | exact decide_eq_decide.2 (by omega) | (simp; omega)), rfl⟩
theorem grmay_any (h : At w p 40 s.l) (ok : s.ok) (f n : Int) (hf : -9223372036854775808 ≤ f ∧ f < 9223372036854775808) (hn : -9223372036854775808 ≤ n ∧ n < 9223372036854775808) : Calls Try.prog 21 #[.pointer (some ⟨p, 0, none⟩), .int .i64 f, .int .i64 n] w fun e w' => e = .returned (.bool (mayB s f n)) ∧ w = w' := by
  have hc : w.cell? ⟨p, 0, none⟩ = some (.int .i64 s.sz) := h.cell 0
  obtain ⟨h0, h1, _, _⟩ := ok
  clear h
  unfold mayB
  by_cases hf0 : 0 ≤ f
  · by_cases hn0 : 0 ≤ n
    · by_cases hfs : f ≤ s.sz
      · go_enter Try.func21, Try.ntmps21
        go_wp2
        all_goals go_ret
        all_goals exact ⟨ret_bo (by first | exact decide_eq_decide.2 (by omega) | (simp; omega)), rfl⟩
      · go_enter Try.func21, Try.ntmps21
        go_wp2
        all_goals go_ret
        all_goals exact ⟨ret_bo (by first | exact decide_eq_decide.2 (by omega) | (simp; omega)), rfl⟩
    · go_enter Try.func21, Try.ntmps21
      go_wp2
      all_goals go_ret
      all_goals exact ⟨ret_bo (by first | exact decide_eq_decide.2 (by omega) | (simp; omega)), rfl⟩
  · go_enter Try.func21, Try.ntmps21
    go_wp2
    all_goals go_ret
    all_goals exact ⟨ret_bo (by first | exact decide_eq_decide.2 (by omega) | (simp; omega)), rfl⟩
end
end Go.Proofs.Ytppgffphlmempaa
