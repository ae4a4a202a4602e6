/-
  frame.read, for some first bytes (0, 1, 30, 3, 7, 19, 21, 22, 23, 29, 2, 4, 5, 16, 18, 20, 17, 25).
-/
import Derived.Test.YtkahndjflhgccaaMg
namespace Go.Proofs.Ytkahndjflhgccaa
set_option linter.unusedVariables false
set_option linter.unusedSimpArgs false
open Go.RowKit
set_option maxRecDepth 100000 in
set_option maxHeartbeats 8000000 in
theorem read_GA (p : Nat) (T : TypeId) (P : Nat → Prop) (s0 : St) (w : World) (hr : Rdr w p T P s0) (hP : ∀ b, P b → b ≠ p) (hl : s0.1.length ≤ 100000000000000) (hk : varR s0 = 0 ∨ varR s0 = 1 ∨ varR s0 = 30 ∨ varR s0 = 3 ∨ varR s0 = 7 ∨ varR s0 = 19 ∨ varR s0 = 21 ∨ varR s0 = 22 ∨ varR s0 = 23 ∨ varR s0 = 29 ∨ varR s0 = 2 ∨ varR s0 = 4 ∨ varR s0 = 5 ∨ varR s0 = 16 ∨ varR s0 = 18 ∨ varR s0 = 20 ∨ varR s0 = 17 ∨ varR s0 = 25) :
    Calls Try.prog 43 #[.pointer (some ⟨p, 0, none⟩)] w (ReadPost w p T P s0) := by
  have hr' := hr.mono (P' := fun b => P b ∧ b < w.heap.size) (fun b hb hP => ⟨hP, hb⟩)
  have hP' : ∀ b, (P b ∧ b < w.heap.size) → b ≠ p := fun b hb => hP b hb.1
  have hrA : Rdr (w.alloc (.cells (frL (FN.zero 0) .nil .nil).toArray 31)) p T (fun b => P b ∧ b < w.heap.size) s0 := hr'.kept ((Kept.refl (fun _ => False) w).alloc _) (fun h => h) (fun _ _ h => h)
  have hby := varN_byt s0 hr.byt
  have hvl := varN_le s0
  rcases hk with hk | hk | hk | hk | hk | hk | hk | hk | hk | hk | hk | hk | hk | hk | hk | hk | hk | hk
  focus
    have hd : rdK 0 (varN s0) = some ((FN.zero 0 : FN), [], [], (varN s0)) := rfl
    have HK := Lib.hid hk
    obtain ⟨s1, e_s1⟩ : ∃ x, varN s0 = x := ⟨_, rfl⟩
    rw [e_s1] at hd hby hvl
    have HD1 := Lib.hid e_s1
    have E_s1 := Lib.hid e_s1
    clear e_s1
    have HD := Lib.hid hd
    clear hd hk
    have hbn : (bits BinOp.andNot IntKind.u64 0 7 == 8) = false := by decide
    go_enter Try.func43, Try.ntmps43
    go_wp2_with fail
    refine (var_any p T _ s0 _ hrA hP').mono ?_
    rintro e w1 ⟨rfl, hr1, hk1⟩
    rw [HK.out]
    rw [E_s1.out] at hr1
    have hS := RdSt.start hr hk1 hr1 (frL (FN.zero 0) .nil .nil)
    clear hr1 hk1 hrA
    have hg25 := hS.g25
    have hg5 := hS.g5w
    have hlt5 : w1.heap.size < (w1.alloc (.cells (frL (FN.zero 0) .nil .nil).toArray 31)).heap.size := by simp
    go_wp2_with (first | ((with_reducible refine at_st (x := .tmp 5) ?_); refine st_top _ _ _ (by rfl) _ (by rfl) (by simp) (by rfl) (by rfl) (by rfl) (by rfl) ?_) | fail)
    obtain ⟨m, hm⟩ : ∃ m, (FN.zero 0 : FN) = m := ⟨_, rfl⟩
    have hS := hS.cast (L6 := frL m .nil .nil) (by rw [← hm])
    have hwf : m.wf := by rw [← hm]; exact wf_set (wf_zero 0 (by omega) (by omega)) 0 0 0 0 0 0 0 false (by first | exact z62 | assumption) (by first | exact z62 | assumption) (by first | exact z62 | assumption) (by first | exact z62 | assumption) (by first | exact z62 | assumption) (by first | exact z62 | assumption) (by first | exact z62 | assumption)
    have hFit := hS.fits (Q := fun b => w.heap.size + 1 ≤ b) hwf (InD.nil_ _ _) (InR.nil_ _ _)
    have HD2 : Hid (rdK 0 (varN s0) = some (m, [], [], s1)) := Lib.hid (by rw [HD1.out, HD.out, hm])
    obtain ⟨LF, hLF⟩ : ∃ L, frL m .nil .nil = L := ⟨_, rfl⟩
    have HLl : Hid (LF.length = 19) := Lib.hid (by rw [← hLF]; rfl)
    have HO : Hid (LF.all (·.oneCell') = true) := Lib.hid (by rw [← hLF]; rfl)
    have HFV : Hid (frV m .nil .nil = .agg LF.toArray) := Lib.hid (by rw [← hLF]; rfl)
    have hS := hS.cast hLF
    obtain ⟨dsF, hdsF⟩ : ∃ z : List Int, [] = z := ⟨_, rfl⟩
    rw [hdsF] at hFit HD2
    obtain ⟨rsF, hrsF⟩ : ∃ z : RS, [] = z := ⟨_, rfl⟩
    rw [hrsF] at hFit HD2
    clear hdsF hrsF hm hLF hwf
    obtain ⟨bsF, badF⟩ := s1
  rotate_left
  focus
    have hd : rdK 1 (varN s0) = some ((FN.zero 1 : FN), [], [], (varN s0)) := rfl
    have HK := Lib.hid hk
    obtain ⟨s1, e_s1⟩ : ∃ x, varN s0 = x := ⟨_, rfl⟩
    rw [e_s1] at hd hby hvl
    have HD1 := Lib.hid e_s1
    have E_s1 := Lib.hid e_s1
    clear e_s1
    have HD := Lib.hid hd
    clear hd hk
    have hbn : (bits BinOp.andNot IntKind.u64 1 7 == 8) = false := by decide
    go_enter Try.func43, Try.ntmps43
    go_wp2_with fail
    refine (var_any p T _ s0 _ hrA hP').mono ?_
    rintro e w1 ⟨rfl, hr1, hk1⟩
    rw [HK.out]
    rw [E_s1.out] at hr1
    have hS := RdSt.start hr hk1 hr1 (frL (FN.zero 1) .nil .nil)
    clear hr1 hk1 hrA
    have hg25 := hS.g25
    have hg5 := hS.g5w
    have hlt5 : w1.heap.size < (w1.alloc (.cells (frL (FN.zero 1) .nil .nil).toArray 31)).heap.size := by simp
    go_wp2_with (first | ((with_reducible refine at_st (x := .tmp 5) ?_); refine st_top _ _ _ (by rfl) _ (by rfl) (by simp) (by rfl) (by rfl) (by rfl) (by rfl) ?_) | fail)
    obtain ⟨m, hm⟩ : ∃ m, (FN.zero 1 : FN) = m := ⟨_, rfl⟩
    have hS := hS.cast (L6 := frL m .nil .nil) (by rw [← hm])
    have hwf : m.wf := by rw [← hm]; exact wf_set (wf_zero 1 (by omega) (by omega)) 0 0 0 0 0 0 0 false (by first | exact z62 | assumption) (by first | exact z62 | assumption) (by first | exact z62 | assumption) (by first | exact z62 | assumption) (by first | exact z62 | assumption) (by first | exact z62 | assumption) (by first | exact z62 | assumption)
    have hFit := hS.fits (Q := fun b => w.heap.size + 1 ≤ b) hwf (InD.nil_ _ _) (InR.nil_ _ _)
    have HD2 : Hid (rdK 1 (varN s0) = some (m, [], [], s1)) := Lib.hid (by rw [HD1.out, HD.out, hm])
    obtain ⟨LF, hLF⟩ : ∃ L, frL m .nil .nil = L := ⟨_, rfl⟩
    have HLl : Hid (LF.length = 19) := Lib.hid (by rw [← hLF]; rfl)
    have HO : Hid (LF.all (·.oneCell') = true) := Lib.hid (by rw [← hLF]; rfl)
    have HFV : Hid (frV m .nil .nil = .agg LF.toArray) := Lib.hid (by rw [← hLF]; rfl)
    have hS := hS.cast hLF
    obtain ⟨dsF, hdsF⟩ : ∃ z : List Int, [] = z := ⟨_, rfl⟩
    rw [hdsF] at hFit HD2
    obtain ⟨rsF, hrsF⟩ : ∃ z : RS, [] = z := ⟨_, rfl⟩
    rw [hrsF] at hFit HD2
    clear hdsF hrsF hm hLF hwf
    obtain ⟨bsF, badF⟩ := s1
  rotate_left
  focus
    have hd : rdK 30 (varN s0) = some ((FN.zero 30 : FN), [], [], (varN s0)) := rfl
    have HK := Lib.hid hk
    obtain ⟨s1, e_s1⟩ : ∃ x, varN s0 = x := ⟨_, rfl⟩
    rw [e_s1] at hd hby hvl
    have HD1 := Lib.hid e_s1
    have E_s1 := Lib.hid e_s1
    clear e_s1
    have HD := Lib.hid hd
    clear hd hk
    have hbn : (bits BinOp.andNot IntKind.u64 30 7 == 8) = false := by decide
    go_enter Try.func43, Try.ntmps43
    go_wp2_with fail
    refine (var_any p T _ s0 _ hrA hP').mono ?_
    rintro e w1 ⟨rfl, hr1, hk1⟩
    rw [HK.out]
    rw [E_s1.out] at hr1
    have hS := RdSt.start hr hk1 hr1 (frL (FN.zero 30) .nil .nil)
    clear hr1 hk1 hrA
    have hg25 := hS.g25
    have hg5 := hS.g5w
    have hlt5 : w1.heap.size < (w1.alloc (.cells (frL (FN.zero 30) .nil .nil).toArray 31)).heap.size := by simp
    go_wp2_with (first | ((with_reducible refine at_st (x := .tmp 5) ?_); refine st_top _ _ _ (by rfl) _ (by rfl) (by simp) (by rfl) (by rfl) (by rfl) (by rfl) ?_) | fail)
    obtain ⟨m, hm⟩ : ∃ m, (FN.zero 30 : FN) = m := ⟨_, rfl⟩
    have hS := hS.cast (L6 := frL m .nil .nil) (by rw [← hm])
    have hwf : m.wf := by rw [← hm]; exact wf_set (wf_zero 30 (by omega) (by omega)) 0 0 0 0 0 0 0 false (by first | exact z62 | assumption) (by first | exact z62 | assumption) (by first | exact z62 | assumption) (by first | exact z62 | assumption) (by first | exact z62 | assumption) (by first | exact z62 | assumption) (by first | exact z62 | assumption)
    have hFit := hS.fits (Q := fun b => w.heap.size + 1 ≤ b) hwf (InD.nil_ _ _) (InR.nil_ _ _)
    have HD2 : Hid (rdK 30 (varN s0) = some (m, [], [], s1)) := Lib.hid (by rw [HD1.out, HD.out, hm])
    obtain ⟨LF, hLF⟩ : ∃ L, frL m .nil .nil = L := ⟨_, rfl⟩
    have HLl : Hid (LF.length = 19) := Lib.hid (by rw [← hLF]; rfl)
    have HO : Hid (LF.all (·.oneCell') = true) := Lib.hid (by rw [← hLF]; rfl)
    have HFV : Hid (frV m .nil .nil = .agg LF.toArray) := Lib.hid (by rw [← hLF]; rfl)
    have hS := hS.cast hLF
    obtain ⟨dsF, hdsF⟩ : ∃ z : List Int, [] = z := ⟨_, rfl⟩
    rw [hdsF] at hFit HD2
    obtain ⟨rsF, hrsF⟩ : ∃ z : RS, [] = z := ⟨_, rfl⟩
    rw [hrsF] at hFit HD2
    clear hdsF hrsF hm hLF hwf
    obtain ⟨bsF, badF⟩ := s1
  rotate_left
  focus
    have hd : rdK 3 (varN s0) = some ((FN.zero 3 : FN), [], [], (varN s0)) := rfl
    have HK := Lib.hid hk
    obtain ⟨s1, e_s1⟩ : ∃ x, varN s0 = x := ⟨_, rfl⟩
    rw [e_s1] at hd hby hvl
    have HD1 := Lib.hid e_s1
    have E_s1 := Lib.hid e_s1
    clear e_s1
    have HD := Lib.hid hd
    clear hd hk
    have hbn : (bits BinOp.andNot IntKind.u64 3 7 == 8) = false := by decide
    go_enter Try.func43, Try.ntmps43
    go_wp2_with fail
    refine (var_any p T _ s0 _ hrA hP').mono ?_
    rintro e w1 ⟨rfl, hr1, hk1⟩
    rw [HK.out]
    rw [E_s1.out] at hr1
    have hS := RdSt.start hr hk1 hr1 (frL (FN.zero 3) .nil .nil)
    clear hr1 hk1 hrA
    have hg25 := hS.g25
    have hg5 := hS.g5w
    have hlt5 : w1.heap.size < (w1.alloc (.cells (frL (FN.zero 3) .nil .nil).toArray 31)).heap.size := by simp
    go_wp2_with (first | ((with_reducible refine at_st (x := .tmp 5) ?_); refine st_top _ _ _ (by rfl) _ (by rfl) (by simp) (by rfl) (by rfl) (by rfl) (by rfl) ?_) | fail)
    obtain ⟨m, hm⟩ : ∃ m, (FN.zero 3 : FN) = m := ⟨_, rfl⟩
    have hS := hS.cast (L6 := frL m .nil .nil) (by rw [← hm])
    have hwf : m.wf := by rw [← hm]; exact wf_set (wf_zero 3 (by omega) (by omega)) 0 0 0 0 0 0 0 false (by first | exact z62 | assumption) (by first | exact z62 | assumption) (by first | exact z62 | assumption) (by first | exact z62 | assumption) (by first | exact z62 | assumption) (by first | exact z62 | assumption) (by first | exact z62 | assumption)
    have hFit := hS.fits (Q := fun b => w.heap.size + 1 ≤ b) hwf (InD.nil_ _ _) (InR.nil_ _ _)
    have HD2 : Hid (rdK 3 (varN s0) = some (m, [], [], s1)) := Lib.hid (by rw [HD1.out, HD.out, hm])
    obtain ⟨LF, hLF⟩ : ∃ L, frL m .nil .nil = L := ⟨_, rfl⟩
    have HLl : Hid (LF.length = 19) := Lib.hid (by rw [← hLF]; rfl)
    have HO : Hid (LF.all (·.oneCell') = true) := Lib.hid (by rw [← hLF]; rfl)
    have HFV : Hid (frV m .nil .nil = .agg LF.toArray) := Lib.hid (by rw [← hLF]; rfl)
    have hS := hS.cast hLF
    obtain ⟨dsF, hdsF⟩ : ∃ z : List Int, [] = z := ⟨_, rfl⟩
    rw [hdsF] at hFit HD2
    obtain ⟨rsF, hrsF⟩ : ∃ z : RS, [] = z := ⟨_, rfl⟩
    rw [hrsF] at hFit HD2
    clear hdsF hrsF hm hLF hwf
    obtain ⟨bsF, badF⟩ := s1
  rotate_left
  focus
    have hd : rdK 7 (varN s0) = some ((FN.zero 7 : FN), [], [], (varN s0)) := rfl
    have HK := Lib.hid hk
    obtain ⟨s1, e_s1⟩ : ∃ x, varN s0 = x := ⟨_, rfl⟩
    rw [e_s1] at hd hby hvl
    have HD1 := Lib.hid e_s1
    have E_s1 := Lib.hid e_s1
    clear e_s1
    have HD := Lib.hid hd
    clear hd hk
    have hbn : (bits BinOp.andNot IntKind.u64 7 7 == 8) = false := by decide
    go_enter Try.func43, Try.ntmps43
    go_wp2_with fail
    refine (var_any p T _ s0 _ hrA hP').mono ?_
    rintro e w1 ⟨rfl, hr1, hk1⟩
    rw [HK.out]
    rw [E_s1.out] at hr1
    have hS := RdSt.start hr hk1 hr1 (frL (FN.zero 7) .nil .nil)
    clear hr1 hk1 hrA
    have hg25 := hS.g25
    have hg5 := hS.g5w
    have hlt5 : w1.heap.size < (w1.alloc (.cells (frL (FN.zero 7) .nil .nil).toArray 31)).heap.size := by simp
    go_wp2_with (first | ((with_reducible refine at_st (x := .tmp 5) ?_); refine st_top _ _ _ (by rfl) _ (by rfl) (by simp) (by rfl) (by rfl) (by rfl) (by rfl) ?_) | fail)
    obtain ⟨m, hm⟩ : ∃ m, (FN.zero 7 : FN) = m := ⟨_, rfl⟩
    have hS := hS.cast (L6 := frL m .nil .nil) (by rw [← hm])
    have hwf : m.wf := by rw [← hm]; exact wf_set (wf_zero 7 (by omega) (by omega)) 0 0 0 0 0 0 0 false (by first | exact z62 | assumption) (by first | exact z62 | assumption) (by first | exact z62 | assumption) (by first | exact z62 | assumption) (by first | exact z62 | assumption) (by first | exact z62 | assumption) (by first | exact z62 | assumption)
    have hFit := hS.fits (Q := fun b => w.heap.size + 1 ≤ b) hwf (InD.nil_ _ _) (InR.nil_ _ _)
    have HD2 : Hid (rdK 7 (varN s0) = some (m, [], [], s1)) := Lib.hid (by rw [HD1.out, HD.out, hm])
    obtain ⟨LF, hLF⟩ : ∃ L, frL m .nil .nil = L := ⟨_, rfl⟩
    have HLl : Hid (LF.length = 19) := Lib.hid (by rw [← hLF]; rfl)
    have HO : Hid (LF.all (·.oneCell') = true) := Lib.hid (by rw [← hLF]; rfl)
    have HFV : Hid (frV m .nil .nil = .agg LF.toArray) := Lib.hid (by rw [← hLF]; rfl)
    have hS := hS.cast hLF
    obtain ⟨dsF, hdsF⟩ : ∃ z : List Int, [] = z := ⟨_, rfl⟩
    rw [hdsF] at hFit HD2
    obtain ⟨rsF, hrsF⟩ : ∃ z : RS, [] = z := ⟨_, rfl⟩
    rw [hrsF] at hFit HD2
    clear hdsF hrsF hm hLF hwf
    obtain ⟨bsF, badF⟩ := s1
  rotate_left
  focus
    have hd : rdK 19 (varN s0) = some ((FN.zero 19 : FN), [], [], (varN s0)) := rfl
    have HK := Lib.hid hk
    obtain ⟨s1, e_s1⟩ : ∃ x, varN s0 = x := ⟨_, rfl⟩
    rw [e_s1] at hd hby hvl
    have HD1 := Lib.hid e_s1
    have E_s1 := Lib.hid e_s1
    clear e_s1
    have HD := Lib.hid hd
    clear hd hk
    have hbn : (bits BinOp.andNot IntKind.u64 19 7 == 8) = false := by decide
    go_enter Try.func43, Try.ntmps43
    go_wp2_with fail
    refine (var_any p T _ s0 _ hrA hP').mono ?_
    rintro e w1 ⟨rfl, hr1, hk1⟩
    rw [HK.out]
    rw [E_s1.out] at hr1
    have hS := RdSt.start hr hk1 hr1 (frL (FN.zero 19) .nil .nil)
    clear hr1 hk1 hrA
    have hg25 := hS.g25
    have hg5 := hS.g5w
    have hlt5 : w1.heap.size < (w1.alloc (.cells (frL (FN.zero 19) .nil .nil).toArray 31)).heap.size := by simp
    go_wp2_with (first | ((with_reducible refine at_st (x := .tmp 5) ?_); refine st_top _ _ _ (by rfl) _ (by rfl) (by simp) (by rfl) (by rfl) (by rfl) (by rfl) ?_) | fail)
    obtain ⟨m, hm⟩ : ∃ m, (FN.zero 19 : FN) = m := ⟨_, rfl⟩
    have hS := hS.cast (L6 := frL m .nil .nil) (by rw [← hm])
    have hwf : m.wf := by rw [← hm]; exact wf_set (wf_zero 19 (by omega) (by omega)) 0 0 0 0 0 0 0 false (by first | exact z62 | assumption) (by first | exact z62 | assumption) (by first | exact z62 | assumption) (by first | exact z62 | assumption) (by first | exact z62 | assumption) (by first | exact z62 | assumption) (by first | exact z62 | assumption)
    have hFit := hS.fits (Q := fun b => w.heap.size + 1 ≤ b) hwf (InD.nil_ _ _) (InR.nil_ _ _)
    have HD2 : Hid (rdK 19 (varN s0) = some (m, [], [], s1)) := Lib.hid (by rw [HD1.out, HD.out, hm])
    obtain ⟨LF, hLF⟩ : ∃ L, frL m .nil .nil = L := ⟨_, rfl⟩
    have HLl : Hid (LF.length = 19) := Lib.hid (by rw [← hLF]; rfl)
    have HO : Hid (LF.all (·.oneCell') = true) := Lib.hid (by rw [← hLF]; rfl)
    have HFV : Hid (frV m .nil .nil = .agg LF.toArray) := Lib.hid (by rw [← hLF]; rfl)
    have hS := hS.cast hLF
    obtain ⟨dsF, hdsF⟩ : ∃ z : List Int, [] = z := ⟨_, rfl⟩
    rw [hdsF] at hFit HD2
    obtain ⟨rsF, hrsF⟩ : ∃ z : RS, [] = z := ⟨_, rfl⟩
    rw [hrsF] at hFit HD2
    clear hdsF hrsF hm hLF hwf
    obtain ⟨bsF, badF⟩ := s1
  rotate_left
  focus
    have hd : rdK 21 (varN s0) = some ((FN.zero 21 : FN), [], [], (varN s0)) := rfl
    have HK := Lib.hid hk
    obtain ⟨s1, e_s1⟩ : ∃ x, varN s0 = x := ⟨_, rfl⟩
    rw [e_s1] at hd hby hvl
    have HD1 := Lib.hid e_s1
    have E_s1 := Lib.hid e_s1
    clear e_s1
    have HD := Lib.hid hd
    clear hd hk
    have hbn : (bits BinOp.andNot IntKind.u64 21 7 == 8) = false := by decide
    go_enter Try.func43, Try.ntmps43
    go_wp2_with fail
    refine (var_any p T _ s0 _ hrA hP').mono ?_
    rintro e w1 ⟨rfl, hr1, hk1⟩
    rw [HK.out]
    rw [E_s1.out] at hr1
    have hS := RdSt.start hr hk1 hr1 (frL (FN.zero 21) .nil .nil)
    clear hr1 hk1 hrA
    have hg25 := hS.g25
    have hg5 := hS.g5w
    have hlt5 : w1.heap.size < (w1.alloc (.cells (frL (FN.zero 21) .nil .nil).toArray 31)).heap.size := by simp
    go_wp2_with (first | ((with_reducible refine at_st (x := .tmp 5) ?_); refine st_top _ _ _ (by rfl) _ (by rfl) (by simp) (by rfl) (by rfl) (by rfl) (by rfl) ?_) | fail)
    obtain ⟨m, hm⟩ : ∃ m, (FN.zero 21 : FN) = m := ⟨_, rfl⟩
    have hS := hS.cast (L6 := frL m .nil .nil) (by rw [← hm])
    have hwf : m.wf := by rw [← hm]; exact wf_set (wf_zero 21 (by omega) (by omega)) 0 0 0 0 0 0 0 false (by first | exact z62 | assumption) (by first | exact z62 | assumption) (by first | exact z62 | assumption) (by first | exact z62 | assumption) (by first | exact z62 | assumption) (by first | exact z62 | assumption) (by first | exact z62 | assumption)
    have hFit := hS.fits (Q := fun b => w.heap.size + 1 ≤ b) hwf (InD.nil_ _ _) (InR.nil_ _ _)
    have HD2 : Hid (rdK 21 (varN s0) = some (m, [], [], s1)) := Lib.hid (by rw [HD1.out, HD.out, hm])
    obtain ⟨LF, hLF⟩ : ∃ L, frL m .nil .nil = L := ⟨_, rfl⟩
    have HLl : Hid (LF.length = 19) := Lib.hid (by rw [← hLF]; rfl)
    have HO : Hid (LF.all (·.oneCell') = true) := Lib.hid (by rw [← hLF]; rfl)
    have HFV : Hid (frV m .nil .nil = .agg LF.toArray) := Lib.hid (by rw [← hLF]; rfl)
    have hS := hS.cast hLF
    obtain ⟨dsF, hdsF⟩ : ∃ z : List Int, [] = z := ⟨_, rfl⟩
    rw [hdsF] at hFit HD2
    obtain ⟨rsF, hrsF⟩ : ∃ z : RS, [] = z := ⟨_, rfl⟩
    rw [hrsF] at hFit HD2
    clear hdsF hrsF hm hLF hwf
    obtain ⟨bsF, badF⟩ := s1
  rotate_left
  focus
    have hd : rdK 22 (varN s0) = some ((FN.zero 22 : FN), [], [], (varN s0)) := rfl
    have HK := Lib.hid hk
    obtain ⟨s1, e_s1⟩ : ∃ x, varN s0 = x := ⟨_, rfl⟩
    rw [e_s1] at hd hby hvl
    have HD1 := Lib.hid e_s1
    have E_s1 := Lib.hid e_s1
    clear e_s1
    have HD := Lib.hid hd
    clear hd hk
    have hbn : (bits BinOp.andNot IntKind.u64 22 7 == 8) = false := by decide
    go_enter Try.func43, Try.ntmps43
    go_wp2_with fail
    refine (var_any p T _ s0 _ hrA hP').mono ?_
    rintro e w1 ⟨rfl, hr1, hk1⟩
    rw [HK.out]
    rw [E_s1.out] at hr1
    have hS := RdSt.start hr hk1 hr1 (frL (FN.zero 22) .nil .nil)
    clear hr1 hk1 hrA
    have hg25 := hS.g25
    have hg5 := hS.g5w
    have hlt5 : w1.heap.size < (w1.alloc (.cells (frL (FN.zero 22) .nil .nil).toArray 31)).heap.size := by simp
    go_wp2_with (first | ((with_reducible refine at_st (x := .tmp 5) ?_); refine st_top _ _ _ (by rfl) _ (by rfl) (by simp) (by rfl) (by rfl) (by rfl) (by rfl) ?_) | fail)
    obtain ⟨m, hm⟩ : ∃ m, (FN.zero 22 : FN) = m := ⟨_, rfl⟩
    have hS := hS.cast (L6 := frL m .nil .nil) (by rw [← hm])
    have hwf : m.wf := by rw [← hm]; exact wf_set (wf_zero 22 (by omega) (by omega)) 0 0 0 0 0 0 0 false (by first | exact z62 | assumption) (by first | exact z62 | assumption) (by first | exact z62 | assumption) (by first | exact z62 | assumption) (by first | exact z62 | assumption) (by first | exact z62 | assumption) (by first | exact z62 | assumption)
    have hFit := hS.fits (Q := fun b => w.heap.size + 1 ≤ b) hwf (InD.nil_ _ _) (InR.nil_ _ _)
    have HD2 : Hid (rdK 22 (varN s0) = some (m, [], [], s1)) := Lib.hid (by rw [HD1.out, HD.out, hm])
    obtain ⟨LF, hLF⟩ : ∃ L, frL m .nil .nil = L := ⟨_, rfl⟩
    have HLl : Hid (LF.length = 19) := Lib.hid (by rw [← hLF]; rfl)
    have HO : Hid (LF.all (·.oneCell') = true) := Lib.hid (by rw [← hLF]; rfl)
    have HFV : Hid (frV m .nil .nil = .agg LF.toArray) := Lib.hid (by rw [← hLF]; rfl)
    have hS := hS.cast hLF
    obtain ⟨dsF, hdsF⟩ : ∃ z : List Int, [] = z := ⟨_, rfl⟩
    rw [hdsF] at hFit HD2
    obtain ⟨rsF, hrsF⟩ : ∃ z : RS, [] = z := ⟨_, rfl⟩
    rw [hrsF] at hFit HD2
    clear hdsF hrsF hm hLF hwf
    obtain ⟨bsF, badF⟩ := s1
  rotate_left
  focus
    have hd : rdK 23 (varN s0) = some ((FN.zero 23 : FN), [], [], (varN s0)) := rfl
    have HK := Lib.hid hk
    obtain ⟨s1, e_s1⟩ : ∃ x, varN s0 = x := ⟨_, rfl⟩
    rw [e_s1] at hd hby hvl
    have HD1 := Lib.hid e_s1
    have E_s1 := Lib.hid e_s1
    clear e_s1
    have HD := Lib.hid hd
    clear hd hk
    have hbn : (bits BinOp.andNot IntKind.u64 23 7 == 8) = false := by decide
    go_enter Try.func43, Try.ntmps43
    go_wp2_with fail
    refine (var_any p T _ s0 _ hrA hP').mono ?_
    rintro e w1 ⟨rfl, hr1, hk1⟩
    rw [HK.out]
    rw [E_s1.out] at hr1
    have hS := RdSt.start hr hk1 hr1 (frL (FN.zero 23) .nil .nil)
    clear hr1 hk1 hrA
    have hg25 := hS.g25
    have hg5 := hS.g5w
    have hlt5 : w1.heap.size < (w1.alloc (.cells (frL (FN.zero 23) .nil .nil).toArray 31)).heap.size := by simp
    go_wp2_with (first | ((with_reducible refine at_st (x := .tmp 5) ?_); refine st_top _ _ _ (by rfl) _ (by rfl) (by simp) (by rfl) (by rfl) (by rfl) (by rfl) ?_) | fail)
    obtain ⟨m, hm⟩ : ∃ m, (FN.zero 23 : FN) = m := ⟨_, rfl⟩
    have hS := hS.cast (L6 := frL m .nil .nil) (by rw [← hm])
    have hwf : m.wf := by rw [← hm]; exact wf_set (wf_zero 23 (by omega) (by omega)) 0 0 0 0 0 0 0 false (by first | exact z62 | assumption) (by first | exact z62 | assumption) (by first | exact z62 | assumption) (by first | exact z62 | assumption) (by first | exact z62 | assumption) (by first | exact z62 | assumption) (by first | exact z62 | assumption)
    have hFit := hS.fits (Q := fun b => w.heap.size + 1 ≤ b) hwf (InD.nil_ _ _) (InR.nil_ _ _)
    have HD2 : Hid (rdK 23 (varN s0) = some (m, [], [], s1)) := Lib.hid (by rw [HD1.out, HD.out, hm])
    obtain ⟨LF, hLF⟩ : ∃ L, frL m .nil .nil = L := ⟨_, rfl⟩
    have HLl : Hid (LF.length = 19) := Lib.hid (by rw [← hLF]; rfl)
    have HO : Hid (LF.all (·.oneCell') = true) := Lib.hid (by rw [← hLF]; rfl)
    have HFV : Hid (frV m .nil .nil = .agg LF.toArray) := Lib.hid (by rw [← hLF]; rfl)
    have hS := hS.cast hLF
    obtain ⟨dsF, hdsF⟩ : ∃ z : List Int, [] = z := ⟨_, rfl⟩
    rw [hdsF] at hFit HD2
    obtain ⟨rsF, hrsF⟩ : ∃ z : RS, [] = z := ⟨_, rfl⟩
    rw [hrsF] at hFit HD2
    clear hdsF hrsF hm hLF hwf
    obtain ⟨bsF, badF⟩ := s1
  rotate_left
  focus
    have hd : rdK 29 (varN s0) = some ((FN.zero 29 : FN), [], [], (varN s0)) := rfl
    have HK := Lib.hid hk
    obtain ⟨s1, e_s1⟩ : ∃ x, varN s0 = x := ⟨_, rfl⟩
    rw [e_s1] at hd hby hvl
    have HD1 := Lib.hid e_s1
    have E_s1 := Lib.hid e_s1
    clear e_s1
    have HD := Lib.hid hd
    clear hd hk
    have hbn : (bits BinOp.andNot IntKind.u64 29 7 == 8) = false := by decide
    go_enter Try.func43, Try.ntmps43
    go_wp2_with fail
    refine (var_any p T _ s0 _ hrA hP').mono ?_
    rintro e w1 ⟨rfl, hr1, hk1⟩
    rw [HK.out]
    rw [E_s1.out] at hr1
    have hS := RdSt.start hr hk1 hr1 (frL (FN.zero 29) .nil .nil)
    clear hr1 hk1 hrA
    have hg25 := hS.g25
    have hg5 := hS.g5w
    have hlt5 : w1.heap.size < (w1.alloc (.cells (frL (FN.zero 29) .nil .nil).toArray 31)).heap.size := by simp
    go_wp2_with (first | ((with_reducible refine at_st (x := .tmp 5) ?_); refine st_top _ _ _ (by rfl) _ (by rfl) (by simp) (by rfl) (by rfl) (by rfl) (by rfl) ?_) | fail)
    obtain ⟨m, hm⟩ : ∃ m, (FN.zero 29 : FN) = m := ⟨_, rfl⟩
    have hS := hS.cast (L6 := frL m .nil .nil) (by rw [← hm])
    have hwf : m.wf := by rw [← hm]; exact wf_set (wf_zero 29 (by omega) (by omega)) 0 0 0 0 0 0 0 false (by first | exact z62 | assumption) (by first | exact z62 | assumption) (by first | exact z62 | assumption) (by first | exact z62 | assumption) (by first | exact z62 | assumption) (by first | exact z62 | assumption) (by first | exact z62 | assumption)
    have hFit := hS.fits (Q := fun b => w.heap.size + 1 ≤ b) hwf (InD.nil_ _ _) (InR.nil_ _ _)
    have HD2 : Hid (rdK 29 (varN s0) = some (m, [], [], s1)) := Lib.hid (by rw [HD1.out, HD.out, hm])
    obtain ⟨LF, hLF⟩ : ∃ L, frL m .nil .nil = L := ⟨_, rfl⟩
    have HLl : Hid (LF.length = 19) := Lib.hid (by rw [← hLF]; rfl)
    have HO : Hid (LF.all (·.oneCell') = true) := Lib.hid (by rw [← hLF]; rfl)
    have HFV : Hid (frV m .nil .nil = .agg LF.toArray) := Lib.hid (by rw [← hLF]; rfl)
    have hS := hS.cast hLF
    obtain ⟨dsF, hdsF⟩ : ∃ z : List Int, [] = z := ⟨_, rfl⟩
    rw [hdsF] at hFit HD2
    obtain ⟨rsF, hrsF⟩ : ∃ z : RS, [] = z := ⟨_, rfl⟩
    rw [hrsF] at hFit HD2
    clear hdsF hrsF hm hLF hwf
    obtain ⟨bsF, badF⟩ := s1
  rotate_left
  focus
    have hd : rdK 2 (varN s0) = some (({ FN.zero 2 with y := ((ackR (varN s0)).2.1) } : FN), [], ((ackR (varN s0)).1), ((ackR (varN s0)).2.2)) := rfl
    have HK := Lib.hid hk
    obtain ⟨s1, e_s1⟩ : ∃ x, varN s0 = x := ⟨_, rfl⟩
    rw [e_s1] at hd hby hvl
    have HD1 := Lib.hid e_s1
    have E_s1 := Lib.hid e_s1
    clear e_s1
    obtain ⟨x_y, e_x_y⟩ : ∃ x, (ackR s1).2.1 = x := ⟨_, rfl⟩
    rw [e_x_y] at hd
    have E_x_y := Lib.hid e_x_y
    clear e_x_y
    obtain ⟨R, e_R⟩ : ∃ x, (ackR s1).1 = x := ⟨_, rfl⟩
    rw [e_R] at hd
    have E_R := Lib.hid e_R
    clear e_R
    obtain ⟨s2, e_s2⟩ : ∃ x, (ackR s1).2.2 = x := ⟨_, rfl⟩
    rw [e_s2] at hd
    have E_s2 := Lib.hid e_s2
    clear e_s2
    have HD := Lib.hid hd
    clear hd hk
    have hbn : (bits BinOp.andNot IntKind.u64 2 7 == 8) = false := by decide
    go_enter Try.func43, Try.ntmps43
    go_wp2_with fail
    refine (var_any p T _ s0 _ hrA hP').mono ?_
    rintro e w1 ⟨rfl, hr1, hk1⟩
    rw [HK.out]
    rw [E_s1.out] at hr1
    have hS := RdSt.start hr hk1 hr1 (frL (FN.zero 2) .nil .nil)
    clear hr1 hk1 hrA
    have hg25 := hS.g25
    have hg5 := hS.g5w
    have hlt5 : w1.heap.size < (w1.alloc (.cells (frL (FN.zero 2) .nil .nil).toArray 31)).heap.size := by simp
    go_wp2_with (first | ((with_reducible refine at_st (x := .tmp 5) ?_); refine st_top _ _ _ (by rfl) _ (by rfl) (by simp) (by rfl) (by rfl) (by rfl) (by rfl) ?_) | fail)
    refine (rack_any p T _ s1 _ hS.rd hP').mono ?_
    rintro e w2 ⟨⟨rA, rn, rc⟩, rfl, hIR, hr2, hk2⟩
    rw [E_R.out] at hIR
    rw [E_x_y.out]
    rw [E_s2.out] at hr2
    have hgD := hS.a5.lt
    have hgw := hS.kp.size
    have b_y := ackR_bd s1 (varN_byt _ hby)
    rw [E_x_y.out] at b_y
    have hS := hS.step hr2 hk2
    clear hr2 hk2
    have c_10 := hS.a5.cell 10
    have f_10 := hS.a5.frozen 10
    have c_9 := hS.a5.cell 9
    have f_9 := hS.a5.frozen 9
    simp only [frL, FN.zero, Sl.nil, withC, List.getElem?_cons_succ, List.getElem?_cons_zero, List.set_cons_zero, List.set_cons_succ] at c_10 c_9
    have hKS : Kept (· = w1.heap.size) w2 _ := ((Kept.refl (· = w1.heap.size) w2).setAt 10 (.slice rA rn rc)).setAt 9 (.int .u64 x_y)
    have hS := ((hS).cell 10 (.slice rA rn rc)).cell 9 (.int .u64 x_y)
    have hIR := hIR.after hgD (w.heap.size + 1) (by omega) hKS
    clear hKS
    go_wp2_with fail
    clear c_10 f_10 c_9 f_9
    obtain ⟨m, hm⟩ : ∃ m, ({ FN.zero 2 with y := x_y } : FN) = m := ⟨_, rfl⟩
    have hS := hS.cast (L6 := frL m .nil ⟨rA, rn, rc⟩) (by rw [← hm]; rfl)
    have hwf : m.wf := by rw [← hm]; exact wf_set (wf_zero 2 (by omega) (by omega)) 0 0 0 0 0 0 x_y false (by first | exact z62 | assumption) (by first | exact z62 | assumption) (by first | exact z62 | assumption) (by first | exact z62 | assumption) (by first | exact z62 | assumption) (by first | exact z62 | assumption) (by first | exact z62 | assumption)
    have hFit := hS.fits (Q := fun b => w.heap.size + 1 ≤ b) hwf (InD.nil_ _ _) (hIR)
    have HD2 : Hid (rdK 2 (varN s0) = some (m, [], R, s2)) := Lib.hid (by rw [HD1.out, HD.out, hm])
    obtain ⟨LF, hLF⟩ : ∃ L, frL m .nil ⟨rA, rn, rc⟩ = L := ⟨_, rfl⟩
    have HLl : Hid (LF.length = 19) := Lib.hid (by rw [← hLF]; rfl)
    have HO : Hid (LF.all (·.oneCell') = true) := Lib.hid (by rw [← hLF]; rfl)
    have HFV : Hid (frV m .nil ⟨rA, rn, rc⟩ = .agg LF.toArray) := Lib.hid (by rw [← hLF]; rfl)
    have hS := hS.cast hLF
    obtain ⟨dsF, hdsF⟩ : ∃ z : List Int, [] = z := ⟨_, rfl⟩
    rw [hdsF] at hFit HD2
    obtain ⟨rsF, hrsF⟩ : ∃ z : RS, R = z := ⟨_, rfl⟩
    rw [hrsF] at hFit HD2
    clear hdsF hrsF hm hLF hwf
    obtain ⟨bsF, badF⟩ := s2
  rotate_left
  focus
    have hd : rdK 4 (varN s0) = some (({ FN.zero 4 with s := (varR (varN s0)), c := (varR (varN (varN s0))), f := (varR (varN (varN (varN s0)))) } : FN), [], [], (varN (varN (varN (varN s0))))) := rfl
    have HK := Lib.hid hk
    obtain ⟨s1, e_s1⟩ : ∃ x, varN s0 = x := ⟨_, rfl⟩
    rw [e_s1] at hd hby hvl
    have HD1 := Lib.hid e_s1
    have E_s1 := Lib.hid e_s1
    clear e_s1
    obtain ⟨x_s, e_x_s⟩ : ∃ x, varR s1 = x := ⟨_, rfl⟩
    rw [e_x_s] at hd
    have E_x_s := Lib.hid e_x_s
    clear e_x_s
    obtain ⟨s2, e_s2⟩ : ∃ x, varN s1 = x := ⟨_, rfl⟩
    rw [e_s2] at hd
    have E_s2 := Lib.hid e_s2
    clear e_s2
    obtain ⟨x_c, e_x_c⟩ : ∃ x, varR s2 = x := ⟨_, rfl⟩
    rw [e_x_c] at hd
    have E_x_c := Lib.hid e_x_c
    clear e_x_c
    obtain ⟨s3, e_s3⟩ : ∃ x, varN s2 = x := ⟨_, rfl⟩
    rw [e_s3] at hd
    have E_s3 := Lib.hid e_s3
    clear e_s3
    obtain ⟨x_f, e_x_f⟩ : ∃ x, varR s3 = x := ⟨_, rfl⟩
    rw [e_x_f] at hd
    have E_x_f := Lib.hid e_x_f
    clear e_x_f
    obtain ⟨s4, e_s4⟩ : ∃ x, varN s3 = x := ⟨_, rfl⟩
    rw [e_s4] at hd
    have E_s4 := Lib.hid e_s4
    clear e_s4
    have HD := Lib.hid hd
    clear hd hk
    have hbn : (bits BinOp.andNot IntKind.u64 4 7 == 8) = false := by decide
    go_enter Try.func43, Try.ntmps43
    go_wp2_with fail
    refine (var_any p T _ s0 _ hrA hP').mono ?_
    rintro e w1 ⟨rfl, hr1, hk1⟩
    rw [HK.out]
    rw [E_s1.out] at hr1
    have hS := RdSt.start hr hk1 hr1 (frL (FN.zero 4) .nil .nil)
    clear hr1 hk1 hrA
    have hg25 := hS.g25
    have hg5 := hS.g5w
    have hlt5 : w1.heap.size < (w1.alloc (.cells (frL (FN.zero 4) .nil .nil).toArray 31)).heap.size := by simp
    go_wp2_with (first | ((with_reducible refine at_st (x := .tmp 5) ?_); refine st_top _ _ _ (by rfl) _ (by rfl) (by simp) (by rfl) (by rfl) (by rfl) (by rfl) ?_) | fail)
    refine (var_any p T _ s1 _ hS.rd hP').mono ?_
    rintro e w2 ⟨rfl, hr2, hk2⟩
    have b_s := hS.rd.byt2
    rw [E_x_s.out] at b_s
    rw [E_x_s.out]
    rw [E_s2.out] at hr2
    have vl2 := varN_le s1
    rw [E_s2.out] at vl2
    have hS := hS.step hr2 hk2
    clear hr2 hk2
    go_wp2_with fail
    refine (var_any p T _ s2 _ hS.rd hP').mono ?_
    rintro e w3 ⟨rfl, hr3, hk3⟩
    have b_c := hS.rd.byt2
    rw [E_x_c.out] at b_c
    rw [E_x_c.out]
    rw [E_s3.out] at hr3
    have vl3 := varN_le s2
    rw [E_s3.out] at vl3
    have hS := hS.step hr3 hk3
    clear hr3 hk3
    go_wp2_with fail
    refine (var_any p T _ s3 _ hS.rd hP').mono ?_
    rintro e w4 ⟨rfl, hr4, hk4⟩
    have b_f := hS.rd.byt2
    rw [E_x_f.out] at b_f
    rw [E_x_f.out]
    rw [E_s4.out] at hr4
    have vl4 := varN_le s3
    rw [E_s4.out] at vl4
    have hS := hS.step hr4 hk4
    clear hr4 hk4
    have c_1 := hS.a5.cell 1
    have f_1 := hS.a5.frozen 1
    have c_6 := hS.a5.cell 6
    have f_6 := hS.a5.frozen 6
    have c_7 := hS.a5.cell 7
    have f_7 := hS.a5.frozen 7
    simp only [frL, FN.zero, Sl.nil, withC, List.getElem?_cons_succ, List.getElem?_cons_zero, List.set_cons_zero, List.set_cons_succ] at c_1 c_6 c_7
    have hKS : Kept (· = w1.heap.size) w4 _ := (((Kept.refl (· = w1.heap.size) w4).setAt 1 (.int .u64 x_s)).setAt 6 (.int .u64 x_c)).setAt 7 (.int .u64 x_f)
    have hS := (((hS).cell 1 (.int .u64 x_s)).cell 6 (.int .u64 x_c)).cell 7 (.int .u64 x_f)
    clear hKS
    go_wp2_with fail
    clear c_1 f_1 c_6 f_6 c_7 f_7
    obtain ⟨m, hm⟩ : ∃ m, ({ FN.zero 4 with s := x_s, c := x_c, f := x_f } : FN) = m := ⟨_, rfl⟩
    have hS := hS.cast (L6 := frL m .nil .nil) (by rw [← hm]; rfl)
    have hwf : m.wf := by rw [← hm]; exact wf_set (wf_zero 4 (by omega) (by omega)) x_s 0 0 x_c x_f 0 0 false (by first | exact z62 | assumption) (by first | exact z62 | assumption) (by first | exact z62 | assumption) (by first | exact z62 | assumption) (by first | exact z62 | assumption) (by first | exact z62 | assumption) (by first | exact z62 | assumption)
    have hFit := hS.fits (Q := fun b => w.heap.size + 1 ≤ b) hwf (InD.nil_ _ _) (InR.nil_ _ _)
    have HD2 : Hid (rdK 4 (varN s0) = some (m, [], [], s4)) := Lib.hid (by rw [HD1.out, HD.out, hm])
    obtain ⟨LF, hLF⟩ : ∃ L, frL m .nil .nil = L := ⟨_, rfl⟩
    have HLl : Hid (LF.length = 19) := Lib.hid (by rw [← hLF]; rfl)
    have HO : Hid (LF.all (·.oneCell') = true) := Lib.hid (by rw [← hLF]; rfl)
    have HFV : Hid (frV m .nil .nil = .agg LF.toArray) := Lib.hid (by rw [← hLF]; rfl)
    have hS := hS.cast hLF
    obtain ⟨dsF, hdsF⟩ : ∃ z : List Int, [] = z := ⟨_, rfl⟩
    rw [hdsF] at hFit HD2
    obtain ⟨rsF, hrsF⟩ : ∃ z : RS, [] = z := ⟨_, rfl⟩
    rw [hrsF] at hFit HD2
    clear hdsF hrsF hm hLF hwf
    obtain ⟨bsF, badF⟩ := s4
  rotate_left
  focus
    have hd : rdK 5 (varN s0) = some (({ FN.zero 5 with s := (varR (varN s0)), c := (varR (varN (varN s0))) } : FN), [], [], (varN (varN (varN s0)))) := rfl
    have HK := Lib.hid hk
    obtain ⟨s1, e_s1⟩ : ∃ x, varN s0 = x := ⟨_, rfl⟩
    rw [e_s1] at hd hby hvl
    have HD1 := Lib.hid e_s1
    have E_s1 := Lib.hid e_s1
    clear e_s1
    obtain ⟨x_s, e_x_s⟩ : ∃ x, varR s1 = x := ⟨_, rfl⟩
    rw [e_x_s] at hd
    have E_x_s := Lib.hid e_x_s
    clear e_x_s
    obtain ⟨s2, e_s2⟩ : ∃ x, varN s1 = x := ⟨_, rfl⟩
    rw [e_s2] at hd
    have E_s2 := Lib.hid e_s2
    clear e_s2
    obtain ⟨x_c, e_x_c⟩ : ∃ x, varR s2 = x := ⟨_, rfl⟩
    rw [e_x_c] at hd
    have E_x_c := Lib.hid e_x_c
    clear e_x_c
    obtain ⟨s3, e_s3⟩ : ∃ x, varN s2 = x := ⟨_, rfl⟩
    rw [e_s3] at hd
    have E_s3 := Lib.hid e_s3
    clear e_s3
    have HD := Lib.hid hd
    clear hd hk
    have hbn : (bits BinOp.andNot IntKind.u64 5 7 == 8) = false := by decide
    go_enter Try.func43, Try.ntmps43
    go_wp2_with fail
    refine (var_any p T _ s0 _ hrA hP').mono ?_
    rintro e w1 ⟨rfl, hr1, hk1⟩
    rw [HK.out]
    rw [E_s1.out] at hr1
    have hS := RdSt.start hr hk1 hr1 (frL (FN.zero 5) .nil .nil)
    clear hr1 hk1 hrA
    have hg25 := hS.g25
    have hg5 := hS.g5w
    have hlt5 : w1.heap.size < (w1.alloc (.cells (frL (FN.zero 5) .nil .nil).toArray 31)).heap.size := by simp
    go_wp2_with (first | ((with_reducible refine at_st (x := .tmp 5) ?_); refine st_top _ _ _ (by rfl) _ (by rfl) (by simp) (by rfl) (by rfl) (by rfl) (by rfl) ?_) | fail)
    refine (var_any p T _ s1 _ hS.rd hP').mono ?_
    rintro e w2 ⟨rfl, hr2, hk2⟩
    have b_s := hS.rd.byt2
    rw [E_x_s.out] at b_s
    rw [E_x_s.out]
    rw [E_s2.out] at hr2
    have vl2 := varN_le s1
    rw [E_s2.out] at vl2
    have hS := hS.step hr2 hk2
    clear hr2 hk2
    go_wp2_with fail
    refine (var_any p T _ s2 _ hS.rd hP').mono ?_
    rintro e w3 ⟨rfl, hr3, hk3⟩
    have b_c := hS.rd.byt2
    rw [E_x_c.out] at b_c
    rw [E_x_c.out]
    rw [E_s3.out] at hr3
    have vl3 := varN_le s2
    rw [E_s3.out] at vl3
    have hS := hS.step hr3 hk3
    clear hr3 hk3
    have c_1 := hS.a5.cell 1
    have f_1 := hS.a5.frozen 1
    have c_6 := hS.a5.cell 6
    have f_6 := hS.a5.frozen 6
    simp only [frL, FN.zero, Sl.nil, withC, List.getElem?_cons_succ, List.getElem?_cons_zero, List.set_cons_zero, List.set_cons_succ] at c_1 c_6
    have hKS : Kept (· = w1.heap.size) w3 _ := ((Kept.refl (· = w1.heap.size) w3).setAt 1 (.int .u64 x_s)).setAt 6 (.int .u64 x_c)
    have hS := ((hS).cell 1 (.int .u64 x_s)).cell 6 (.int .u64 x_c)
    clear hKS
    go_wp2_with fail
    clear c_1 f_1 c_6 f_6
    obtain ⟨m, hm⟩ : ∃ m, ({ FN.zero 5 with s := x_s, c := x_c } : FN) = m := ⟨_, rfl⟩
    have hS := hS.cast (L6 := frL m .nil .nil) (by rw [← hm]; rfl)
    have hwf : m.wf := by rw [← hm]; exact wf_set (wf_zero 5 (by omega) (by omega)) x_s 0 0 x_c 0 0 0 false (by first | exact z62 | assumption) (by first | exact z62 | assumption) (by first | exact z62 | assumption) (by first | exact z62 | assumption) (by first | exact z62 | assumption) (by first | exact z62 | assumption) (by first | exact z62 | assumption)
    have hFit := hS.fits (Q := fun b => w.heap.size + 1 ≤ b) hwf (InD.nil_ _ _) (InR.nil_ _ _)
    have HD2 : Hid (rdK 5 (varN s0) = some (m, [], [], s3)) := Lib.hid (by rw [HD1.out, HD.out, hm])
    obtain ⟨LF, hLF⟩ : ∃ L, frL m .nil .nil = L := ⟨_, rfl⟩
    have HLl : Hid (LF.length = 19) := Lib.hid (by rw [← hLF]; rfl)
    have HO : Hid (LF.all (·.oneCell') = true) := Lib.hid (by rw [← hLF]; rfl)
    have HFV : Hid (frV m .nil .nil = .agg LF.toArray) := Lib.hid (by rw [← hLF]; rfl)
    have hS := hS.cast hLF
    obtain ⟨dsF, hdsF⟩ : ∃ z : List Int, [] = z := ⟨_, rfl⟩
    rw [hdsF] at hFit HD2
    obtain ⟨rsF, hrsF⟩ : ∃ z : RS, [] = z := ⟨_, rfl⟩
    rw [hrsF] at hFit HD2
    clear hdsF hrsF hm hLF hwf
    obtain ⟨bsF, badF⟩ := s3
  rotate_left
  focus
    have hd : rdK 16 (varN s0) = some (({ FN.zero 16 with l := (varR (varN s0)) } : FN), [], [], (varN (varN s0))) := rfl
    have HK := Lib.hid hk
    obtain ⟨s1, e_s1⟩ : ∃ x, varN s0 = x := ⟨_, rfl⟩
    rw [e_s1] at hd hby hvl
    have HD1 := Lib.hid e_s1
    have E_s1 := Lib.hid e_s1
    clear e_s1
    obtain ⟨x_l, e_x_l⟩ : ∃ x, varR s1 = x := ⟨_, rfl⟩
    rw [e_x_l] at hd
    have E_x_l := Lib.hid e_x_l
    clear e_x_l
    obtain ⟨s2, e_s2⟩ : ∃ x, varN s1 = x := ⟨_, rfl⟩
    rw [e_s2] at hd
    have E_s2 := Lib.hid e_s2
    clear e_s2
    have HD := Lib.hid hd
    clear hd hk
    have hbn : (bits BinOp.andNot IntKind.u64 16 7 == 8) = false := by decide
    go_enter Try.func43, Try.ntmps43
    go_wp2_with fail
    refine (var_any p T _ s0 _ hrA hP').mono ?_
    rintro e w1 ⟨rfl, hr1, hk1⟩
    rw [HK.out]
    rw [E_s1.out] at hr1
    have hS := RdSt.start hr hk1 hr1 (frL (FN.zero 16) .nil .nil)
    clear hr1 hk1 hrA
    have hg25 := hS.g25
    have hg5 := hS.g5w
    have hlt5 : w1.heap.size < (w1.alloc (.cells (frL (FN.zero 16) .nil .nil).toArray 31)).heap.size := by simp
    go_wp2_with (first | ((with_reducible refine at_st (x := .tmp 5) ?_); refine st_top _ _ _ (by rfl) _ (by rfl) (by simp) (by rfl) (by rfl) (by rfl) (by rfl) ?_) | fail)
    refine (var_any p T _ s1 _ hS.rd hP').mono ?_
    rintro e w2 ⟨rfl, hr2, hk2⟩
    have b_l := hS.rd.byt2
    rw [E_x_l.out] at b_l
    rw [E_x_l.out]
    rw [E_s2.out] at hr2
    have vl2 := varN_le s1
    rw [E_s2.out] at vl2
    have hS := hS.step hr2 hk2
    clear hr2 hk2
    have c_5 := hS.a5.cell 5
    have f_5 := hS.a5.frozen 5
    simp only [frL, FN.zero, Sl.nil, withC, List.getElem?_cons_succ, List.getElem?_cons_zero, List.set_cons_zero, List.set_cons_succ] at c_5
    have hKS : Kept (· = w1.heap.size) w2 _ := (Kept.refl (· = w1.heap.size) w2).setAt 5 (.int .u64 x_l)
    have hS := (hS).cell 5 (.int .u64 x_l)
    clear hKS
    go_wp2_with fail
    clear c_5 f_5
    obtain ⟨m, hm⟩ : ∃ m, ({ FN.zero 16 with l := x_l } : FN) = m := ⟨_, rfl⟩
    have hS := hS.cast (L6 := frL m .nil .nil) (by rw [← hm]; rfl)
    have hwf : m.wf := by rw [← hm]; exact wf_set (wf_zero 16 (by omega) (by omega)) 0 0 x_l 0 0 0 0 false (by first | exact z62 | assumption) (by first | exact z62 | assumption) (by first | exact z62 | assumption) (by first | exact z62 | assumption) (by first | exact z62 | assumption) (by first | exact z62 | assumption) (by first | exact z62 | assumption)
    have hFit := hS.fits (Q := fun b => w.heap.size + 1 ≤ b) hwf (InD.nil_ _ _) (InR.nil_ _ _)
    have HD2 : Hid (rdK 16 (varN s0) = some (m, [], [], s2)) := Lib.hid (by rw [HD1.out, HD.out, hm])
    obtain ⟨LF, hLF⟩ : ∃ L, frL m .nil .nil = L := ⟨_, rfl⟩
    have HLl : Hid (LF.length = 19) := Lib.hid (by rw [← hLF]; rfl)
    have HO : Hid (LF.all (·.oneCell') = true) := Lib.hid (by rw [← hLF]; rfl)
    have HFV : Hid (frV m .nil .nil = .agg LF.toArray) := Lib.hid (by rw [← hLF]; rfl)
    have hS := hS.cast hLF
    obtain ⟨dsF, hdsF⟩ : ∃ z : List Int, [] = z := ⟨_, rfl⟩
    rw [hdsF] at hFit HD2
    obtain ⟨rsF, hrsF⟩ : ∃ z : RS, [] = z := ⟨_, rfl⟩
    rw [hrsF] at hFit HD2
    clear hdsF hrsF hm hLF hwf
    obtain ⟨bsF, badF⟩ := s2
  rotate_left
  focus
    have hd : rdK 18 (varN s0) = some (({ FN.zero 18 with l := (varR (varN s0)) } : FN), [], [], (varN (varN s0))) := rfl
    have HK := Lib.hid hk
    obtain ⟨s1, e_s1⟩ : ∃ x, varN s0 = x := ⟨_, rfl⟩
    rw [e_s1] at hd hby hvl
    have HD1 := Lib.hid e_s1
    have E_s1 := Lib.hid e_s1
    clear e_s1
    obtain ⟨x_l, e_x_l⟩ : ∃ x, varR s1 = x := ⟨_, rfl⟩
    rw [e_x_l] at hd
    have E_x_l := Lib.hid e_x_l
    clear e_x_l
    obtain ⟨s2, e_s2⟩ : ∃ x, varN s1 = x := ⟨_, rfl⟩
    rw [e_s2] at hd
    have E_s2 := Lib.hid e_s2
    clear e_s2
    have HD := Lib.hid hd
    clear hd hk
    have hbn : (bits BinOp.andNot IntKind.u64 18 7 == 8) = false := by decide
    go_enter Try.func43, Try.ntmps43
    go_wp2_with fail
    refine (var_any p T _ s0 _ hrA hP').mono ?_
    rintro e w1 ⟨rfl, hr1, hk1⟩
    rw [HK.out]
    rw [E_s1.out] at hr1
    have hS := RdSt.start hr hk1 hr1 (frL (FN.zero 18) .nil .nil)
    clear hr1 hk1 hrA
    have hg25 := hS.g25
    have hg5 := hS.g5w
    have hlt5 : w1.heap.size < (w1.alloc (.cells (frL (FN.zero 18) .nil .nil).toArray 31)).heap.size := by simp
    go_wp2_with (first | ((with_reducible refine at_st (x := .tmp 5) ?_); refine st_top _ _ _ (by rfl) _ (by rfl) (by simp) (by rfl) (by rfl) (by rfl) (by rfl) ?_) | fail)
    refine (var_any p T _ s1 _ hS.rd hP').mono ?_
    rintro e w2 ⟨rfl, hr2, hk2⟩
    have b_l := hS.rd.byt2
    rw [E_x_l.out] at b_l
    rw [E_x_l.out]
    rw [E_s2.out] at hr2
    have vl2 := varN_le s1
    rw [E_s2.out] at vl2
    have hS := hS.step hr2 hk2
    clear hr2 hk2
    have c_5 := hS.a5.cell 5
    have f_5 := hS.a5.frozen 5
    simp only [frL, FN.zero, Sl.nil, withC, List.getElem?_cons_succ, List.getElem?_cons_zero, List.set_cons_zero, List.set_cons_succ] at c_5
    have hKS : Kept (· = w1.heap.size) w2 _ := (Kept.refl (· = w1.heap.size) w2).setAt 5 (.int .u64 x_l)
    have hS := (hS).cell 5 (.int .u64 x_l)
    clear hKS
    go_wp2_with fail
    clear c_5 f_5
    obtain ⟨m, hm⟩ : ∃ m, ({ FN.zero 18 with l := x_l } : FN) = m := ⟨_, rfl⟩
    have hS := hS.cast (L6 := frL m .nil .nil) (by rw [← hm]; rfl)
    have hwf : m.wf := by rw [← hm]; exact wf_set (wf_zero 18 (by omega) (by omega)) 0 0 x_l 0 0 0 0 false (by first | exact z62 | assumption) (by first | exact z62 | assumption) (by first | exact z62 | assumption) (by first | exact z62 | assumption) (by first | exact z62 | assumption) (by first | exact z62 | assumption) (by first | exact z62 | assumption)
    have hFit := hS.fits (Q := fun b => w.heap.size + 1 ≤ b) hwf (InD.nil_ _ _) (InR.nil_ _ _)
    have HD2 : Hid (rdK 18 (varN s0) = some (m, [], [], s2)) := Lib.hid (by rw [HD1.out, HD.out, hm])
    obtain ⟨LF, hLF⟩ : ∃ L, frL m .nil .nil = L := ⟨_, rfl⟩
    have HLl : Hid (LF.length = 19) := Lib.hid (by rw [← hLF]; rfl)
    have HO : Hid (LF.all (·.oneCell') = true) := Lib.hid (by rw [← hLF]; rfl)
    have HFV : Hid (frV m .nil .nil = .agg LF.toArray) := Lib.hid (by rw [← hLF]; rfl)
    have hS := hS.cast hLF
    obtain ⟨dsF, hdsF⟩ : ∃ z : List Int, [] = z := ⟨_, rfl⟩
    rw [hdsF] at hFit HD2
    obtain ⟨rsF, hrsF⟩ : ∃ z : RS, [] = z := ⟨_, rfl⟩
    rw [hrsF] at hFit HD2
    clear hdsF hrsF hm hLF hwf
    obtain ⟨bsF, badF⟩ := s2
  rotate_left
  focus
    have hd : rdK 20 (varN s0) = some (({ FN.zero 20 with l := (varR (varN s0)) } : FN), [], [], (varN (varN s0))) := rfl
    have HK := Lib.hid hk
    obtain ⟨s1, e_s1⟩ : ∃ x, varN s0 = x := ⟨_, rfl⟩
    rw [e_s1] at hd hby hvl
    have HD1 := Lib.hid e_s1
    have E_s1 := Lib.hid e_s1
    clear e_s1
    obtain ⟨x_l, e_x_l⟩ : ∃ x, varR s1 = x := ⟨_, rfl⟩
    rw [e_x_l] at hd
    have E_x_l := Lib.hid e_x_l
    clear e_x_l
    obtain ⟨s2, e_s2⟩ : ∃ x, varN s1 = x := ⟨_, rfl⟩
    rw [e_s2] at hd
    have E_s2 := Lib.hid e_s2
    clear e_s2
    have HD := Lib.hid hd
    clear hd hk
    have hbn : (bits BinOp.andNot IntKind.u64 20 7 == 8) = false := by decide
    go_enter Try.func43, Try.ntmps43
    go_wp2_with fail
    refine (var_any p T _ s0 _ hrA hP').mono ?_
    rintro e w1 ⟨rfl, hr1, hk1⟩
    rw [HK.out]
    rw [E_s1.out] at hr1
    have hS := RdSt.start hr hk1 hr1 (frL (FN.zero 20) .nil .nil)
    clear hr1 hk1 hrA
    have hg25 := hS.g25
    have hg5 := hS.g5w
    have hlt5 : w1.heap.size < (w1.alloc (.cells (frL (FN.zero 20) .nil .nil).toArray 31)).heap.size := by simp
    go_wp2_with (first | ((with_reducible refine at_st (x := .tmp 5) ?_); refine st_top _ _ _ (by rfl) _ (by rfl) (by simp) (by rfl) (by rfl) (by rfl) (by rfl) ?_) | fail)
    refine (var_any p T _ s1 _ hS.rd hP').mono ?_
    rintro e w2 ⟨rfl, hr2, hk2⟩
    have b_l := hS.rd.byt2
    rw [E_x_l.out] at b_l
    rw [E_x_l.out]
    rw [E_s2.out] at hr2
    have vl2 := varN_le s1
    rw [E_s2.out] at vl2
    have hS := hS.step hr2 hk2
    clear hr2 hk2
    have c_5 := hS.a5.cell 5
    have f_5 := hS.a5.frozen 5
    simp only [frL, FN.zero, Sl.nil, withC, List.getElem?_cons_succ, List.getElem?_cons_zero, List.set_cons_zero, List.set_cons_succ] at c_5
    have hKS : Kept (· = w1.heap.size) w2 _ := (Kept.refl (· = w1.heap.size) w2).setAt 5 (.int .u64 x_l)
    have hS := (hS).cell 5 (.int .u64 x_l)
    clear hKS
    go_wp2_with fail
    clear c_5 f_5
    obtain ⟨m, hm⟩ : ∃ m, ({ FN.zero 20 with l := x_l } : FN) = m := ⟨_, rfl⟩
    have hS := hS.cast (L6 := frL m .nil .nil) (by rw [← hm]; rfl)
    have hwf : m.wf := by rw [← hm]; exact wf_set (wf_zero 20 (by omega) (by omega)) 0 0 x_l 0 0 0 0 false (by first | exact z62 | assumption) (by first | exact z62 | assumption) (by first | exact z62 | assumption) (by first | exact z62 | assumption) (by first | exact z62 | assumption) (by first | exact z62 | assumption) (by first | exact z62 | assumption)
    have hFit := hS.fits (Q := fun b => w.heap.size + 1 ≤ b) hwf (InD.nil_ _ _) (InR.nil_ _ _)
    have HD2 : Hid (rdK 20 (varN s0) = some (m, [], [], s2)) := Lib.hid (by rw [HD1.out, HD.out, hm])
    obtain ⟨LF, hLF⟩ : ∃ L, frL m .nil .nil = L := ⟨_, rfl⟩
    have HLl : Hid (LF.length = 19) := Lib.hid (by rw [← hLF]; rfl)
    have HO : Hid (LF.all (·.oneCell') = true) := Lib.hid (by rw [← hLF]; rfl)
    have HFV : Hid (frV m .nil .nil = .agg LF.toArray) := Lib.hid (by rw [← hLF]; rfl)
    have hS := hS.cast hLF
    obtain ⟨dsF, hdsF⟩ : ∃ z : List Int, [] = z := ⟨_, rfl⟩
    rw [hdsF] at hFit HD2
    obtain ⟨rsF, hrsF⟩ : ∃ z : RS, [] = z := ⟨_, rfl⟩
    rw [hrsF] at hFit HD2
    clear hdsF hrsF hm hLF hwf
    obtain ⟨bsF, badF⟩ := s2
  rotate_left
  focus
    have hd : rdK 17 (varN s0) = some (({ FN.zero 17 with s := (varR (varN s0)), l := (varR (varN (varN s0))) } : FN), [], [], (varN (varN (varN s0)))) := rfl
    have HK := Lib.hid hk
    obtain ⟨s1, e_s1⟩ : ∃ x, varN s0 = x := ⟨_, rfl⟩
    rw [e_s1] at hd hby hvl
    have HD1 := Lib.hid e_s1
    have E_s1 := Lib.hid e_s1
    clear e_s1
    obtain ⟨x_s, e_x_s⟩ : ∃ x, varR s1 = x := ⟨_, rfl⟩
    rw [e_x_s] at hd
    have E_x_s := Lib.hid e_x_s
    clear e_x_s
    obtain ⟨s2, e_s2⟩ : ∃ x, varN s1 = x := ⟨_, rfl⟩
    rw [e_s2] at hd
    have E_s2 := Lib.hid e_s2
    clear e_s2
    obtain ⟨x_l, e_x_l⟩ : ∃ x, varR s2 = x := ⟨_, rfl⟩
    rw [e_x_l] at hd
    have E_x_l := Lib.hid e_x_l
    clear e_x_l
    obtain ⟨s3, e_s3⟩ : ∃ x, varN s2 = x := ⟨_, rfl⟩
    rw [e_s3] at hd
    have E_s3 := Lib.hid e_s3
    clear e_s3
    have HD := Lib.hid hd
    clear hd hk
    have hbn : (bits BinOp.andNot IntKind.u64 17 7 == 8) = false := by decide
    go_enter Try.func43, Try.ntmps43
    go_wp2_with fail
    refine (var_any p T _ s0 _ hrA hP').mono ?_
    rintro e w1 ⟨rfl, hr1, hk1⟩
    rw [HK.out]
    rw [E_s1.out] at hr1
    have hS := RdSt.start hr hk1 hr1 (frL (FN.zero 17) .nil .nil)
    clear hr1 hk1 hrA
    have hg25 := hS.g25
    have hg5 := hS.g5w
    have hlt5 : w1.heap.size < (w1.alloc (.cells (frL (FN.zero 17) .nil .nil).toArray 31)).heap.size := by simp
    go_wp2_with (first | ((with_reducible refine at_st (x := .tmp 5) ?_); refine st_top _ _ _ (by rfl) _ (by rfl) (by simp) (by rfl) (by rfl) (by rfl) (by rfl) ?_) | fail)
    refine (var_any p T _ s1 _ hS.rd hP').mono ?_
    rintro e w2 ⟨rfl, hr2, hk2⟩
    have b_s := hS.rd.byt2
    rw [E_x_s.out] at b_s
    rw [E_x_s.out]
    rw [E_s2.out] at hr2
    have vl2 := varN_le s1
    rw [E_s2.out] at vl2
    have hS := hS.step hr2 hk2
    clear hr2 hk2
    go_wp2_with fail
    refine (var_any p T _ s2 _ hS.rd hP').mono ?_
    rintro e w3 ⟨rfl, hr3, hk3⟩
    have b_l := hS.rd.byt2
    rw [E_x_l.out] at b_l
    rw [E_x_l.out]
    rw [E_s3.out] at hr3
    have vl3 := varN_le s2
    rw [E_s3.out] at vl3
    have hS := hS.step hr3 hk3
    clear hr3 hk3
    have c_1 := hS.a5.cell 1
    have f_1 := hS.a5.frozen 1
    have c_5 := hS.a5.cell 5
    have f_5 := hS.a5.frozen 5
    simp only [frL, FN.zero, Sl.nil, withC, List.getElem?_cons_succ, List.getElem?_cons_zero, List.set_cons_zero, List.set_cons_succ] at c_1 c_5
    have hKS : Kept (· = w1.heap.size) w3 _ := ((Kept.refl (· = w1.heap.size) w3).setAt 1 (.int .u64 x_s)).setAt 5 (.int .u64 x_l)
    have hS := ((hS).cell 1 (.int .u64 x_s)).cell 5 (.int .u64 x_l)
    clear hKS
    go_wp2_with fail
    clear c_1 f_1 c_5 f_5
    obtain ⟨m, hm⟩ : ∃ m, ({ FN.zero 17 with s := x_s, l := x_l } : FN) = m := ⟨_, rfl⟩
    have hS := hS.cast (L6 := frL m .nil .nil) (by rw [← hm]; rfl)
    have hwf : m.wf := by rw [← hm]; exact wf_set (wf_zero 17 (by omega) (by omega)) x_s 0 x_l 0 0 0 0 false (by first | exact z62 | assumption) (by first | exact z62 | assumption) (by first | exact z62 | assumption) (by first | exact z62 | assumption) (by first | exact z62 | assumption) (by first | exact z62 | assumption) (by first | exact z62 | assumption)
    have hFit := hS.fits (Q := fun b => w.heap.size + 1 ≤ b) hwf (InD.nil_ _ _) (InR.nil_ _ _)
    have HD2 : Hid (rdK 17 (varN s0) = some (m, [], [], s3)) := Lib.hid (by rw [HD1.out, HD.out, hm])
    obtain ⟨LF, hLF⟩ : ∃ L, frL m .nil .nil = L := ⟨_, rfl⟩
    have HLl : Hid (LF.length = 19) := Lib.hid (by rw [← hLF]; rfl)
    have HO : Hid (LF.all (·.oneCell') = true) := Lib.hid (by rw [← hLF]; rfl)
    have HFV : Hid (frV m .nil .nil = .agg LF.toArray) := Lib.hid (by rw [← hLF]; rfl)
    have hS := hS.cast hLF
    obtain ⟨dsF, hdsF⟩ : ∃ z : List Int, [] = z := ⟨_, rfl⟩
    rw [hdsF] at hFit HD2
    obtain ⟨rsF, hrsF⟩ : ∃ z : RS, [] = z := ⟨_, rfl⟩
    rw [hrsF] at hFit HD2
    clear hdsF hrsF hm hLF hwf
    obtain ⟨bsF, badF⟩ := s3
  rotate_left
  focus
    have hd : rdK 25 (varN s0) = some (({ FN.zero 25 with q := (varR (varN s0)) } : FN), [], [], (varN (varN s0))) := rfl
    have HK := Lib.hid hk
    obtain ⟨s1, e_s1⟩ : ∃ x, varN s0 = x := ⟨_, rfl⟩
    rw [e_s1] at hd hby hvl
    have HD1 := Lib.hid e_s1
    have E_s1 := Lib.hid e_s1
    clear e_s1
    obtain ⟨x_q, e_x_q⟩ : ∃ x, varR s1 = x := ⟨_, rfl⟩
    rw [e_x_q] at hd
    have E_x_q := Lib.hid e_x_q
    clear e_x_q
    obtain ⟨s2, e_s2⟩ : ∃ x, varN s1 = x := ⟨_, rfl⟩
    rw [e_s2] at hd
    have E_s2 := Lib.hid e_s2
    clear e_s2
    have HD := Lib.hid hd
    clear hd hk
    have hbn : (bits BinOp.andNot IntKind.u64 25 7 == 8) = false := by decide
    go_enter Try.func43, Try.ntmps43
    go_wp2_with fail
    refine (var_any p T _ s0 _ hrA hP').mono ?_
    rintro e w1 ⟨rfl, hr1, hk1⟩
    rw [HK.out]
    rw [E_s1.out] at hr1
    have hS := RdSt.start hr hk1 hr1 (frL (FN.zero 25) .nil .nil)
    clear hr1 hk1 hrA
    have hg25 := hS.g25
    have hg5 := hS.g5w
    have hlt5 : w1.heap.size < (w1.alloc (.cells (frL (FN.zero 25) .nil .nil).toArray 31)).heap.size := by simp
    go_wp2_with (first | ((with_reducible refine at_st (x := .tmp 5) ?_); refine st_top _ _ _ (by rfl) _ (by rfl) (by simp) (by rfl) (by rfl) (by rfl) (by rfl) ?_) | fail)
    refine (var_any p T _ s1 _ hS.rd hP').mono ?_
    rintro e w2 ⟨rfl, hr2, hk2⟩
    have b_q := hS.rd.byt2
    rw [E_x_q.out] at b_q
    rw [E_x_q.out]
    rw [E_s2.out] at hr2
    have vl2 := varN_le s1
    rw [E_s2.out] at vl2
    have hS := hS.step hr2 hk2
    clear hr2 hk2
    have c_8 := hS.a5.cell 8
    have f_8 := hS.a5.frozen 8
    simp only [frL, FN.zero, Sl.nil, withC, List.getElem?_cons_succ, List.getElem?_cons_zero, List.set_cons_zero, List.set_cons_succ] at c_8
    have hKS : Kept (· = w1.heap.size) w2 _ := (Kept.refl (· = w1.heap.size) w2).setAt 8 (.int .u64 x_q)
    have hS := (hS).cell 8 (.int .u64 x_q)
    clear hKS
    go_wp2_with fail
    clear c_8 f_8
    obtain ⟨m, hm⟩ : ∃ m, ({ FN.zero 25 with q := x_q } : FN) = m := ⟨_, rfl⟩
    have hS := hS.cast (L6 := frL m .nil .nil) (by rw [← hm]; rfl)
    have hwf : m.wf := by rw [← hm]; exact wf_set (wf_zero 25 (by omega) (by omega)) 0 0 0 0 0 x_q 0 false (by first | exact z62 | assumption) (by first | exact z62 | assumption) (by first | exact z62 | assumption) (by first | exact z62 | assumption) (by first | exact z62 | assumption) (by first | exact z62 | assumption) (by first | exact z62 | assumption)
    have hFit := hS.fits (Q := fun b => w.heap.size + 1 ≤ b) hwf (InD.nil_ _ _) (InR.nil_ _ _)
    have HD2 : Hid (rdK 25 (varN s0) = some (m, [], [], s2)) := Lib.hid (by rw [HD1.out, HD.out, hm])
    obtain ⟨LF, hLF⟩ : ∃ L, frL m .nil .nil = L := ⟨_, rfl⟩
    have HLl : Hid (LF.length = 19) := Lib.hid (by rw [← hLF]; rfl)
    have HO : Hid (LF.all (·.oneCell') = true) := Lib.hid (by rw [← hLF]; rfl)
    have HFV : Hid (frV m .nil .nil = .agg LF.toArray) := Lib.hid (by rw [← hLF]; rfl)
    have hS := hS.cast hLF
    obtain ⟨dsF, hdsF⟩ : ∃ z : List Int, [] = z := ⟨_, rfl⟩
    rw [hdsF] at hFit HD2
    obtain ⟨rsF, hrsF⟩ : ∃ z : RS, [] = z := ⟨_, rfl⟩
    rw [hrsF] at hFit HD2
    clear hdsF hrsF hm hLF hwf
    obtain ⟨bsF, badF⟩ := s2
  rotate_left
  all_goals
    refine (bad_any p T _ _ _ hS.rd).mono ?_
    rintro e wZ ⟨rfl, hwZ⟩
    rw [hwZ] at hS hFit
    clear hwZ
    cases badF with
    | true =>
      have HNO : Hid (readO s0 = none) := Lib.hid (by rw [readO_of HK.out (by omega) HD2.out]; simp)
      go_wp2_with (first | ((with_reducible refine at_st (x := .tmp 2) ?_); refine st_at _ _ (frL (FN.zero 0) .nil .nil) (by rfl) (by rfl) hS.a2 (by rfl) (by rfl) (by rfl) ?_; intro w9 hA9 hk9) | fail)
      refine bodyPost_ret (results_cell_tmp 2 3 31 (by rfl) _ 31 _ _ _ (by rfl) (by rfl) hA9 Try.underlying31 rfl fr_info) rfl ?_
      exact ReadPost.no HNO.out (hS.out hk9).1
    | false =>
      go_wp2_with (first | ((with_reducible refine at_ld (x := .tmp 5) ?_); refine ld_fr_g _ _ (by rfl) (by rfl) hS.a5 HLl.out ?_) | fail)
      have hrt := right_any _ m _ _ _ _ _ hFit
      rw [HFV.out] at hrt
      refine hrt.mono ?_
      rintro e w8 ⟨rfl, hb8⟩
      clear hrt
      have hS := hS.below hb8
      have hFit := hFit.below hb8
      clear hb8
      obtain ⟨rb, hrb⟩ : ∃ x, rightB m dsF rsF = x := ⟨_, rfl⟩
      rw [hrb]
      have HRO : Hid (readO s0 = if (false : Bool) = false ∧ rb = true then some (m, dsF, rsF, (bsF, false)) else none) := Lib.hid (by rw [readO_of HK.out (by omega) HD2.out, hrb])
      clear hrb
      cases rb with
      | false =>
        have HNO : Hid (readO s0 = none) := Lib.hid (by rw [HRO.out]; simp)
        go_wp2_with (first | ((with_reducible refine at_st (x := .tmp 2) ?_); refine st_at _ _ (frL (FN.zero 0) .nil .nil) (by rfl) (by rfl) hS.a2 (by rfl) (by rfl) (by rfl) ?_; intro w9 hA9 hk9) | fail)
        refine bodyPost_ret (results_cell_tmp 2 3 31 (by rfl) _ 31 _ _ _ (by rfl) (by rfl) hA9 Try.underlying31 rfl fr_info) rfl ?_
        exact ReadPost.no HNO.out (hS.out hk9).1
      | true =>
        have HYES : Hid (readO s0 = some (m, dsF, rsF, (bsF, false))) := Lib.hid (by rw [HRO.out]; simp)
        go_wp2_with (first | ((with_reducible refine at_ld (x := .tmp 5) ?_); refine ld_fr_g _ _ (by rfl) (by rfl) hS.a5 HLl.out ?_) | ((with_reducible refine at_st (x := .tmp 2) ?_); refine st_at _ _ LF (by rfl) (by rfl) hS.a2 (by rfl) HLl.out HO.out ?_; intro w9 hA9 hk9) | fail)
        refine bodyPost_ret (results_cell_tmp 2 3 31 (by rfl) _ 31 _ _ _ (by rfl) (by rfl) hA9 Try.underlying31 rfl (by rw [HLl.out]; exact fr_info)) rfl ?_
        have hfin := ReadPost.yes HYES.out ((hFit.kept hk9 (fun b hb e => by omega)).mono (fun b _ hb => by omega)) (hS.out hk9).2 (hS.out hk9).1
        rw [HFV.out] at hfin
        exact hfin
end Go.Proofs.Ytkahndjflhgccaa
