/-
  frame.read, for some first bytes (6, 28, 8, 9, 10, 11, 12, 13, 14, 15, 24, 26, 27).
-/
import Derived.Test.YtkahndjflhgccaaMg
namespace Go.Proofs.Ytkahndjflhgccaa
set_option linter.unusedVariables false
set_option linter.unusedSimpArgs false
open Go.RowKit
set_option maxRecDepth 100000 in
set_option maxHeartbeats 8000000 in
theorem read_GB (p : Nat) (T : TypeId) (P : Nat → Prop) (s0 : St) (w : World) (hr : Rdr w p T P s0) (hP : ∀ b, P b → b ≠ p) (hl : s0.1.length ≤ 100000000000000) (hk : varR s0 = 6 ∨ varR s0 = 28 ∨ varR s0 = 8 ∨ varR s0 = 9 ∨ varR s0 = 10 ∨ varR s0 = 11 ∨ varR s0 = 12 ∨ varR s0 = 13 ∨ varR s0 = 14 ∨ varR s0 = 15 ∨ varR s0 = 24 ∨ varR s0 = 26 ∨ varR s0 = 27) :
    Calls Try.prog 43 #[.pointer (some ⟨p, 0, none⟩)] w (ReadPost w p T P s0) := by
  have hr' := hr.mono (P' := fun b => P b ∧ b < w.heap.size) (fun b hb hP => ⟨hP, hb⟩)
  have hP' : ∀ b, (P b ∧ b < w.heap.size) → b ≠ p := fun b hb => hP b hb.1
  have hrA : Rdr (w.alloc (.cells (frL (FN.zero 0) .nil .nil).toArray 31)) p T (fun b => P b ∧ b < w.heap.size) s0 := hr'.kept ((Kept.refl (fun _ => False) w).alloc _) (fun h => h) (fun _ _ h => h)
  have hby := varN_byt s0 hr.byt
  have hvl := varN_le s0
  rcases hk with hk | hk | hk | hk | hk | hk | hk | hk | hk | hk | hk | hk | hk
  focus
    have hd : rdK 6 (varN s0) = some (({ FN.zero 6 with o := (varR (varN s0)) } : FN), (textR (varN (varN s0))), [], (textN (varN (varN s0)))) := rfl
    have HK := Lib.hid hk
    obtain ⟨s1, e_s1⟩ : ∃ x, varN s0 = x := ⟨_, rfl⟩
    rw [e_s1] at hd hby hvl
    have HD1 := Lib.hid e_s1
    have E_s1 := Lib.hid e_s1
    clear e_s1
    obtain ⟨x_o, e_x_o⟩ : ∃ x, varR s1 = x := ⟨_, rfl⟩
    rw [e_x_o] at hd
    have E_x_o := Lib.hid e_x_o
    clear e_x_o
    obtain ⟨s2, e_s2⟩ : ∃ x, varN s1 = x := ⟨_, rfl⟩
    rw [e_s2] at hd
    have E_s2 := Lib.hid e_s2
    clear e_s2
    obtain ⟨D, e_D⟩ : ∃ x, textR s2 = x := ⟨_, rfl⟩
    rw [e_D] at hd
    have E_D := Lib.hid e_D
    clear e_D
    obtain ⟨s3, e_s3⟩ : ∃ x, textN s2 = x := ⟨_, rfl⟩
    rw [e_s3] at hd
    have E_s3 := Lib.hid e_s3
    clear e_s3
    have HD := Lib.hid hd
    clear hd hk
    have hbn : (bits BinOp.andNot IntKind.u64 6 7 == 8) = false := by decide
    go_enter Try.func43, Try.ntmps43
    go_wp2_with fail
    refine (var_any p T _ s0 _ hrA hP').mono ?_
    rintro e w1 ⟨rfl, hr1, hk1⟩
    rw [HK.out]
    rw [E_s1.out] at hr1
    have hS := RdSt.start hr hk1 hr1 (frL (FN.zero 6) .nil .nil)
    clear hr1 hk1 hrA
    have hg25 := hS.g25
    have hg5 := hS.g5w
    have hlt5 : w1.heap.size < (w1.alloc (.cells (frL (FN.zero 6) .nil .nil).toArray 31)).heap.size := by simp
    go_wp2_with (first | ((with_reducible refine at_st (x := .tmp 5) ?_); refine st_top _ _ _ (by rfl) _ (by rfl) (by simp) (by rfl) (by rfl) (by rfl) (by rfl) ?_) | fail)
    refine (var_any p T _ s1 _ hS.rd hP').mono ?_
    rintro e w2 ⟨rfl, hr2, hk2⟩
    have b_o := hS.rd.byt2
    rw [E_x_o.out] at b_o
    rw [E_x_o.out]
    rw [E_s2.out] at hr2
    have vl2 := varN_le s1
    rw [E_s2.out] at vl2
    have hS := hS.step hr2 hk2
    clear hr2 hk2
    go_wp2_with fail
    refine (text_any p T _ s2 _ hS.rd hP' (by omega)).mono ?_
    rintro e w3 ⟨vD, rfl, hown, hr3, hk3⟩
    rw [E_D.out] at hown
    rw [E_s3.out] at hr3
    obtain ⟨dA, dn, dc, rfl⟩ := hown.shape
    have hID := hown.inD hown.len_eq
    have hgD := hS.a5.lt
    have hgw := hS.kp.size
    clear hown
    have hS := hS.step hr3 hk3
    clear hr3 hk3
    have c_2 := hS.a5.cell 2
    have f_2 := hS.a5.frozen 2
    have c_3 := hS.a5.cell 3
    have f_3 := hS.a5.frozen 3
    simp only [frL, FN.zero, Sl.nil, withC, List.getElem?_cons_succ, List.getElem?_cons_zero, List.set_cons_zero, List.set_cons_succ] at c_2 c_3
    have hKS : Kept (· = w1.heap.size) w3 _ := ((Kept.refl (· = w1.heap.size) w3).setAt 2 (.int .u64 x_o)).setAt 3 (.slice dA dn dc)
    have hS := ((hS).cell 2 (.int .u64 x_o)).cell 3 (.slice dA dn dc)
    have hID := hID.after hgD (w.heap.size + 1) (by omega) hKS
    clear hKS
    go_wp2_with fail
    clear c_2 f_2 c_3 f_3
    obtain ⟨m, hm⟩ : ∃ m, ({ FN.zero 6 with o := x_o } : FN) = m := ⟨_, rfl⟩
    have hS := hS.cast (L6 := frL m ⟨dA, dn, dc⟩ .nil) (by rw [← hm]; rfl)
    have hwf : m.wf := by rw [← hm]; exact wf_set (wf_zero 6 (by omega) (by omega)) 0 x_o 0 0 0 0 0 false (by first | exact z62 | assumption) (by first | exact z62 | assumption) (by first | exact z62 | assumption) (by first | exact z62 | assumption) (by first | exact z62 | assumption) (by first | exact z62 | assumption) (by first | exact z62 | assumption)
    have hFit := hS.fits (Q := fun b => w.heap.size + 1 ≤ b) hwf (hID) (InR.nil_ _ _)
    have HD2 : Hid (rdK 6 (varN s0) = some (m, D, [], s3)) := Lib.hid (by rw [HD1.out, HD.out, hm])
    obtain ⟨LF, hLF⟩ : ∃ L, frL m ⟨dA, dn, dc⟩ .nil = L := ⟨_, rfl⟩
    have HLl : Hid (LF.length = 19) := Lib.hid (by rw [← hLF]; rfl)
    have HO : Hid (LF.all (·.oneCell') = true) := Lib.hid (by rw [← hLF]; rfl)
    have HFV : Hid (frV m ⟨dA, dn, dc⟩ .nil = .agg LF.toArray) := Lib.hid (by rw [← hLF]; rfl)
    have hS := hS.cast hLF
    obtain ⟨dsF, hdsF⟩ : ∃ z : List Int, D = z := ⟨_, rfl⟩
    rw [hdsF] at hFit HD2
    obtain ⟨rsF, hrsF⟩ : ∃ z : RS, [] = z := ⟨_, rfl⟩
    rw [hrsF] at hFit HD2
    clear hdsF hrsF hm hLF hwf
    obtain ⟨bsF, badF⟩ := s3
  rotate_left
  focus
    have hd : rdK 28 (varN s0) = some (({ FN.zero 28 with c := (varR (varN s0)) } : FN), (textR (varN (varN s0))), [], (textN (varN (varN s0)))) := rfl
    have HK := Lib.hid hk
    obtain ⟨s1, e_s1⟩ : ∃ x, varN s0 = x := ⟨_, rfl⟩
    rw [e_s1] at hd hby hvl
    have HD1 := Lib.hid e_s1
    have E_s1 := Lib.hid e_s1
    clear e_s1
    obtain ⟨x_c, e_x_c⟩ : ∃ x, varR s1 = x := ⟨_, rfl⟩
    rw [e_x_c] at hd
    have E_x_c := Lib.hid e_x_c
    clear e_x_c
    obtain ⟨s2, e_s2⟩ : ∃ x, varN s1 = x := ⟨_, rfl⟩
    rw [e_s2] at hd
    have E_s2 := Lib.hid e_s2
    clear e_s2
    obtain ⟨D, e_D⟩ : ∃ x, textR s2 = x := ⟨_, rfl⟩
    rw [e_D] at hd
    have E_D := Lib.hid e_D
    clear e_D
    obtain ⟨s3, e_s3⟩ : ∃ x, textN s2 = x := ⟨_, rfl⟩
    rw [e_s3] at hd
    have E_s3 := Lib.hid e_s3
    clear e_s3
    have HD := Lib.hid hd
    clear hd hk
    have hbn : (bits BinOp.andNot IntKind.u64 28 7 == 8) = false := by decide
    go_enter Try.func43, Try.ntmps43
    go_wp2_with fail
    refine (var_any p T _ s0 _ hrA hP').mono ?_
    rintro e w1 ⟨rfl, hr1, hk1⟩
    rw [HK.out]
    rw [E_s1.out] at hr1
    have hS := RdSt.start hr hk1 hr1 (frL (FN.zero 28) .nil .nil)
    clear hr1 hk1 hrA
    have hg25 := hS.g25
    have hg5 := hS.g5w
    have hlt5 : w1.heap.size < (w1.alloc (.cells (frL (FN.zero 28) .nil .nil).toArray 31)).heap.size := by simp
    go_wp2_with (first | ((with_reducible refine at_st (x := .tmp 5) ?_); refine st_top _ _ _ (by rfl) _ (by rfl) (by simp) (by rfl) (by rfl) (by rfl) (by rfl) ?_) | fail)
    refine (var_any p T _ s1 _ hS.rd hP').mono ?_
    rintro e w2 ⟨rfl, hr2, hk2⟩
    have b_c := hS.rd.byt2
    rw [E_x_c.out] at b_c
    rw [E_x_c.out]
    rw [E_s2.out] at hr2
    have vl2 := varN_le s1
    rw [E_s2.out] at vl2
    have hS := hS.step hr2 hk2
    clear hr2 hk2
    go_wp2_with fail
    refine (text_any p T _ s2 _ hS.rd hP' (by omega)).mono ?_
    rintro e w3 ⟨vD, rfl, hown, hr3, hk3⟩
    rw [E_D.out] at hown
    rw [E_s3.out] at hr3
    obtain ⟨dA, dn, dc, rfl⟩ := hown.shape
    have hID := hown.inD hown.len_eq
    have hgD := hS.a5.lt
    have hgw := hS.kp.size
    clear hown
    have hS := hS.step hr3 hk3
    clear hr3 hk3
    have c_6 := hS.a5.cell 6
    have f_6 := hS.a5.frozen 6
    have c_3 := hS.a5.cell 3
    have f_3 := hS.a5.frozen 3
    simp only [frL, FN.zero, Sl.nil, withC, List.getElem?_cons_succ, List.getElem?_cons_zero, List.set_cons_zero, List.set_cons_succ] at c_6 c_3
    have hKS : Kept (· = w1.heap.size) w3 _ := ((Kept.refl (· = w1.heap.size) w3).setAt 6 (.int .u64 x_c)).setAt 3 (.slice dA dn dc)
    have hS := ((hS).cell 6 (.int .u64 x_c)).cell 3 (.slice dA dn dc)
    have hID := hID.after hgD (w.heap.size + 1) (by omega) hKS
    clear hKS
    go_wp2_with fail
    clear c_6 f_6 c_3 f_3
    obtain ⟨m, hm⟩ : ∃ m, ({ FN.zero 28 with c := x_c } : FN) = m := ⟨_, rfl⟩
    have hS := hS.cast (L6 := frL m ⟨dA, dn, dc⟩ .nil) (by rw [← hm]; rfl)
    have hwf : m.wf := by rw [← hm]; exact wf_set (wf_zero 28 (by omega) (by omega)) 0 0 0 x_c 0 0 0 false (by first | exact z62 | assumption) (by first | exact z62 | assumption) (by first | exact z62 | assumption) (by first | exact z62 | assumption) (by first | exact z62 | assumption) (by first | exact z62 | assumption) (by first | exact z62 | assumption)
    have hFit := hS.fits (Q := fun b => w.heap.size + 1 ≤ b) hwf (hID) (InR.nil_ _ _)
    have HD2 : Hid (rdK 28 (varN s0) = some (m, D, [], s3)) := Lib.hid (by rw [HD1.out, HD.out, hm])
    obtain ⟨LF, hLF⟩ : ∃ L, frL m ⟨dA, dn, dc⟩ .nil = L := ⟨_, rfl⟩
    have HLl : Hid (LF.length = 19) := Lib.hid (by rw [← hLF]; rfl)
    have HO : Hid (LF.all (·.oneCell') = true) := Lib.hid (by rw [← hLF]; rfl)
    have HFV : Hid (frV m ⟨dA, dn, dc⟩ .nil = .agg LF.toArray) := Lib.hid (by rw [← hLF]; rfl)
    have hS := hS.cast hLF
    obtain ⟨dsF, hdsF⟩ : ∃ z : List Int, D = z := ⟨_, rfl⟩
    rw [hdsF] at hFit HD2
    obtain ⟨rsF, hrsF⟩ : ∃ z : RS, [] = z := ⟨_, rfl⟩
    rw [hrsF] at hFit HD2
    clear hdsF hrsF hm hLF hwf
    obtain ⟨bsF, badF⟩ := s3
  rotate_left
  focus
    have hd : rdK 8 (varN s0) = some (({ FN.zero 8 with s := (varR (varN s0)), o := 0, fin := false } : FN), (dataR (varN (varN s0)) false), [], (dataN (varN (varN s0)) false)) := rfl
    have HK := Lib.hid hk
    obtain ⟨s1, e_s1⟩ : ∃ x, varN s0 = x := ⟨_, rfl⟩
    rw [e_s1] at hd hby hvl
    have HD1 := Lib.hid e_s1
    have E_s1 := Lib.hid e_s1
    clear e_s1
    obtain ⟨x_s, e_x_s⟩ : ∃ x, varR s1 = x := ⟨_, rfl⟩
    rw [e_x_s] at hd
    have E_x_s := Lib.hid e_x_s
    clear e_x_s
    obtain ⟨s2, e_s2⟩ : ∃ x, varN s1 = x := ⟨_, rfl⟩
    rw [e_s2] at hd
    have E_s2 := Lib.hid e_s2
    clear e_s2
    obtain ⟨D, e_D⟩ : ∃ x, dataR s2 false = x := ⟨_, rfl⟩
    rw [e_D] at hd
    have E_D := Lib.hid e_D
    clear e_D
    obtain ⟨s3, e_s3⟩ : ∃ x, dataN s2 false = x := ⟨_, rfl⟩
    rw [e_s3] at hd
    have E_s3 := Lib.hid e_s3
    clear e_s3
    have HD := Lib.hid hd
    clear hd hk
    have hbn : (bits BinOp.andNot IntKind.u64 8 7 == 8) = true := by decide
    go_enter Try.func43, Try.ntmps43
    go_wp2_with fail
    refine (var_any p T _ s0 _ hrA hP').mono ?_
    rintro e w1 ⟨rfl, hr1, hk1⟩
    rw [HK.out]
    rw [E_s1.out] at hr1
    have hS := RdSt.start hr hk1 hr1 (frL (FN.zero 8) .nil .nil)
    clear hr1 hk1 hrA
    have hg25 := hS.g25
    have hg5 := hS.g5w
    have hlt5 : w1.heap.size < (w1.alloc (.cells (frL (FN.zero 8) .nil .nil).toArray 31)).heap.size := by simp
    go_wp2_with (first | ((with_reducible refine at_st (x := .tmp 5) ?_); refine st_top _ _ _ (by rfl) _ (by rfl) (by simp) (by rfl) (by rfl) (by rfl) (by rfl) ?_) | fail)
    refine (var_any p T _ s1 _ hS.rd hP').mono ?_
    rintro e w2 ⟨rfl, hr2, hk2⟩
    have b_s := hS.rd.byt2
    rw [E_x_s.out] at b_s
    rw [E_x_s.out]
    rw [E_s2.out] at hr2
    have vl2 := varN_le s1
    rw [E_s2.out] at vl2
    have hS := hS.step hr2 hk2
    clear hr2 hk2
    have c_1 := hS.a5.cell 1
    have f_1 := hS.a5.frozen 1
    simp only [frL, FN.zero, Sl.nil, withC, List.getElem?_cons_succ, List.getElem?_cons_zero, List.set_cons_zero, List.set_cons_succ] at c_1
    have hKS : Kept (· = w1.heap.size) w2 _ := (Kept.refl (· = w1.heap.size) w2).setAt 1 (.int .u64 x_s)
    have hS := (hS).cell 1 (.int .u64 x_s)
    clear hKS
    go_wp2_with fail
    clear c_1 f_1
    refine (rdata_any p T _ s2 false _ hS.rd hP' (by omega)).mono ?_
    rintro e w3 ⟨vD, rfl, hown, hr3, hk3⟩
    rw [E_D.out] at hown
    rw [E_s3.out] at hr3
    obtain ⟨dA, dn, dc, rfl⟩ := hown.shape
    have hID := hown.inD hown.len_eq
    have hgD := hS.a5.lt
    have hgw := hS.kp.size
    clear hown
    have hS := hS.step hr3 hk3
    clear hr3 hk3
    have c_3 := hS.a5.cell 3
    have f_3 := hS.a5.frozen 3
    have c_4 := hS.a5.cell 4
    have f_4 := hS.a5.frozen 4
    simp only [frL, FN.zero, Sl.nil, withC, List.getElem?_cons_succ, List.getElem?_cons_zero, List.set_cons_zero, List.set_cons_succ] at c_3 c_4
    have hKS : Kept (· = w1.heap.size) w3 _ := ((Kept.refl (· = w1.heap.size) w3).setAt 3 (.slice dA dn dc)).setAt 4 (.bool false)
    have hS := ((hS).cell 3 (.slice dA dn dc)).cell 4 (.bool false)
    have hID := hID.after hgD (w.heap.size + 1) (by omega) hKS
    clear hKS
    go_wp2_with fail
    clear c_3 f_3 c_4 f_4
    obtain ⟨m, hm⟩ : ∃ m, ({ FN.zero 8 with s := x_s, o := 0, fin := false } : FN) = m := ⟨_, rfl⟩
    have hS := hS.cast (L6 := frL m ⟨dA, dn, dc⟩ .nil) (by rw [← hm]; rfl)
    have hwf : m.wf := by rw [← hm]; exact wf_set (wf_zero 8 (by omega) (by omega)) x_s 0 0 0 0 0 0 false (by first | exact z62 | assumption) (by first | exact z62 | assumption) (by first | exact z62 | assumption) (by first | exact z62 | assumption) (by first | exact z62 | assumption) (by first | exact z62 | assumption) (by first | exact z62 | assumption)
    have hFit := hS.fits (Q := fun b => w.heap.size + 1 ≤ b) hwf (hID) (InR.nil_ _ _)
    have HD2 : Hid (rdK 8 (varN s0) = some (m, D, [], s3)) := Lib.hid (by rw [HD1.out, HD.out, hm])
    obtain ⟨LF, hLF⟩ : ∃ L, frL m ⟨dA, dn, dc⟩ .nil = L := ⟨_, rfl⟩
    have HLl : Hid (LF.length = 19) := Lib.hid (by rw [← hLF]; rfl)
    have HO : Hid (LF.all (·.oneCell') = true) := Lib.hid (by rw [← hLF]; rfl)
    have HFV : Hid (frV m ⟨dA, dn, dc⟩ .nil = .agg LF.toArray) := Lib.hid (by rw [← hLF]; rfl)
    have hS := hS.cast hLF
    obtain ⟨dsF, hdsF⟩ : ∃ z : List Int, D = z := ⟨_, rfl⟩
    rw [hdsF] at hFit HD2
    obtain ⟨rsF, hrsF⟩ : ∃ z : RS, [] = z := ⟨_, rfl⟩
    rw [hrsF] at hFit HD2
    clear hdsF hrsF hm hLF hwf
    obtain ⟨bsF, badF⟩ := s3
  rotate_left
  focus
    have hd : rdK 9 (varN s0) = some (({ FN.zero 8 with s := (varR (varN s0)), o := 0, fin := true } : FN), (dataR (varN (varN s0)) false), [], (dataN (varN (varN s0)) false)) := rfl
    have HK := Lib.hid hk
    obtain ⟨s1, e_s1⟩ : ∃ x, varN s0 = x := ⟨_, rfl⟩
    rw [e_s1] at hd hby hvl
    have HD1 := Lib.hid e_s1
    have E_s1 := Lib.hid e_s1
    clear e_s1
    obtain ⟨x_s, e_x_s⟩ : ∃ x, varR s1 = x := ⟨_, rfl⟩
    rw [e_x_s] at hd
    have E_x_s := Lib.hid e_x_s
    clear e_x_s
    obtain ⟨s2, e_s2⟩ : ∃ x, varN s1 = x := ⟨_, rfl⟩
    rw [e_s2] at hd
    have E_s2 := Lib.hid e_s2
    clear e_s2
    obtain ⟨D, e_D⟩ : ∃ x, dataR s2 false = x := ⟨_, rfl⟩
    rw [e_D] at hd
    have E_D := Lib.hid e_D
    clear e_D
    obtain ⟨s3, e_s3⟩ : ∃ x, dataN s2 false = x := ⟨_, rfl⟩
    rw [e_s3] at hd
    have E_s3 := Lib.hid e_s3
    clear e_s3
    have HD := Lib.hid hd
    clear hd hk
    have hbn : (bits BinOp.andNot IntKind.u64 9 7 == 8) = true := by decide
    go_enter Try.func43, Try.ntmps43
    go_wp2_with fail
    refine (var_any p T _ s0 _ hrA hP').mono ?_
    rintro e w1 ⟨rfl, hr1, hk1⟩
    rw [HK.out]
    rw [E_s1.out] at hr1
    have hS := RdSt.start hr hk1 hr1 (frL (FN.zero 8) .nil .nil)
    clear hr1 hk1 hrA
    have hg25 := hS.g25
    have hg5 := hS.g5w
    have hlt5 : w1.heap.size < (w1.alloc (.cells (frL (FN.zero 8) .nil .nil).toArray 31)).heap.size := by simp
    go_wp2_with (first | ((with_reducible refine at_st (x := .tmp 5) ?_); refine st_top _ _ _ (by rfl) _ (by rfl) (by simp) (by rfl) (by rfl) (by rfl) (by rfl) ?_) | fail)
    refine (var_any p T _ s1 _ hS.rd hP').mono ?_
    rintro e w2 ⟨rfl, hr2, hk2⟩
    have b_s := hS.rd.byt2
    rw [E_x_s.out] at b_s
    rw [E_x_s.out]
    rw [E_s2.out] at hr2
    have vl2 := varN_le s1
    rw [E_s2.out] at vl2
    have hS := hS.step hr2 hk2
    clear hr2 hk2
    have c_1 := hS.a5.cell 1
    have f_1 := hS.a5.frozen 1
    simp only [frL, FN.zero, Sl.nil, withC, List.getElem?_cons_succ, List.getElem?_cons_zero, List.set_cons_zero, List.set_cons_succ] at c_1
    have hKS : Kept (· = w1.heap.size) w2 _ := (Kept.refl (· = w1.heap.size) w2).setAt 1 (.int .u64 x_s)
    have hS := (hS).cell 1 (.int .u64 x_s)
    clear hKS
    go_wp2_with fail
    clear c_1 f_1
    refine (rdata_any p T _ s2 false _ hS.rd hP' (by omega)).mono ?_
    rintro e w3 ⟨vD, rfl, hown, hr3, hk3⟩
    rw [E_D.out] at hown
    rw [E_s3.out] at hr3
    obtain ⟨dA, dn, dc, rfl⟩ := hown.shape
    have hID := hown.inD hown.len_eq
    have hgD := hS.a5.lt
    have hgw := hS.kp.size
    clear hown
    have hS := hS.step hr3 hk3
    clear hr3 hk3
    have c_3 := hS.a5.cell 3
    have f_3 := hS.a5.frozen 3
    have c_4 := hS.a5.cell 4
    have f_4 := hS.a5.frozen 4
    simp only [frL, FN.zero, Sl.nil, withC, List.getElem?_cons_succ, List.getElem?_cons_zero, List.set_cons_zero, List.set_cons_succ] at c_3 c_4
    have hKS : Kept (· = w1.heap.size) w3 _ := ((Kept.refl (· = w1.heap.size) w3).setAt 3 (.slice dA dn dc)).setAt 4 (.bool true)
    have hS := ((hS).cell 3 (.slice dA dn dc)).cell 4 (.bool true)
    have hID := hID.after hgD (w.heap.size + 1) (by omega) hKS
    clear hKS
    go_wp2_with fail
    clear c_3 f_3 c_4 f_4
    obtain ⟨m, hm⟩ : ∃ m, ({ FN.zero 8 with s := x_s, o := 0, fin := true } : FN) = m := ⟨_, rfl⟩
    have hS := hS.cast (L6 := frL m ⟨dA, dn, dc⟩ .nil) (by rw [← hm]; rfl)
    have hwf : m.wf := by rw [← hm]; exact wf_set (wf_zero 8 (by omega) (by omega)) x_s 0 0 0 0 0 0 true (by first | exact z62 | assumption) (by first | exact z62 | assumption) (by first | exact z62 | assumption) (by first | exact z62 | assumption) (by first | exact z62 | assumption) (by first | exact z62 | assumption) (by first | exact z62 | assumption)
    have hFit := hS.fits (Q := fun b => w.heap.size + 1 ≤ b) hwf (hID) (InR.nil_ _ _)
    have HD2 : Hid (rdK 9 (varN s0) = some (m, D, [], s3)) := Lib.hid (by rw [HD1.out, HD.out, hm])
    obtain ⟨LF, hLF⟩ : ∃ L, frL m ⟨dA, dn, dc⟩ .nil = L := ⟨_, rfl⟩
    have HLl : Hid (LF.length = 19) := Lib.hid (by rw [← hLF]; rfl)
    have HO : Hid (LF.all (·.oneCell') = true) := Lib.hid (by rw [← hLF]; rfl)
    have HFV : Hid (frV m ⟨dA, dn, dc⟩ .nil = .agg LF.toArray) := Lib.hid (by rw [← hLF]; rfl)
    have hS := hS.cast hLF
    obtain ⟨dsF, hdsF⟩ : ∃ z : List Int, D = z := ⟨_, rfl⟩
    rw [hdsF] at hFit HD2
    obtain ⟨rsF, hrsF⟩ : ∃ z : RS, [] = z := ⟨_, rfl⟩
    rw [hrsF] at hFit HD2
    clear hdsF hrsF hm hLF hwf
    obtain ⟨bsF, badF⟩ := s3
  rotate_left
  focus
    have hd : rdK 10 (varN s0) = some (({ FN.zero 8 with s := (varR (varN s0)), o := 0, fin := false } : FN), (dataR (varN (varN s0)) true), [], (dataN (varN (varN s0)) true)) := rfl
    have HK := Lib.hid hk
    obtain ⟨s1, e_s1⟩ : ∃ x, varN s0 = x := ⟨_, rfl⟩
    rw [e_s1] at hd hby hvl
    have HD1 := Lib.hid e_s1
    have E_s1 := Lib.hid e_s1
    clear e_s1
    obtain ⟨x_s, e_x_s⟩ : ∃ x, varR s1 = x := ⟨_, rfl⟩
    rw [e_x_s] at hd
    have E_x_s := Lib.hid e_x_s
    clear e_x_s
    obtain ⟨s2, e_s2⟩ : ∃ x, varN s1 = x := ⟨_, rfl⟩
    rw [e_s2] at hd
    have E_s2 := Lib.hid e_s2
    clear e_s2
    obtain ⟨D, e_D⟩ : ∃ x, dataR s2 true = x := ⟨_, rfl⟩
    rw [e_D] at hd
    have E_D := Lib.hid e_D
    clear e_D
    obtain ⟨s3, e_s3⟩ : ∃ x, dataN s2 true = x := ⟨_, rfl⟩
    rw [e_s3] at hd
    have E_s3 := Lib.hid e_s3
    clear e_s3
    have HD := Lib.hid hd
    clear hd hk
    have hbn : (bits BinOp.andNot IntKind.u64 10 7 == 8) = true := by decide
    go_enter Try.func43, Try.ntmps43
    go_wp2_with fail
    refine (var_any p T _ s0 _ hrA hP').mono ?_
    rintro e w1 ⟨rfl, hr1, hk1⟩
    rw [HK.out]
    rw [E_s1.out] at hr1
    have hS := RdSt.start hr hk1 hr1 (frL (FN.zero 8) .nil .nil)
    clear hr1 hk1 hrA
    have hg25 := hS.g25
    have hg5 := hS.g5w
    have hlt5 : w1.heap.size < (w1.alloc (.cells (frL (FN.zero 8) .nil .nil).toArray 31)).heap.size := by simp
    go_wp2_with (first | ((with_reducible refine at_st (x := .tmp 5) ?_); refine st_top _ _ _ (by rfl) _ (by rfl) (by simp) (by rfl) (by rfl) (by rfl) (by rfl) ?_) | fail)
    refine (var_any p T _ s1 _ hS.rd hP').mono ?_
    rintro e w2 ⟨rfl, hr2, hk2⟩
    have b_s := hS.rd.byt2
    rw [E_x_s.out] at b_s
    rw [E_x_s.out]
    rw [E_s2.out] at hr2
    have vl2 := varN_le s1
    rw [E_s2.out] at vl2
    have hS := hS.step hr2 hk2
    clear hr2 hk2
    have c_1 := hS.a5.cell 1
    have f_1 := hS.a5.frozen 1
    simp only [frL, FN.zero, Sl.nil, withC, List.getElem?_cons_succ, List.getElem?_cons_zero, List.set_cons_zero, List.set_cons_succ] at c_1
    have hKS : Kept (· = w1.heap.size) w2 _ := (Kept.refl (· = w1.heap.size) w2).setAt 1 (.int .u64 x_s)
    have hS := (hS).cell 1 (.int .u64 x_s)
    clear hKS
    go_wp2_with fail
    clear c_1 f_1
    refine (rdata_any p T _ s2 true _ hS.rd hP' (by omega)).mono ?_
    rintro e w3 ⟨vD, rfl, hown, hr3, hk3⟩
    rw [E_D.out] at hown
    rw [E_s3.out] at hr3
    obtain ⟨dA, dn, dc, rfl⟩ := hown.shape
    have hID := hown.inD hown.len_eq
    have hgD := hS.a5.lt
    have hgw := hS.kp.size
    clear hown
    have hS := hS.step hr3 hk3
    clear hr3 hk3
    have c_3 := hS.a5.cell 3
    have f_3 := hS.a5.frozen 3
    have c_4 := hS.a5.cell 4
    have f_4 := hS.a5.frozen 4
    simp only [frL, FN.zero, Sl.nil, withC, List.getElem?_cons_succ, List.getElem?_cons_zero, List.set_cons_zero, List.set_cons_succ] at c_3 c_4
    have hKS : Kept (· = w1.heap.size) w3 _ := ((Kept.refl (· = w1.heap.size) w3).setAt 3 (.slice dA dn dc)).setAt 4 (.bool false)
    have hS := ((hS).cell 3 (.slice dA dn dc)).cell 4 (.bool false)
    have hID := hID.after hgD (w.heap.size + 1) (by omega) hKS
    clear hKS
    go_wp2_with fail
    clear c_3 f_3 c_4 f_4
    obtain ⟨m, hm⟩ : ∃ m, ({ FN.zero 8 with s := x_s, o := 0, fin := false } : FN) = m := ⟨_, rfl⟩
    have hS := hS.cast (L6 := frL m ⟨dA, dn, dc⟩ .nil) (by rw [← hm]; rfl)
    have hwf : m.wf := by rw [← hm]; exact wf_set (wf_zero 8 (by omega) (by omega)) x_s 0 0 0 0 0 0 false (by first | exact z62 | assumption) (by first | exact z62 | assumption) (by first | exact z62 | assumption) (by first | exact z62 | assumption) (by first | exact z62 | assumption) (by first | exact z62 | assumption) (by first | exact z62 | assumption)
    have hFit := hS.fits (Q := fun b => w.heap.size + 1 ≤ b) hwf (hID) (InR.nil_ _ _)
    have HD2 : Hid (rdK 10 (varN s0) = some (m, D, [], s3)) := Lib.hid (by rw [HD1.out, HD.out, hm])
    obtain ⟨LF, hLF⟩ : ∃ L, frL m ⟨dA, dn, dc⟩ .nil = L := ⟨_, rfl⟩
    have HLl : Hid (LF.length = 19) := Lib.hid (by rw [← hLF]; rfl)
    have HO : Hid (LF.all (·.oneCell') = true) := Lib.hid (by rw [← hLF]; rfl)
    have HFV : Hid (frV m ⟨dA, dn, dc⟩ .nil = .agg LF.toArray) := Lib.hid (by rw [← hLF]; rfl)
    have hS := hS.cast hLF
    obtain ⟨dsF, hdsF⟩ : ∃ z : List Int, D = z := ⟨_, rfl⟩
    rw [hdsF] at hFit HD2
    obtain ⟨rsF, hrsF⟩ : ∃ z : RS, [] = z := ⟨_, rfl⟩
    rw [hrsF] at hFit HD2
    clear hdsF hrsF hm hLF hwf
    obtain ⟨bsF, badF⟩ := s3
  rotate_left
  focus
    have hd : rdK 11 (varN s0) = some (({ FN.zero 8 with s := (varR (varN s0)), o := 0, fin := true } : FN), (dataR (varN (varN s0)) true), [], (dataN (varN (varN s0)) true)) := rfl
    have HK := Lib.hid hk
    obtain ⟨s1, e_s1⟩ : ∃ x, varN s0 = x := ⟨_, rfl⟩
    rw [e_s1] at hd hby hvl
    have HD1 := Lib.hid e_s1
    have E_s1 := Lib.hid e_s1
    clear e_s1
    obtain ⟨x_s, e_x_s⟩ : ∃ x, varR s1 = x := ⟨_, rfl⟩
    rw [e_x_s] at hd
    have E_x_s := Lib.hid e_x_s
    clear e_x_s
    obtain ⟨s2, e_s2⟩ : ∃ x, varN s1 = x := ⟨_, rfl⟩
    rw [e_s2] at hd
    have E_s2 := Lib.hid e_s2
    clear e_s2
    obtain ⟨D, e_D⟩ : ∃ x, dataR s2 true = x := ⟨_, rfl⟩
    rw [e_D] at hd
    have E_D := Lib.hid e_D
    clear e_D
    obtain ⟨s3, e_s3⟩ : ∃ x, dataN s2 true = x := ⟨_, rfl⟩
    rw [e_s3] at hd
    have E_s3 := Lib.hid e_s3
    clear e_s3
    have HD := Lib.hid hd
    clear hd hk
    have hbn : (bits BinOp.andNot IntKind.u64 11 7 == 8) = true := by decide
    go_enter Try.func43, Try.ntmps43
    go_wp2_with fail
    refine (var_any p T _ s0 _ hrA hP').mono ?_
    rintro e w1 ⟨rfl, hr1, hk1⟩
    rw [HK.out]
    rw [E_s1.out] at hr1
    have hS := RdSt.start hr hk1 hr1 (frL (FN.zero 8) .nil .nil)
    clear hr1 hk1 hrA
    have hg25 := hS.g25
    have hg5 := hS.g5w
    have hlt5 : w1.heap.size < (w1.alloc (.cells (frL (FN.zero 8) .nil .nil).toArray 31)).heap.size := by simp
    go_wp2_with (first | ((with_reducible refine at_st (x := .tmp 5) ?_); refine st_top _ _ _ (by rfl) _ (by rfl) (by simp) (by rfl) (by rfl) (by rfl) (by rfl) ?_) | fail)
    refine (var_any p T _ s1 _ hS.rd hP').mono ?_
    rintro e w2 ⟨rfl, hr2, hk2⟩
    have b_s := hS.rd.byt2
    rw [E_x_s.out] at b_s
    rw [E_x_s.out]
    rw [E_s2.out] at hr2
    have vl2 := varN_le s1
    rw [E_s2.out] at vl2
    have hS := hS.step hr2 hk2
    clear hr2 hk2
    have c_1 := hS.a5.cell 1
    have f_1 := hS.a5.frozen 1
    simp only [frL, FN.zero, Sl.nil, withC, List.getElem?_cons_succ, List.getElem?_cons_zero, List.set_cons_zero, List.set_cons_succ] at c_1
    have hKS : Kept (· = w1.heap.size) w2 _ := (Kept.refl (· = w1.heap.size) w2).setAt 1 (.int .u64 x_s)
    have hS := (hS).cell 1 (.int .u64 x_s)
    clear hKS
    go_wp2_with fail
    clear c_1 f_1
    refine (rdata_any p T _ s2 true _ hS.rd hP' (by omega)).mono ?_
    rintro e w3 ⟨vD, rfl, hown, hr3, hk3⟩
    rw [E_D.out] at hown
    rw [E_s3.out] at hr3
    obtain ⟨dA, dn, dc, rfl⟩ := hown.shape
    have hID := hown.inD hown.len_eq
    have hgD := hS.a5.lt
    have hgw := hS.kp.size
    clear hown
    have hS := hS.step hr3 hk3
    clear hr3 hk3
    have c_3 := hS.a5.cell 3
    have f_3 := hS.a5.frozen 3
    have c_4 := hS.a5.cell 4
    have f_4 := hS.a5.frozen 4
    simp only [frL, FN.zero, Sl.nil, withC, List.getElem?_cons_succ, List.getElem?_cons_zero, List.set_cons_zero, List.set_cons_succ] at c_3 c_4
    have hKS : Kept (· = w1.heap.size) w3 _ := ((Kept.refl (· = w1.heap.size) w3).setAt 3 (.slice dA dn dc)).setAt 4 (.bool true)
    have hS := ((hS).cell 3 (.slice dA dn dc)).cell 4 (.bool true)
    have hID := hID.after hgD (w.heap.size + 1) (by omega) hKS
    clear hKS
    go_wp2_with fail
    clear c_3 f_3 c_4 f_4
    obtain ⟨m, hm⟩ : ∃ m, ({ FN.zero 8 with s := x_s, o := 0, fin := true } : FN) = m := ⟨_, rfl⟩
    have hS := hS.cast (L6 := frL m ⟨dA, dn, dc⟩ .nil) (by rw [← hm]; rfl)
    have hwf : m.wf := by rw [← hm]; exact wf_set (wf_zero 8 (by omega) (by omega)) x_s 0 0 0 0 0 0 true (by first | exact z62 | assumption) (by first | exact z62 | assumption) (by first | exact z62 | assumption) (by first | exact z62 | assumption) (by first | exact z62 | assumption) (by first | exact z62 | assumption) (by first | exact z62 | assumption)
    have hFit := hS.fits (Q := fun b => w.heap.size + 1 ≤ b) hwf (hID) (InR.nil_ _ _)
    have HD2 : Hid (rdK 11 (varN s0) = some (m, D, [], s3)) := Lib.hid (by rw [HD1.out, HD.out, hm])
    obtain ⟨LF, hLF⟩ : ∃ L, frL m ⟨dA, dn, dc⟩ .nil = L := ⟨_, rfl⟩
    have HLl : Hid (LF.length = 19) := Lib.hid (by rw [← hLF]; rfl)
    have HO : Hid (LF.all (·.oneCell') = true) := Lib.hid (by rw [← hLF]; rfl)
    have HFV : Hid (frV m ⟨dA, dn, dc⟩ .nil = .agg LF.toArray) := Lib.hid (by rw [← hLF]; rfl)
    have hS := hS.cast hLF
    obtain ⟨dsF, hdsF⟩ : ∃ z : List Int, D = z := ⟨_, rfl⟩
    rw [hdsF] at hFit HD2
    obtain ⟨rsF, hrsF⟩ : ∃ z : RS, [] = z := ⟨_, rfl⟩
    rw [hrsF] at hFit HD2
    clear hdsF hrsF hm hLF hwf
    obtain ⟨bsF, badF⟩ := s3
  rotate_left
  focus
    have hd : rdK 12 (varN s0) = some (({ FN.zero 8 with s := (varR (varN s0)), o := (varR (varN (varN s0))), fin := false } : FN), (dataR (varN (varN (varN s0))) false), [], (dataN (varN (varN (varN s0))) false)) := rfl
    have HK := Lib.hid hk
    obtain ⟨s1, e_s1⟩ : ∃ x, varN s0 = x := ⟨_, rfl⟩
    rw [e_s1] at hd hby hvl
    have HD1 := Lib.hid e_s1
    have E_s1 := Lib.hid e_s1
    clear e_s1
    obtain ⟨x_s, e_x_s⟩ : ∃ x, varR s1 = x := ⟨_, rfl⟩
    rw [e_x_s] at hd
    have E_x_s := Lib.hid e_x_s
    clear e_x_s
    obtain ⟨s2, e_s2⟩ : ∃ x, varN s1 = x := ⟨_, rfl⟩
    rw [e_s2] at hd
    have E_s2 := Lib.hid e_s2
    clear e_s2
    obtain ⟨x_o, e_x_o⟩ : ∃ x, varR s2 = x := ⟨_, rfl⟩
    rw [e_x_o] at hd
    have E_x_o := Lib.hid e_x_o
    clear e_x_o
    obtain ⟨s3, e_s3⟩ : ∃ x, varN s2 = x := ⟨_, rfl⟩
    rw [e_s3] at hd
    have E_s3 := Lib.hid e_s3
    clear e_s3
    obtain ⟨D, e_D⟩ : ∃ x, dataR s3 false = x := ⟨_, rfl⟩
    rw [e_D] at hd
    have E_D := Lib.hid e_D
    clear e_D
    obtain ⟨s4, e_s4⟩ : ∃ x, dataN s3 false = x := ⟨_, rfl⟩
    rw [e_s4] at hd
    have E_s4 := Lib.hid e_s4
    clear e_s4
    have HD := Lib.hid hd
    clear hd hk
    have hbn : (bits BinOp.andNot IntKind.u64 12 7 == 8) = true := by decide
    go_enter Try.func43, Try.ntmps43
    go_wp2_with fail
    refine (var_any p T _ s0 _ hrA hP').mono ?_
    rintro e w1 ⟨rfl, hr1, hk1⟩
    rw [HK.out]
    rw [E_s1.out] at hr1
    have hS := RdSt.start hr hk1 hr1 (frL (FN.zero 8) .nil .nil)
    clear hr1 hk1 hrA
    have hg25 := hS.g25
    have hg5 := hS.g5w
    have hlt5 : w1.heap.size < (w1.alloc (.cells (frL (FN.zero 8) .nil .nil).toArray 31)).heap.size := by simp
    go_wp2_with (first | ((with_reducible refine at_st (x := .tmp 5) ?_); refine st_top _ _ _ (by rfl) _ (by rfl) (by simp) (by rfl) (by rfl) (by rfl) (by rfl) ?_) | fail)
    refine (var_any p T _ s1 _ hS.rd hP').mono ?_
    rintro e w2 ⟨rfl, hr2, hk2⟩
    have b_s := hS.rd.byt2
    rw [E_x_s.out] at b_s
    rw [E_x_s.out]
    rw [E_s2.out] at hr2
    have vl2 := varN_le s1
    rw [E_s2.out] at vl2
    have hS := hS.step hr2 hk2
    clear hr2 hk2
    have c_1 := hS.a5.cell 1
    have f_1 := hS.a5.frozen 1
    simp only [frL, FN.zero, Sl.nil, withC, List.getElem?_cons_succ, List.getElem?_cons_zero, List.set_cons_zero, List.set_cons_succ] at c_1
    have hKS : Kept (· = w1.heap.size) w2 _ := (Kept.refl (· = w1.heap.size) w2).setAt 1 (.int .u64 x_s)
    have hS := (hS).cell 1 (.int .u64 x_s)
    clear hKS
    go_wp2_with fail
    clear c_1 f_1
    refine (var_any p T _ s2 _ hS.rd hP').mono ?_
    rintro e w3 ⟨rfl, hr3, hk3⟩
    have b_o := hS.rd.byt2
    rw [E_x_o.out] at b_o
    rw [E_x_o.out]
    rw [E_s3.out] at hr3
    have vl3 := varN_le s2
    rw [E_s3.out] at vl3
    have hS := hS.step hr3 hk3
    clear hr3 hk3
    have c_2 := hS.a5.cell 2
    have f_2 := hS.a5.frozen 2
    simp only [frL, FN.zero, Sl.nil, withC, List.getElem?_cons_succ, List.getElem?_cons_zero, List.set_cons_zero, List.set_cons_succ] at c_2
    have hKS : Kept (· = w1.heap.size) w3 _ := (Kept.refl (· = w1.heap.size) w3).setAt 2 (.int .u64 x_o)
    have hS := (hS).cell 2 (.int .u64 x_o)
    clear hKS
    go_wp2_with fail
    clear c_2 f_2
    refine (rdata_any p T _ s3 false _ hS.rd hP' (by omega)).mono ?_
    rintro e w4 ⟨vD, rfl, hown, hr4, hk4⟩
    rw [E_D.out] at hown
    rw [E_s4.out] at hr4
    obtain ⟨dA, dn, dc, rfl⟩ := hown.shape
    have hID := hown.inD hown.len_eq
    have hgD := hS.a5.lt
    have hgw := hS.kp.size
    clear hown
    have hS := hS.step hr4 hk4
    clear hr4 hk4
    have c_3 := hS.a5.cell 3
    have f_3 := hS.a5.frozen 3
    have c_4 := hS.a5.cell 4
    have f_4 := hS.a5.frozen 4
    simp only [frL, FN.zero, Sl.nil, withC, List.getElem?_cons_succ, List.getElem?_cons_zero, List.set_cons_zero, List.set_cons_succ] at c_3 c_4
    have hKS : Kept (· = w1.heap.size) w4 _ := ((Kept.refl (· = w1.heap.size) w4).setAt 3 (.slice dA dn dc)).setAt 4 (.bool false)
    have hS := ((hS).cell 3 (.slice dA dn dc)).cell 4 (.bool false)
    have hID := hID.after hgD (w.heap.size + 1) (by omega) hKS
    clear hKS
    go_wp2_with fail
    clear c_3 f_3 c_4 f_4
    obtain ⟨m, hm⟩ : ∃ m, ({ FN.zero 8 with s := x_s, o := x_o, fin := false } : FN) = m := ⟨_, rfl⟩
    have hS := hS.cast (L6 := frL m ⟨dA, dn, dc⟩ .nil) (by rw [← hm]; rfl)
    have hwf : m.wf := by rw [← hm]; exact wf_set (wf_zero 8 (by omega) (by omega)) x_s x_o 0 0 0 0 0 false (by first | exact z62 | assumption) (by first | exact z62 | assumption) (by first | exact z62 | assumption) (by first | exact z62 | assumption) (by first | exact z62 | assumption) (by first | exact z62 | assumption) (by first | exact z62 | assumption)
    have hFit := hS.fits (Q := fun b => w.heap.size + 1 ≤ b) hwf (hID) (InR.nil_ _ _)
    have HD2 : Hid (rdK 12 (varN s0) = some (m, D, [], s4)) := Lib.hid (by rw [HD1.out, HD.out, hm])
    obtain ⟨LF, hLF⟩ : ∃ L, frL m ⟨dA, dn, dc⟩ .nil = L := ⟨_, rfl⟩
    have HLl : Hid (LF.length = 19) := Lib.hid (by rw [← hLF]; rfl)
    have HO : Hid (LF.all (·.oneCell') = true) := Lib.hid (by rw [← hLF]; rfl)
    have HFV : Hid (frV m ⟨dA, dn, dc⟩ .nil = .agg LF.toArray) := Lib.hid (by rw [← hLF]; rfl)
    have hS := hS.cast hLF
    obtain ⟨dsF, hdsF⟩ : ∃ z : List Int, D = z := ⟨_, rfl⟩
    rw [hdsF] at hFit HD2
    obtain ⟨rsF, hrsF⟩ : ∃ z : RS, [] = z := ⟨_, rfl⟩
    rw [hrsF] at hFit HD2
    clear hdsF hrsF hm hLF hwf
    obtain ⟨bsF, badF⟩ := s4
  rotate_left
  focus
    have hd : rdK 13 (varN s0) = some (({ FN.zero 8 with s := (varR (varN s0)), o := (varR (varN (varN s0))), fin := true } : FN), (dataR (varN (varN (varN s0))) false), [], (dataN (varN (varN (varN s0))) false)) := rfl
    have HK := Lib.hid hk
    obtain ⟨s1, e_s1⟩ : ∃ x, varN s0 = x := ⟨_, rfl⟩
    rw [e_s1] at hd hby hvl
    have HD1 := Lib.hid e_s1
    have E_s1 := Lib.hid e_s1
    clear e_s1
    obtain ⟨x_s, e_x_s⟩ : ∃ x, varR s1 = x := ⟨_, rfl⟩
    rw [e_x_s] at hd
    have E_x_s := Lib.hid e_x_s
    clear e_x_s
    obtain ⟨s2, e_s2⟩ : ∃ x, varN s1 = x := ⟨_, rfl⟩
    rw [e_s2] at hd
    have E_s2 := Lib.hid e_s2
    clear e_s2
    obtain ⟨x_o, e_x_o⟩ : ∃ x, varR s2 = x := ⟨_, rfl⟩
    rw [e_x_o] at hd
    have E_x_o := Lib.hid e_x_o
    clear e_x_o
    obtain ⟨s3, e_s3⟩ : ∃ x, varN s2 = x := ⟨_, rfl⟩
    rw [e_s3] at hd
    have E_s3 := Lib.hid e_s3
    clear e_s3
    obtain ⟨D, e_D⟩ : ∃ x, dataR s3 false = x := ⟨_, rfl⟩
    rw [e_D] at hd
    have E_D := Lib.hid e_D
    clear e_D
    obtain ⟨s4, e_s4⟩ : ∃ x, dataN s3 false = x := ⟨_, rfl⟩
    rw [e_s4] at hd
    have E_s4 := Lib.hid e_s4
    clear e_s4
    have HD := Lib.hid hd
    clear hd hk
    have hbn : (bits BinOp.andNot IntKind.u64 13 7 == 8) = true := by decide
    go_enter Try.func43, Try.ntmps43
    go_wp2_with fail
    refine (var_any p T _ s0 _ hrA hP').mono ?_
    rintro e w1 ⟨rfl, hr1, hk1⟩
    rw [HK.out]
    rw [E_s1.out] at hr1
    have hS := RdSt.start hr hk1 hr1 (frL (FN.zero 8) .nil .nil)
    clear hr1 hk1 hrA
    have hg25 := hS.g25
    have hg5 := hS.g5w
    have hlt5 : w1.heap.size < (w1.alloc (.cells (frL (FN.zero 8) .nil .nil).toArray 31)).heap.size := by simp
    go_wp2_with (first | ((with_reducible refine at_st (x := .tmp 5) ?_); refine st_top _ _ _ (by rfl) _ (by rfl) (by simp) (by rfl) (by rfl) (by rfl) (by rfl) ?_) | fail)
    refine (var_any p T _ s1 _ hS.rd hP').mono ?_
    rintro e w2 ⟨rfl, hr2, hk2⟩
    have b_s := hS.rd.byt2
    rw [E_x_s.out] at b_s
    rw [E_x_s.out]
    rw [E_s2.out] at hr2
    have vl2 := varN_le s1
    rw [E_s2.out] at vl2
    have hS := hS.step hr2 hk2
    clear hr2 hk2
    have c_1 := hS.a5.cell 1
    have f_1 := hS.a5.frozen 1
    simp only [frL, FN.zero, Sl.nil, withC, List.getElem?_cons_succ, List.getElem?_cons_zero, List.set_cons_zero, List.set_cons_succ] at c_1
    have hKS : Kept (· = w1.heap.size) w2 _ := (Kept.refl (· = w1.heap.size) w2).setAt 1 (.int .u64 x_s)
    have hS := (hS).cell 1 (.int .u64 x_s)
    clear hKS
    go_wp2_with fail
    clear c_1 f_1
    refine (var_any p T _ s2 _ hS.rd hP').mono ?_
    rintro e w3 ⟨rfl, hr3, hk3⟩
    have b_o := hS.rd.byt2
    rw [E_x_o.out] at b_o
    rw [E_x_o.out]
    rw [E_s3.out] at hr3
    have vl3 := varN_le s2
    rw [E_s3.out] at vl3
    have hS := hS.step hr3 hk3
    clear hr3 hk3
    have c_2 := hS.a5.cell 2
    have f_2 := hS.a5.frozen 2
    simp only [frL, FN.zero, Sl.nil, withC, List.getElem?_cons_succ, List.getElem?_cons_zero, List.set_cons_zero, List.set_cons_succ] at c_2
    have hKS : Kept (· = w1.heap.size) w3 _ := (Kept.refl (· = w1.heap.size) w3).setAt 2 (.int .u64 x_o)
    have hS := (hS).cell 2 (.int .u64 x_o)
    clear hKS
    go_wp2_with fail
    clear c_2 f_2
    refine (rdata_any p T _ s3 false _ hS.rd hP' (by omega)).mono ?_
    rintro e w4 ⟨vD, rfl, hown, hr4, hk4⟩
    rw [E_D.out] at hown
    rw [E_s4.out] at hr4
    obtain ⟨dA, dn, dc, rfl⟩ := hown.shape
    have hID := hown.inD hown.len_eq
    have hgD := hS.a5.lt
    have hgw := hS.kp.size
    clear hown
    have hS := hS.step hr4 hk4
    clear hr4 hk4
    have c_3 := hS.a5.cell 3
    have f_3 := hS.a5.frozen 3
    have c_4 := hS.a5.cell 4
    have f_4 := hS.a5.frozen 4
    simp only [frL, FN.zero, Sl.nil, withC, List.getElem?_cons_succ, List.getElem?_cons_zero, List.set_cons_zero, List.set_cons_succ] at c_3 c_4
    have hKS : Kept (· = w1.heap.size) w4 _ := ((Kept.refl (· = w1.heap.size) w4).setAt 3 (.slice dA dn dc)).setAt 4 (.bool true)
    have hS := ((hS).cell 3 (.slice dA dn dc)).cell 4 (.bool true)
    have hID := hID.after hgD (w.heap.size + 1) (by omega) hKS
    clear hKS
    go_wp2_with fail
    clear c_3 f_3 c_4 f_4
    obtain ⟨m, hm⟩ : ∃ m, ({ FN.zero 8 with s := x_s, o := x_o, fin := true } : FN) = m := ⟨_, rfl⟩
    have hS := hS.cast (L6 := frL m ⟨dA, dn, dc⟩ .nil) (by rw [← hm]; rfl)
    have hwf : m.wf := by rw [← hm]; exact wf_set (wf_zero 8 (by omega) (by omega)) x_s x_o 0 0 0 0 0 true (by first | exact z62 | assumption) (by first | exact z62 | assumption) (by first | exact z62 | assumption) (by first | exact z62 | assumption) (by first | exact z62 | assumption) (by first | exact z62 | assumption) (by first | exact z62 | assumption)
    have hFit := hS.fits (Q := fun b => w.heap.size + 1 ≤ b) hwf (hID) (InR.nil_ _ _)
    have HD2 : Hid (rdK 13 (varN s0) = some (m, D, [], s4)) := Lib.hid (by rw [HD1.out, HD.out, hm])
    obtain ⟨LF, hLF⟩ : ∃ L, frL m ⟨dA, dn, dc⟩ .nil = L := ⟨_, rfl⟩
    have HLl : Hid (LF.length = 19) := Lib.hid (by rw [← hLF]; rfl)
    have HO : Hid (LF.all (·.oneCell') = true) := Lib.hid (by rw [← hLF]; rfl)
    have HFV : Hid (frV m ⟨dA, dn, dc⟩ .nil = .agg LF.toArray) := Lib.hid (by rw [← hLF]; rfl)
    have hS := hS.cast hLF
    obtain ⟨dsF, hdsF⟩ : ∃ z : List Int, D = z := ⟨_, rfl⟩
    rw [hdsF] at hFit HD2
    obtain ⟨rsF, hrsF⟩ : ∃ z : RS, [] = z := ⟨_, rfl⟩
    rw [hrsF] at hFit HD2
    clear hdsF hrsF hm hLF hwf
    obtain ⟨bsF, badF⟩ := s4
  rotate_left
  focus
    have hd : rdK 14 (varN s0) = some (({ FN.zero 8 with s := (varR (varN s0)), o := (varR (varN (varN s0))), fin := false } : FN), (dataR (varN (varN (varN s0))) true), [], (dataN (varN (varN (varN s0))) true)) := rfl
    have HK := Lib.hid hk
    obtain ⟨s1, e_s1⟩ : ∃ x, varN s0 = x := ⟨_, rfl⟩
    rw [e_s1] at hd hby hvl
    have HD1 := Lib.hid e_s1
    have E_s1 := Lib.hid e_s1
    clear e_s1
    obtain ⟨x_s, e_x_s⟩ : ∃ x, varR s1 = x := ⟨_, rfl⟩
    rw [e_x_s] at hd
    have E_x_s := Lib.hid e_x_s
    clear e_x_s
    obtain ⟨s2, e_s2⟩ : ∃ x, varN s1 = x := ⟨_, rfl⟩
    rw [e_s2] at hd
    have E_s2 := Lib.hid e_s2
    clear e_s2
    obtain ⟨x_o, e_x_o⟩ : ∃ x, varR s2 = x := ⟨_, rfl⟩
    rw [e_x_o] at hd
    have E_x_o := Lib.hid e_x_o
    clear e_x_o
    obtain ⟨s3, e_s3⟩ : ∃ x, varN s2 = x := ⟨_, rfl⟩
    rw [e_s3] at hd
    have E_s3 := Lib.hid e_s3
    clear e_s3
    obtain ⟨D, e_D⟩ : ∃ x, dataR s3 true = x := ⟨_, rfl⟩
    rw [e_D] at hd
    have E_D := Lib.hid e_D
    clear e_D
    obtain ⟨s4, e_s4⟩ : ∃ x, dataN s3 true = x := ⟨_, rfl⟩
    rw [e_s4] at hd
    have E_s4 := Lib.hid e_s4
    clear e_s4
    have HD := Lib.hid hd
    clear hd hk
    have hbn : (bits BinOp.andNot IntKind.u64 14 7 == 8) = true := by decide
    go_enter Try.func43, Try.ntmps43
    go_wp2_with fail
    refine (var_any p T _ s0 _ hrA hP').mono ?_
    rintro e w1 ⟨rfl, hr1, hk1⟩
    rw [HK.out]
    rw [E_s1.out] at hr1
    have hS := RdSt.start hr hk1 hr1 (frL (FN.zero 8) .nil .nil)
    clear hr1 hk1 hrA
    have hg25 := hS.g25
    have hg5 := hS.g5w
    have hlt5 : w1.heap.size < (w1.alloc (.cells (frL (FN.zero 8) .nil .nil).toArray 31)).heap.size := by simp
    go_wp2_with (first | ((with_reducible refine at_st (x := .tmp 5) ?_); refine st_top _ _ _ (by rfl) _ (by rfl) (by simp) (by rfl) (by rfl) (by rfl) (by rfl) ?_) | fail)
    refine (var_any p T _ s1 _ hS.rd hP').mono ?_
    rintro e w2 ⟨rfl, hr2, hk2⟩
    have b_s := hS.rd.byt2
    rw [E_x_s.out] at b_s
    rw [E_x_s.out]
    rw [E_s2.out] at hr2
    have vl2 := varN_le s1
    rw [E_s2.out] at vl2
    have hS := hS.step hr2 hk2
    clear hr2 hk2
    have c_1 := hS.a5.cell 1
    have f_1 := hS.a5.frozen 1
    simp only [frL, FN.zero, Sl.nil, withC, List.getElem?_cons_succ, List.getElem?_cons_zero, List.set_cons_zero, List.set_cons_succ] at c_1
    have hKS : Kept (· = w1.heap.size) w2 _ := (Kept.refl (· = w1.heap.size) w2).setAt 1 (.int .u64 x_s)
    have hS := (hS).cell 1 (.int .u64 x_s)
    clear hKS
    go_wp2_with fail
    clear c_1 f_1
    refine (var_any p T _ s2 _ hS.rd hP').mono ?_
    rintro e w3 ⟨rfl, hr3, hk3⟩
    have b_o := hS.rd.byt2
    rw [E_x_o.out] at b_o
    rw [E_x_o.out]
    rw [E_s3.out] at hr3
    have vl3 := varN_le s2
    rw [E_s3.out] at vl3
    have hS := hS.step hr3 hk3
    clear hr3 hk3
    have c_2 := hS.a5.cell 2
    have f_2 := hS.a5.frozen 2
    simp only [frL, FN.zero, Sl.nil, withC, List.getElem?_cons_succ, List.getElem?_cons_zero, List.set_cons_zero, List.set_cons_succ] at c_2
    have hKS : Kept (· = w1.heap.size) w3 _ := (Kept.refl (· = w1.heap.size) w3).setAt 2 (.int .u64 x_o)
    have hS := (hS).cell 2 (.int .u64 x_o)
    clear hKS
    go_wp2_with fail
    clear c_2 f_2
    refine (rdata_any p T _ s3 true _ hS.rd hP' (by omega)).mono ?_
    rintro e w4 ⟨vD, rfl, hown, hr4, hk4⟩
    rw [E_D.out] at hown
    rw [E_s4.out] at hr4
    obtain ⟨dA, dn, dc, rfl⟩ := hown.shape
    have hID := hown.inD hown.len_eq
    have hgD := hS.a5.lt
    have hgw := hS.kp.size
    clear hown
    have hS := hS.step hr4 hk4
    clear hr4 hk4
    have c_3 := hS.a5.cell 3
    have f_3 := hS.a5.frozen 3
    have c_4 := hS.a5.cell 4
    have f_4 := hS.a5.frozen 4
    simp only [frL, FN.zero, Sl.nil, withC, List.getElem?_cons_succ, List.getElem?_cons_zero, List.set_cons_zero, List.set_cons_succ] at c_3 c_4
    have hKS : Kept (· = w1.heap.size) w4 _ := ((Kept.refl (· = w1.heap.size) w4).setAt 3 (.slice dA dn dc)).setAt 4 (.bool false)
    have hS := ((hS).cell 3 (.slice dA dn dc)).cell 4 (.bool false)
    have hID := hID.after hgD (w.heap.size + 1) (by omega) hKS
    clear hKS
    go_wp2_with fail
    clear c_3 f_3 c_4 f_4
    obtain ⟨m, hm⟩ : ∃ m, ({ FN.zero 8 with s := x_s, o := x_o, fin := false } : FN) = m := ⟨_, rfl⟩
    have hS := hS.cast (L6 := frL m ⟨dA, dn, dc⟩ .nil) (by rw [← hm]; rfl)
    have hwf : m.wf := by rw [← hm]; exact wf_set (wf_zero 8 (by omega) (by omega)) x_s x_o 0 0 0 0 0 false (by first | exact z62 | assumption) (by first | exact z62 | assumption) (by first | exact z62 | assumption) (by first | exact z62 | assumption) (by first | exact z62 | assumption) (by first | exact z62 | assumption) (by first | exact z62 | assumption)
    have hFit := hS.fits (Q := fun b => w.heap.size + 1 ≤ b) hwf (hID) (InR.nil_ _ _)
    have HD2 : Hid (rdK 14 (varN s0) = some (m, D, [], s4)) := Lib.hid (by rw [HD1.out, HD.out, hm])
    obtain ⟨LF, hLF⟩ : ∃ L, frL m ⟨dA, dn, dc⟩ .nil = L := ⟨_, rfl⟩
    have HLl : Hid (LF.length = 19) := Lib.hid (by rw [← hLF]; rfl)
    have HO : Hid (LF.all (·.oneCell') = true) := Lib.hid (by rw [← hLF]; rfl)
    have HFV : Hid (frV m ⟨dA, dn, dc⟩ .nil = .agg LF.toArray) := Lib.hid (by rw [← hLF]; rfl)
    have hS := hS.cast hLF
    obtain ⟨dsF, hdsF⟩ : ∃ z : List Int, D = z := ⟨_, rfl⟩
    rw [hdsF] at hFit HD2
    obtain ⟨rsF, hrsF⟩ : ∃ z : RS, [] = z := ⟨_, rfl⟩
    rw [hrsF] at hFit HD2
    clear hdsF hrsF hm hLF hwf
    obtain ⟨bsF, badF⟩ := s4
  rotate_left
  focus
    have hd : rdK 15 (varN s0) = some (({ FN.zero 8 with s := (varR (varN s0)), o := (varR (varN (varN s0))), fin := true } : FN), (dataR (varN (varN (varN s0))) true), [], (dataN (varN (varN (varN s0))) true)) := rfl
    have HK := Lib.hid hk
    obtain ⟨s1, e_s1⟩ : ∃ x, varN s0 = x := ⟨_, rfl⟩
    rw [e_s1] at hd hby hvl
    have HD1 := Lib.hid e_s1
    have E_s1 := Lib.hid e_s1
    clear e_s1
    obtain ⟨x_s, e_x_s⟩ : ∃ x, varR s1 = x := ⟨_, rfl⟩
    rw [e_x_s] at hd
    have E_x_s := Lib.hid e_x_s
    clear e_x_s
    obtain ⟨s2, e_s2⟩ : ∃ x, varN s1 = x := ⟨_, rfl⟩
    rw [e_s2] at hd
    have E_s2 := Lib.hid e_s2
    clear e_s2
    obtain ⟨x_o, e_x_o⟩ : ∃ x, varR s2 = x := ⟨_, rfl⟩
    rw [e_x_o] at hd
    have E_x_o := Lib.hid e_x_o
    clear e_x_o
    obtain ⟨s3, e_s3⟩ : ∃ x, varN s2 = x := ⟨_, rfl⟩
    rw [e_s3] at hd
    have E_s3 := Lib.hid e_s3
    clear e_s3
    obtain ⟨D, e_D⟩ : ∃ x, dataR s3 true = x := ⟨_, rfl⟩
    rw [e_D] at hd
    have E_D := Lib.hid e_D
    clear e_D
    obtain ⟨s4, e_s4⟩ : ∃ x, dataN s3 true = x := ⟨_, rfl⟩
    rw [e_s4] at hd
    have E_s4 := Lib.hid e_s4
    clear e_s4
    have HD := Lib.hid hd
    clear hd hk
    have hbn : (bits BinOp.andNot IntKind.u64 15 7 == 8) = true := by decide
    go_enter Try.func43, Try.ntmps43
    go_wp2_with fail
    refine (var_any p T _ s0 _ hrA hP').mono ?_
    rintro e w1 ⟨rfl, hr1, hk1⟩
    rw [HK.out]
    rw [E_s1.out] at hr1
    have hS := RdSt.start hr hk1 hr1 (frL (FN.zero 8) .nil .nil)
    clear hr1 hk1 hrA
    have hg25 := hS.g25
    have hg5 := hS.g5w
    have hlt5 : w1.heap.size < (w1.alloc (.cells (frL (FN.zero 8) .nil .nil).toArray 31)).heap.size := by simp
    go_wp2_with (first | ((with_reducible refine at_st (x := .tmp 5) ?_); refine st_top _ _ _ (by rfl) _ (by rfl) (by simp) (by rfl) (by rfl) (by rfl) (by rfl) ?_) | fail)
    refine (var_any p T _ s1 _ hS.rd hP').mono ?_
    rintro e w2 ⟨rfl, hr2, hk2⟩
    have b_s := hS.rd.byt2
    rw [E_x_s.out] at b_s
    rw [E_x_s.out]
    rw [E_s2.out] at hr2
    have vl2 := varN_le s1
    rw [E_s2.out] at vl2
    have hS := hS.step hr2 hk2
    clear hr2 hk2
    have c_1 := hS.a5.cell 1
    have f_1 := hS.a5.frozen 1
    simp only [frL, FN.zero, Sl.nil, withC, List.getElem?_cons_succ, List.getElem?_cons_zero, List.set_cons_zero, List.set_cons_succ] at c_1
    have hKS : Kept (· = w1.heap.size) w2 _ := (Kept.refl (· = w1.heap.size) w2).setAt 1 (.int .u64 x_s)
    have hS := (hS).cell 1 (.int .u64 x_s)
    clear hKS
    go_wp2_with fail
    clear c_1 f_1
    refine (var_any p T _ s2 _ hS.rd hP').mono ?_
    rintro e w3 ⟨rfl, hr3, hk3⟩
    have b_o := hS.rd.byt2
    rw [E_x_o.out] at b_o
    rw [E_x_o.out]
    rw [E_s3.out] at hr3
    have vl3 := varN_le s2
    rw [E_s3.out] at vl3
    have hS := hS.step hr3 hk3
    clear hr3 hk3
    have c_2 := hS.a5.cell 2
    have f_2 := hS.a5.frozen 2
    simp only [frL, FN.zero, Sl.nil, withC, List.getElem?_cons_succ, List.getElem?_cons_zero, List.set_cons_zero, List.set_cons_succ] at c_2
    have hKS : Kept (· = w1.heap.size) w3 _ := (Kept.refl (· = w1.heap.size) w3).setAt 2 (.int .u64 x_o)
    have hS := (hS).cell 2 (.int .u64 x_o)
    clear hKS
    go_wp2_with fail
    clear c_2 f_2
    refine (rdata_any p T _ s3 true _ hS.rd hP' (by omega)).mono ?_
    rintro e w4 ⟨vD, rfl, hown, hr4, hk4⟩
    rw [E_D.out] at hown
    rw [E_s4.out] at hr4
    obtain ⟨dA, dn, dc, rfl⟩ := hown.shape
    have hID := hown.inD hown.len_eq
    have hgD := hS.a5.lt
    have hgw := hS.kp.size
    clear hown
    have hS := hS.step hr4 hk4
    clear hr4 hk4
    have c_3 := hS.a5.cell 3
    have f_3 := hS.a5.frozen 3
    have c_4 := hS.a5.cell 4
    have f_4 := hS.a5.frozen 4
    simp only [frL, FN.zero, Sl.nil, withC, List.getElem?_cons_succ, List.getElem?_cons_zero, List.set_cons_zero, List.set_cons_succ] at c_3 c_4
    have hKS : Kept (· = w1.heap.size) w4 _ := ((Kept.refl (· = w1.heap.size) w4).setAt 3 (.slice dA dn dc)).setAt 4 (.bool true)
    have hS := ((hS).cell 3 (.slice dA dn dc)).cell 4 (.bool true)
    have hID := hID.after hgD (w.heap.size + 1) (by omega) hKS
    clear hKS
    go_wp2_with fail
    clear c_3 f_3 c_4 f_4
    obtain ⟨m, hm⟩ : ∃ m, ({ FN.zero 8 with s := x_s, o := x_o, fin := true } : FN) = m := ⟨_, rfl⟩
    have hS := hS.cast (L6 := frL m ⟨dA, dn, dc⟩ .nil) (by rw [← hm]; rfl)
    have hwf : m.wf := by rw [← hm]; exact wf_set (wf_zero 8 (by omega) (by omega)) x_s x_o 0 0 0 0 0 true (by first | exact z62 | assumption) (by first | exact z62 | assumption) (by first | exact z62 | assumption) (by first | exact z62 | assumption) (by first | exact z62 | assumption) (by first | exact z62 | assumption) (by first | exact z62 | assumption)
    have hFit := hS.fits (Q := fun b => w.heap.size + 1 ≤ b) hwf (hID) (InR.nil_ _ _)
    have HD2 : Hid (rdK 15 (varN s0) = some (m, D, [], s4)) := Lib.hid (by rw [HD1.out, HD.out, hm])
    obtain ⟨LF, hLF⟩ : ∃ L, frL m ⟨dA, dn, dc⟩ .nil = L := ⟨_, rfl⟩
    have HLl : Hid (LF.length = 19) := Lib.hid (by rw [← hLF]; rfl)
    have HO : Hid (LF.all (·.oneCell') = true) := Lib.hid (by rw [← hLF]; rfl)
    have HFV : Hid (frV m ⟨dA, dn, dc⟩ .nil = .agg LF.toArray) := Lib.hid (by rw [← hLF]; rfl)
    have hS := hS.cast hLF
    obtain ⟨dsF, hdsF⟩ : ∃ z : List Int, D = z := ⟨_, rfl⟩
    rw [hdsF] at hFit HD2
    obtain ⟨rsF, hrsF⟩ : ∃ z : RS, [] = z := ⟨_, rfl⟩
    rw [hrsF] at hFit HD2
    clear hdsF hrsF hm hLF hwf
    obtain ⟨bsF, badF⟩ := s4
  rotate_left
  focus
    have hd : rdK 24 (varN s0) = if byteR (varN (varN (varN s0))) = 8 then some ((withC ({ FN.zero 24 with q := (varR (varN s0)), l := (varR (varN (varN s0))) } : FN) (takeR (takeN (varN (varN (varN s0))) 1) 8) : FN), [], [], (takeN (takeN (varN (varN (varN s0))) 1) 8)) else none := rfl
    have HK := Lib.hid hk
    obtain ⟨s1, e_s1⟩ : ∃ x, varN s0 = x := ⟨_, rfl⟩
    rw [e_s1] at hd hby hvl
    have HD1 := Lib.hid e_s1
    have E_s1 := Lib.hid e_s1
    clear e_s1
    obtain ⟨x_q, e_x_q⟩ : ∃ x, varR s1 = x := ⟨_, rfl⟩
    rw [e_x_q] at hd
    have E_x_q := Lib.hid e_x_q
    clear e_x_q
    obtain ⟨s2, e_s2⟩ : ∃ x, varN s1 = x := ⟨_, rfl⟩
    rw [e_s2] at hd
    have E_s2 := Lib.hid e_s2
    clear e_s2
    obtain ⟨x_l, e_x_l⟩ : ∃ x, varR s2 = x := ⟨_, rfl⟩
    rw [e_x_l] at hd
    have E_x_l := Lib.hid e_x_l
    clear e_x_l
    obtain ⟨s3, e_s3⟩ : ∃ x, varN s2 = x := ⟨_, rfl⟩
    rw [e_s3] at hd
    have E_s3 := Lib.hid e_s3
    clear e_s3
    obtain ⟨bt, e_bt⟩ : ∃ x, byteR s3 = x := ⟨_, rfl⟩
    rw [e_bt] at hd
    have E_bt := Lib.hid e_bt
    clear e_bt
    obtain ⟨s4, e_s4⟩ : ∃ x, takeN s3 1 = x := ⟨_, rfl⟩
    rw [e_s4] at hd
    have E_s4 := Lib.hid e_s4
    clear e_s4
    obtain ⟨C, e_C⟩ : ∃ x, takeR s4 8 = x := ⟨_, rfl⟩
    rw [e_C] at hd
    have E_C := Lib.hid e_C
    clear e_C
    obtain ⟨s5, e_s5⟩ : ∃ x, takeN s4 8 = x := ⟨_, rfl⟩
    rw [e_s5] at hd
    have E_s5 := Lib.hid e_s5
    clear e_s5
    have HD := Lib.hid hd
    clear hd hk
    have hbn : (bits BinOp.andNot IntKind.u64 24 7 == 8) = false := by decide
    go_enter Try.func43, Try.ntmps43
    go_wp2_with fail
    refine (var_any p T _ s0 _ hrA hP').mono ?_
    rintro e w1 ⟨rfl, hr1, hk1⟩
    rw [HK.out]
    rw [E_s1.out] at hr1
    have hS := RdSt.start hr hk1 hr1 (frL (FN.zero 24) .nil .nil)
    clear hr1 hk1 hrA
    have hg25 := hS.g25
    have hg5 := hS.g5w
    have hlt5 : w1.heap.size < (w1.alloc (.cells (frL (FN.zero 24) .nil .nil).toArray 31)).heap.size := by simp
    go_wp2_with (first | ((with_reducible refine at_st (x := .tmp 5) ?_); refine st_top _ _ _ (by rfl) _ (by rfl) (by simp) (by rfl) (by rfl) (by rfl) (by rfl) ?_) | fail)
    refine (var_any p T _ s1 _ hS.rd hP').mono ?_
    rintro e w2 ⟨rfl, hr2, hk2⟩
    have b_q := hS.rd.byt2
    rw [E_x_q.out] at b_q
    rw [E_x_q.out]
    rw [E_s2.out] at hr2
    have vl2 := varN_le s1
    rw [E_s2.out] at vl2
    have hS := hS.step hr2 hk2
    clear hr2 hk2
    go_wp2_with fail
    refine (var_any p T _ s2 _ hS.rd hP').mono ?_
    rintro e w3 ⟨rfl, hr3, hk3⟩
    have b_l := hS.rd.byt2
    rw [E_x_l.out] at b_l
    rw [E_x_l.out]
    rw [E_s3.out] at hr3
    have vl3 := varN_le s2
    rw [E_s3.out] at vl3
    have hS := hS.step hr3 hk3
    clear hr3 hk3
    have c_8 := hS.a5.cell 8
    have f_8 := hS.a5.frozen 8
    have c_5 := hS.a5.cell 5
    have f_5 := hS.a5.frozen 5
    simp only [frL, FN.zero, Sl.nil, withC, List.getElem?_cons_succ, List.getElem?_cons_zero, List.set_cons_zero, List.set_cons_succ] at c_8 c_5
    have hKS : Kept (· = w1.heap.size) w3 _ := ((Kept.refl (· = w1.heap.size) w3).setAt 8 (.int .u64 x_q)).setAt 5 (.int .u64 x_l)
    have hS := ((hS).cell 8 (.int .u64 x_q)).cell 5 (.int .u64 x_l)
    clear hKS
    go_wp2_with fail
    clear c_8 f_8 c_5 f_5
    refine (byte_any p T _ s3 _ hS.rd hP').mono ?_
    rintro e w4 ⟨rfl, hr4, hk4⟩
    rw [E_bt.out]
    rw [E_s4.out] at hr4
    have vl4 := takeN_le s3 1
    rw [E_s4.out] at vl4
    have bbt : 0 ≤ bt ∧ bt < 256 := by rw [← E_bt.out]; exact (takeR_byt _ 1 hS.rd.byt).getD 0
    have hS := hS.step hr4 hk4
    clear hr4 hk4
    by_cases h8 : bt = 8
    case neg =>
      have hno : readO s0 = none := readO_no HK.out (by omega) (by rw [HD1.out, HD.out, if_neg h8])
      have HNO := Lib.hid hno
      have hd8 : (bt != 8) = true := by simpa using h8
      clear hno h8
      go_wp2_with (first | ((with_reducible refine at_st (x := .tmp 2) ?_); refine st_at _ _ (frL (FN.zero 0) .nil .nil) (by rfl) (by rfl) hS.a2 (by rfl) (by rfl) (by rfl) ?_; intro w9 hA9 hk9) | fail)
      refine bodyPost_ret (results_cell_tmp 2 3 31 (by rfl) _ 31 _ _ _ (by rfl) (by rfl) hA9 Try.underlying31 rfl fr_info) rfl ?_
      exact ReadPost.no HNO.out (hS.out hk9).1
    have HD := Lib.hid (HD.out.trans (if_pos h8))
    have hd8 : (bt != 8) = false := by simpa using h8
    clear h8
    go_wp2_with fail
    refine (rcid_any p T _ s4 _ hS.rd hP' (by omega)).mono ?_
    rintro e w5 ⟨rfl, hr5, hk5⟩
    have bC := takeR_byt s4 8 hS.rd.byt
    rw [E_C.out] at bC ⊢
    rw [E_s5.out] at hr5
    simp only [cid8, List.map_cons, List.map_nil]
    obtain ⟨b0, eb0⟩ : ∃ x, C.getD 0 0 = x := ⟨_, rfl⟩
    rw [eb0]
    have EB0 := Lib.hid eb0
    clear eb0
    obtain ⟨b1, eb1⟩ : ∃ x, C.getD 1 0 = x := ⟨_, rfl⟩
    rw [eb1]
    have EB1 := Lib.hid eb1
    clear eb1
    obtain ⟨b2, eb2⟩ : ∃ x, C.getD 2 0 = x := ⟨_, rfl⟩
    rw [eb2]
    have EB2 := Lib.hid eb2
    clear eb2
    obtain ⟨b3, eb3⟩ : ∃ x, C.getD 3 0 = x := ⟨_, rfl⟩
    rw [eb3]
    have EB3 := Lib.hid eb3
    clear eb3
    obtain ⟨b4, eb4⟩ : ∃ x, C.getD 4 0 = x := ⟨_, rfl⟩
    rw [eb4]
    have EB4 := Lib.hid eb4
    clear eb4
    obtain ⟨b5, eb5⟩ : ∃ x, C.getD 5 0 = x := ⟨_, rfl⟩
    rw [eb5]
    have EB5 := Lib.hid eb5
    clear eb5
    obtain ⟨b6, eb6⟩ : ∃ x, C.getD 6 0 = x := ⟨_, rfl⟩
    rw [eb6]
    have EB6 := Lib.hid eb6
    clear eb6
    obtain ⟨b7, eb7⟩ : ∃ x, C.getD 7 0 = x := ⟨_, rfl⟩
    rw [eb7]
    have EB7 := Lib.hid eb7
    clear eb7
    have hS := hS.step hr5 hk5
    clear hr5 hk5
    have c_11 := hS.a5.cell 11
    have f_11 := hS.a5.frozen 11
    have c_12 := hS.a5.cell 12
    have f_12 := hS.a5.frozen 12
    have c_13 := hS.a5.cell 13
    have f_13 := hS.a5.frozen 13
    have c_14 := hS.a5.cell 14
    have f_14 := hS.a5.frozen 14
    have c_15 := hS.a5.cell 15
    have f_15 := hS.a5.frozen 15
    have c_16 := hS.a5.cell 16
    have f_16 := hS.a5.frozen 16
    have c_17 := hS.a5.cell 17
    have f_17 := hS.a5.frozen 17
    have c_18 := hS.a5.cell 18
    have f_18 := hS.a5.frozen 18
    simp only [frL, FN.zero, Sl.nil, withC, List.getElem?_cons_succ, List.getElem?_cons_zero, List.set_cons_zero, List.set_cons_succ] at c_11 c_12 c_13 c_14 c_15 c_16 c_17 c_18
    have hKS : Kept (· = w1.heap.size) w5 _ := ((((((((Kept.refl (· = w1.heap.size) w5).setAt 11 (.int .u8 b0)).setAt 12 (.int .u8 b1)).setAt 13 (.int .u8 b2)).setAt 14 (.int .u8 b3)).setAt 15 (.int .u8 b4)).setAt 16 (.int .u8 b5)).setAt 17 (.int .u8 b6)).setAt 18 (.int .u8 b7)
    have hS := ((((((((hS).cell 11 (.int .u8 b0)).cell 12 (.int .u8 b1)).cell 13 (.int .u8 b2)).cell 14 (.int .u8 b3)).cell 15 (.int .u8 b4)).cell 16 (.int .u8 b5)).cell 17 (.int .u8 b6)).cell 18 (.int .u8 b7)
    clear hKS
    go_wp2_with fail
    clear c_11 f_11 c_12 f_12 c_13 f_13 c_14 f_14 c_15 f_15 c_16 f_16 c_17 f_17 c_18 f_18
    have eb0 := EB0.out
    have eb1 := EB1.out
    have eb2 := EB2.out
    have eb3 := EB3.out
    have eb4 := EB4.out
    have eb5 := EB5.out
    have eb6 := EB6.out
    have eb7 := EB7.out
    obtain ⟨m, hm⟩ : ∃ m, (withC ({ FN.zero 24 with q := x_q, l := x_l } : FN) C : FN) = m := ⟨_, rfl⟩
    have hS := hS.cast (L6 := frL m .nil .nil) (by rw [← hm]; simp only [withC, frL, eb0, eb1, eb2, eb3, eb4, eb5, eb6, eb7]; rfl)
    clear eb0 eb1 eb2 eb3 eb4 eb5 eb6 eb7
    have hwf : m.wf := by rw [← hm]; exact wf_withC (wf_set (wf_zero 24 (by omega) (by omega)) 0 0 x_l 0 0 x_q 0 false (by first | exact z62 | assumption) (by first | exact z62 | assumption) (by first | exact z62 | assumption) (by first | exact z62 | assumption) (by first | exact z62 | assumption) (by first | exact z62 | assumption) (by first | exact z62 | assumption)) C bC
    have hFit := hS.fits (Q := fun b => w.heap.size + 1 ≤ b) hwf (InD.nil_ _ _) (InR.nil_ _ _)
    have HD2 : Hid (rdK 24 (varN s0) = some (m, [], [], s5)) := Lib.hid (by rw [HD1.out, HD.out, hm])
    obtain ⟨LF, hLF⟩ : ∃ L, frL m .nil .nil = L := ⟨_, rfl⟩
    have HLl : Hid (LF.length = 19) := Lib.hid (by rw [← hLF]; rfl)
    have HO : Hid (LF.all (·.oneCell') = true) := Lib.hid (by rw [← hLF]; rfl)
    have HFV : Hid (frV m .nil .nil = .agg LF.toArray) := Lib.hid (by rw [← hLF]; rfl)
    have hS := hS.cast hLF
    obtain ⟨dsF, hdsF⟩ : ∃ z : List Int, [] = z := ⟨_, rfl⟩
    rw [hdsF] at hFit HD2
    obtain ⟨rsF, hrsF⟩ : ∃ z : RS, [] = z := ⟨_, rfl⟩
    rw [hrsF] at hFit HD2
    clear hdsF hrsF hm hLF hwf
    obtain ⟨bsF, badF⟩ := s5
  rotate_left
  focus
    have hd : rdK 26 (varN s0) = some ((withC (FN.zero 26) (takeR (varN s0) 8) : FN), [], [], (takeN (varN s0) 8)) := rfl
    have HK := Lib.hid hk
    obtain ⟨s1, e_s1⟩ : ∃ x, varN s0 = x := ⟨_, rfl⟩
    rw [e_s1] at hd hby hvl
    have HD1 := Lib.hid e_s1
    have E_s1 := Lib.hid e_s1
    clear e_s1
    obtain ⟨C, e_C⟩ : ∃ x, takeR s1 8 = x := ⟨_, rfl⟩
    rw [e_C] at hd
    have E_C := Lib.hid e_C
    clear e_C
    obtain ⟨s2, e_s2⟩ : ∃ x, takeN s1 8 = x := ⟨_, rfl⟩
    rw [e_s2] at hd
    have E_s2 := Lib.hid e_s2
    clear e_s2
    have HD := Lib.hid hd
    clear hd hk
    have hbn : (bits BinOp.andNot IntKind.u64 26 7 == 8) = false := by decide
    go_enter Try.func43, Try.ntmps43
    go_wp2_with fail
    refine (var_any p T _ s0 _ hrA hP').mono ?_
    rintro e w1 ⟨rfl, hr1, hk1⟩
    rw [HK.out]
    rw [E_s1.out] at hr1
    have hS := RdSt.start hr hk1 hr1 (frL (FN.zero 26) .nil .nil)
    clear hr1 hk1 hrA
    have hg25 := hS.g25
    have hg5 := hS.g5w
    have hlt5 : w1.heap.size < (w1.alloc (.cells (frL (FN.zero 26) .nil .nil).toArray 31)).heap.size := by simp
    go_wp2_with (first | ((with_reducible refine at_st (x := .tmp 5) ?_); refine st_top _ _ _ (by rfl) _ (by rfl) (by simp) (by rfl) (by rfl) (by rfl) (by rfl) ?_) | fail)
    refine (rcid_any p T _ s1 _ hS.rd hP' (by omega)).mono ?_
    rintro e w2 ⟨rfl, hr2, hk2⟩
    have bC := takeR_byt s1 8 hS.rd.byt
    rw [E_C.out] at bC ⊢
    rw [E_s2.out] at hr2
    simp only [cid8, List.map_cons, List.map_nil]
    obtain ⟨b0, eb0⟩ : ∃ x, C.getD 0 0 = x := ⟨_, rfl⟩
    rw [eb0]
    have EB0 := Lib.hid eb0
    clear eb0
    obtain ⟨b1, eb1⟩ : ∃ x, C.getD 1 0 = x := ⟨_, rfl⟩
    rw [eb1]
    have EB1 := Lib.hid eb1
    clear eb1
    obtain ⟨b2, eb2⟩ : ∃ x, C.getD 2 0 = x := ⟨_, rfl⟩
    rw [eb2]
    have EB2 := Lib.hid eb2
    clear eb2
    obtain ⟨b3, eb3⟩ : ∃ x, C.getD 3 0 = x := ⟨_, rfl⟩
    rw [eb3]
    have EB3 := Lib.hid eb3
    clear eb3
    obtain ⟨b4, eb4⟩ : ∃ x, C.getD 4 0 = x := ⟨_, rfl⟩
    rw [eb4]
    have EB4 := Lib.hid eb4
    clear eb4
    obtain ⟨b5, eb5⟩ : ∃ x, C.getD 5 0 = x := ⟨_, rfl⟩
    rw [eb5]
    have EB5 := Lib.hid eb5
    clear eb5
    obtain ⟨b6, eb6⟩ : ∃ x, C.getD 6 0 = x := ⟨_, rfl⟩
    rw [eb6]
    have EB6 := Lib.hid eb6
    clear eb6
    obtain ⟨b7, eb7⟩ : ∃ x, C.getD 7 0 = x := ⟨_, rfl⟩
    rw [eb7]
    have EB7 := Lib.hid eb7
    clear eb7
    have hS := hS.step hr2 hk2
    clear hr2 hk2
    have c_11 := hS.a5.cell 11
    have f_11 := hS.a5.frozen 11
    have c_12 := hS.a5.cell 12
    have f_12 := hS.a5.frozen 12
    have c_13 := hS.a5.cell 13
    have f_13 := hS.a5.frozen 13
    have c_14 := hS.a5.cell 14
    have f_14 := hS.a5.frozen 14
    have c_15 := hS.a5.cell 15
    have f_15 := hS.a5.frozen 15
    have c_16 := hS.a5.cell 16
    have f_16 := hS.a5.frozen 16
    have c_17 := hS.a5.cell 17
    have f_17 := hS.a5.frozen 17
    have c_18 := hS.a5.cell 18
    have f_18 := hS.a5.frozen 18
    simp only [frL, FN.zero, Sl.nil, withC, List.getElem?_cons_succ, List.getElem?_cons_zero, List.set_cons_zero, List.set_cons_succ] at c_11 c_12 c_13 c_14 c_15 c_16 c_17 c_18
    have hKS : Kept (· = w1.heap.size) w2 _ := ((((((((Kept.refl (· = w1.heap.size) w2).setAt 11 (.int .u8 b0)).setAt 12 (.int .u8 b1)).setAt 13 (.int .u8 b2)).setAt 14 (.int .u8 b3)).setAt 15 (.int .u8 b4)).setAt 16 (.int .u8 b5)).setAt 17 (.int .u8 b6)).setAt 18 (.int .u8 b7)
    have hS := ((((((((hS).cell 11 (.int .u8 b0)).cell 12 (.int .u8 b1)).cell 13 (.int .u8 b2)).cell 14 (.int .u8 b3)).cell 15 (.int .u8 b4)).cell 16 (.int .u8 b5)).cell 17 (.int .u8 b6)).cell 18 (.int .u8 b7)
    clear hKS
    go_wp2_with fail
    clear c_11 f_11 c_12 f_12 c_13 f_13 c_14 f_14 c_15 f_15 c_16 f_16 c_17 f_17 c_18 f_18
    have eb0 := EB0.out
    have eb1 := EB1.out
    have eb2 := EB2.out
    have eb3 := EB3.out
    have eb4 := EB4.out
    have eb5 := EB5.out
    have eb6 := EB6.out
    have eb7 := EB7.out
    obtain ⟨m, hm⟩ : ∃ m, (withC (FN.zero 26) C : FN) = m := ⟨_, rfl⟩
    have hS := hS.cast (L6 := frL m .nil .nil) (by rw [← hm]; simp only [withC, frL, eb0, eb1, eb2, eb3, eb4, eb5, eb6, eb7]; rfl)
    clear eb0 eb1 eb2 eb3 eb4 eb5 eb6 eb7
    have hwf : m.wf := by rw [← hm]; exact wf_withC (wf_set (wf_zero 26 (by omega) (by omega)) 0 0 0 0 0 0 0 false (by first | exact z62 | assumption) (by first | exact z62 | assumption) (by first | exact z62 | assumption) (by first | exact z62 | assumption) (by first | exact z62 | assumption) (by first | exact z62 | assumption) (by first | exact z62 | assumption)) C bC
    have hFit := hS.fits (Q := fun b => w.heap.size + 1 ≤ b) hwf (InD.nil_ _ _) (InR.nil_ _ _)
    have HD2 : Hid (rdK 26 (varN s0) = some (m, [], [], s2)) := Lib.hid (by rw [HD1.out, HD.out, hm])
    obtain ⟨LF, hLF⟩ : ∃ L, frL m .nil .nil = L := ⟨_, rfl⟩
    have HLl : Hid (LF.length = 19) := Lib.hid (by rw [← hLF]; rfl)
    have HO : Hid (LF.all (·.oneCell') = true) := Lib.hid (by rw [← hLF]; rfl)
    have HFV : Hid (frV m .nil .nil = .agg LF.toArray) := Lib.hid (by rw [← hLF]; rfl)
    have hS := hS.cast hLF
    obtain ⟨dsF, hdsF⟩ : ∃ z : List Int, [] = z := ⟨_, rfl⟩
    rw [hdsF] at hFit HD2
    obtain ⟨rsF, hrsF⟩ : ∃ z : RS, [] = z := ⟨_, rfl⟩
    rw [hrsF] at hFit HD2
    clear hdsF hrsF hm hLF hwf
    obtain ⟨bsF, badF⟩ := s2
  rotate_left
  focus
    have hd : rdK 27 (varN s0) = some ((withC (FN.zero 27) (takeR (varN s0) 8) : FN), [], [], (takeN (varN s0) 8)) := rfl
    have HK := Lib.hid hk
    obtain ⟨s1, e_s1⟩ : ∃ x, varN s0 = x := ⟨_, rfl⟩
    rw [e_s1] at hd hby hvl
    have HD1 := Lib.hid e_s1
    have E_s1 := Lib.hid e_s1
    clear e_s1
    obtain ⟨C, e_C⟩ : ∃ x, takeR s1 8 = x := ⟨_, rfl⟩
    rw [e_C] at hd
    have E_C := Lib.hid e_C
    clear e_C
    obtain ⟨s2, e_s2⟩ : ∃ x, takeN s1 8 = x := ⟨_, rfl⟩
    rw [e_s2] at hd
    have E_s2 := Lib.hid e_s2
    clear e_s2
    have HD := Lib.hid hd
    clear hd hk
    have hbn : (bits BinOp.andNot IntKind.u64 27 7 == 8) = false := by decide
    go_enter Try.func43, Try.ntmps43
    go_wp2_with fail
    refine (var_any p T _ s0 _ hrA hP').mono ?_
    rintro e w1 ⟨rfl, hr1, hk1⟩
    rw [HK.out]
    rw [E_s1.out] at hr1
    have hS := RdSt.start hr hk1 hr1 (frL (FN.zero 27) .nil .nil)
    clear hr1 hk1 hrA
    have hg25 := hS.g25
    have hg5 := hS.g5w
    have hlt5 : w1.heap.size < (w1.alloc (.cells (frL (FN.zero 27) .nil .nil).toArray 31)).heap.size := by simp
    go_wp2_with (first | ((with_reducible refine at_st (x := .tmp 5) ?_); refine st_top _ _ _ (by rfl) _ (by rfl) (by simp) (by rfl) (by rfl) (by rfl) (by rfl) ?_) | fail)
    refine (rcid_any p T _ s1 _ hS.rd hP' (by omega)).mono ?_
    rintro e w2 ⟨rfl, hr2, hk2⟩
    have bC := takeR_byt s1 8 hS.rd.byt
    rw [E_C.out] at bC ⊢
    rw [E_s2.out] at hr2
    simp only [cid8, List.map_cons, List.map_nil]
    obtain ⟨b0, eb0⟩ : ∃ x, C.getD 0 0 = x := ⟨_, rfl⟩
    rw [eb0]
    have EB0 := Lib.hid eb0
    clear eb0
    obtain ⟨b1, eb1⟩ : ∃ x, C.getD 1 0 = x := ⟨_, rfl⟩
    rw [eb1]
    have EB1 := Lib.hid eb1
    clear eb1
    obtain ⟨b2, eb2⟩ : ∃ x, C.getD 2 0 = x := ⟨_, rfl⟩
    rw [eb2]
    have EB2 := Lib.hid eb2
    clear eb2
    obtain ⟨b3, eb3⟩ : ∃ x, C.getD 3 0 = x := ⟨_, rfl⟩
    rw [eb3]
    have EB3 := Lib.hid eb3
    clear eb3
    obtain ⟨b4, eb4⟩ : ∃ x, C.getD 4 0 = x := ⟨_, rfl⟩
    rw [eb4]
    have EB4 := Lib.hid eb4
    clear eb4
    obtain ⟨b5, eb5⟩ : ∃ x, C.getD 5 0 = x := ⟨_, rfl⟩
    rw [eb5]
    have EB5 := Lib.hid eb5
    clear eb5
    obtain ⟨b6, eb6⟩ : ∃ x, C.getD 6 0 = x := ⟨_, rfl⟩
    rw [eb6]
    have EB6 := Lib.hid eb6
    clear eb6
    obtain ⟨b7, eb7⟩ : ∃ x, C.getD 7 0 = x := ⟨_, rfl⟩
    rw [eb7]
    have EB7 := Lib.hid eb7
    clear eb7
    have hS := hS.step hr2 hk2
    clear hr2 hk2
    have c_11 := hS.a5.cell 11
    have f_11 := hS.a5.frozen 11
    have c_12 := hS.a5.cell 12
    have f_12 := hS.a5.frozen 12
    have c_13 := hS.a5.cell 13
    have f_13 := hS.a5.frozen 13
    have c_14 := hS.a5.cell 14
    have f_14 := hS.a5.frozen 14
    have c_15 := hS.a5.cell 15
    have f_15 := hS.a5.frozen 15
    have c_16 := hS.a5.cell 16
    have f_16 := hS.a5.frozen 16
    have c_17 := hS.a5.cell 17
    have f_17 := hS.a5.frozen 17
    have c_18 := hS.a5.cell 18
    have f_18 := hS.a5.frozen 18
    simp only [frL, FN.zero, Sl.nil, withC, List.getElem?_cons_succ, List.getElem?_cons_zero, List.set_cons_zero, List.set_cons_succ] at c_11 c_12 c_13 c_14 c_15 c_16 c_17 c_18
    have hKS : Kept (· = w1.heap.size) w2 _ := ((((((((Kept.refl (· = w1.heap.size) w2).setAt 11 (.int .u8 b0)).setAt 12 (.int .u8 b1)).setAt 13 (.int .u8 b2)).setAt 14 (.int .u8 b3)).setAt 15 (.int .u8 b4)).setAt 16 (.int .u8 b5)).setAt 17 (.int .u8 b6)).setAt 18 (.int .u8 b7)
    have hS := ((((((((hS).cell 11 (.int .u8 b0)).cell 12 (.int .u8 b1)).cell 13 (.int .u8 b2)).cell 14 (.int .u8 b3)).cell 15 (.int .u8 b4)).cell 16 (.int .u8 b5)).cell 17 (.int .u8 b6)).cell 18 (.int .u8 b7)
    clear hKS
    go_wp2_with fail
    clear c_11 f_11 c_12 f_12 c_13 f_13 c_14 f_14 c_15 f_15 c_16 f_16 c_17 f_17 c_18 f_18
    have eb0 := EB0.out
    have eb1 := EB1.out
    have eb2 := EB2.out
    have eb3 := EB3.out
    have eb4 := EB4.out
    have eb5 := EB5.out
    have eb6 := EB6.out
    have eb7 := EB7.out
    obtain ⟨m, hm⟩ : ∃ m, (withC (FN.zero 27) C : FN) = m := ⟨_, rfl⟩
    have hS := hS.cast (L6 := frL m .nil .nil) (by rw [← hm]; simp only [withC, frL, eb0, eb1, eb2, eb3, eb4, eb5, eb6, eb7]; rfl)
    clear eb0 eb1 eb2 eb3 eb4 eb5 eb6 eb7
    have hwf : m.wf := by rw [← hm]; exact wf_withC (wf_set (wf_zero 27 (by omega) (by omega)) 0 0 0 0 0 0 0 false (by first | exact z62 | assumption) (by first | exact z62 | assumption) (by first | exact z62 | assumption) (by first | exact z62 | assumption) (by first | exact z62 | assumption) (by first | exact z62 | assumption) (by first | exact z62 | assumption)) C bC
    have hFit := hS.fits (Q := fun b => w.heap.size + 1 ≤ b) hwf (InD.nil_ _ _) (InR.nil_ _ _)
    have HD2 : Hid (rdK 27 (varN s0) = some (m, [], [], s2)) := Lib.hid (by rw [HD1.out, HD.out, hm])
    obtain ⟨LF, hLF⟩ : ∃ L, frL m .nil .nil = L := ⟨_, rfl⟩
    have HLl : Hid (LF.length = 19) := Lib.hid (by rw [← hLF]; rfl)
    have HO : Hid (LF.all (·.oneCell') = true) := Lib.hid (by rw [← hLF]; rfl)
    have HFV : Hid (frV m .nil .nil = .agg LF.toArray) := Lib.hid (by rw [← hLF]; rfl)
    have hS := hS.cast hLF
    obtain ⟨dsF, hdsF⟩ : ∃ z : List Int, [] = z := ⟨_, rfl⟩
    rw [hdsF] at hFit HD2
    obtain ⟨rsF, hrsF⟩ : ∃ z : RS, [] = z := ⟨_, rfl⟩
    rw [hrsF] at hFit HD2
    clear hdsF hrsF hm hLF hwf
    obtain ⟨bsF, badF⟩ := s2
  rotate_left
  all_goals
    refine (bad_any p T _ _ _ hS.rd).mono ?_
    rintro e wZ ⟨rfl, hwZ⟩
    rw [hwZ] at hS hFit
    clear hwZ
    cases badF with
    | true =>
      have HNO : Hid (readO s0 = none) := Lib.hid (by rw [readO_of HK.out (by omega) HD2.out]; simp)
      go_wp2_with (first | ((with_reducible refine at_st (x := .tmp 2) ?_); refine st_at _ _ (frL (FN.zero 0) .nil .nil) (by rfl) (by rfl) hS.a2 (by rfl) (by rfl) (by rfl) ?_; intro w9 hA9 hk9) | fail)
      refine bodyPost_ret (results_cell_tmp 2 3 31 (by rfl) _ 31 _ _ _ (by rfl) (by rfl) hA9 Try.underlying31 rfl fr_info) rfl ?_
      exact ReadPost.no HNO.out (hS.out hk9).1
    | false =>
      go_wp2_with (first | ((with_reducible refine at_ld (x := .tmp 5) ?_); refine ld_fr_g _ _ (by rfl) (by rfl) hS.a5 HLl.out ?_) | fail)
      have hrt := right_any _ m _ _ _ _ _ hFit
      rw [HFV.out] at hrt
      refine hrt.mono ?_
      rintro e w8 ⟨rfl, hb8⟩
      clear hrt
      have hS := hS.below hb8
      have hFit := hFit.below hb8
      clear hb8
      obtain ⟨rb, hrb⟩ : ∃ x, rightB m dsF rsF = x := ⟨_, rfl⟩
      rw [hrb]
      have HRO : Hid (readO s0 = if (false : Bool) = false ∧ rb = true then some (m, dsF, rsF, (bsF, false)) else none) := Lib.hid (by rw [readO_of HK.out (by omega) HD2.out, hrb])
      clear hrb
      cases rb with
      | false =>
        have HNO : Hid (readO s0 = none) := Lib.hid (by rw [HRO.out]; simp)
        go_wp2_with (first | ((with_reducible refine at_st (x := .tmp 2) ?_); refine st_at _ _ (frL (FN.zero 0) .nil .nil) (by rfl) (by rfl) hS.a2 (by rfl) (by rfl) (by rfl) ?_; intro w9 hA9 hk9) | fail)
        refine bodyPost_ret (results_cell_tmp 2 3 31 (by rfl) _ 31 _ _ _ (by rfl) (by rfl) hA9 Try.underlying31 rfl fr_info) rfl ?_
        exact ReadPost.no HNO.out (hS.out hk9).1
      | true =>
        have HYES : Hid (readO s0 = some (m, dsF, rsF, (bsF, false))) := Lib.hid (by rw [HRO.out]; simp)
        go_wp2_with (first | ((with_reducible refine at_ld (x := .tmp 5) ?_); refine ld_fr_g _ _ (by rfl) (by rfl) hS.a5 HLl.out ?_) | ((with_reducible refine at_st (x := .tmp 2) ?_); refine st_at _ _ LF (by rfl) (by rfl) hS.a2 (by rfl) HLl.out HO.out ?_; intro w9 hA9 hk9) | fail)
        refine bodyPost_ret (results_cell_tmp 2 3 31 (by rfl) _ 31 _ _ _ (by rfl) (by rfl) hA9 Try.underlying31 rfl (by rw [HLl.out]; exact fr_info)) rfl ?_
        have hfin := ReadPost.yes HYES.out ((hFit.kept hk9 (fun b hb e => by omega)).mono (fun b _ hb => by omega)) (hS.out hk9).2 (hS.out hk9).1
        rw [HFV.out] at hfin
        exact hfin
end Go.Proofs.Ytkahndjflhgccaa
