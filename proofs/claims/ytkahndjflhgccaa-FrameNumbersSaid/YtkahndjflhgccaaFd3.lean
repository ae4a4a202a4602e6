/-
  The document's Decode (narthexref4), for some first bytes (17, 25, 6, 28, 8, 9, 10, 11).
-/
import Derived.Test.YtkahndjflhgccaaMj
import Derived.Test.YtkahndjflhgccaaSteps
namespace Go.Proofs.Ytkahndjflhgccaa
set_option linter.unusedVariables false
set_option linter.unusedSimpArgs false
open Go.RowKit
set_option maxRecDepth 100000 in
set_option maxHeartbeats 8000000 in
theorem rdec_G3 (A : Option Addr) (n c : Nat) (bs : List Int) (w : World) (hr : Rd w w.heap.size A n bs) (hnc : n ≤ c) (hcm : c ≤ maxLen) (hA : A = none → c = 0) (hl : n ≤ 100000000000000) (hk : varR (bs, false) = 17 ∨ varR (bs, false) = 25 ∨ varR (bs, false) = 6 ∨ varR (bs, false) = 28 ∨ varR (bs, false) = 8 ∨ varR (bs, false) = 9 ∨ varR (bs, false) = 10 ∨ varR (bs, false) = 11) :
    Calls Try.prog 37 #[.slice A n c] w (RDPost w bs) := by
  have hrA := rdr_start A n c bs w hr hnc hcm hA
  have hP' : ∀ b, b < w.heap.size → b ≠ w.heap.size + 1 := fun b hb => by omega
  have hA20 : At ((w.alloc (.cells (frL (FN.zero 0) .nil .nil).toArray 31)).alloc (.cells #[.slice A n c, .bool false] 93)) w.heap.size 31 (frL (FN.zero 0) .nil .nil) := (At.new w _ _).alloc _
  have hB20 : Below w.heap.size w ((w.alloc (.cells (frL (FN.zero 0) .nil .nil).toArray 31)).alloc (.cells #[.slice A n c, .bool false] 93)) := ((Below.refl _ _).alloc (Nat.le_refl _) _).alloc (by simp) _
  have hbn := hr.1
  have HBN := Lib.hid hbn
  rcases hk with hk | hk | hk | hk | hk | hk | hk | hk
  focus
    have hby := varN_byt (bs, false) hr.2.1
    have hvl := varN_le (bs, false)
    simp only at hvl
    rw [hbn] at hvl
    clear hbn hr hA hcm
    have hd : rdK 17 (varN (bs, false)) = some (({ FN.zero 17 with s := (varR (varN (bs, false))), l := (varR (varN (varN (bs, false)))) } : FN), [], [], (varN (varN (varN (bs, false))))) := rfl
    have HK := Lib.hid hk
    obtain ⟨s1, e_s1⟩ : ∃ x, varN (bs, false) = x := ⟨_, rfl⟩
    rw [e_s1] at hd hby hvl
    have HD1 := Lib.hid e_s1
    have E_s1 := Lib.hid e_s1
    clear e_s1
    obtain ⟨x_s, e_x_s⟩ : ∃ x, varR s1 = x := ⟨_, rfl⟩
    rw [e_x_s] at hd
    have E_x_s := Lib.hid e_x_s
    clear e_x_s
    obtain ⟨s2, e_s2⟩ : ∃ x, varN s1 = x := ⟨_, rfl⟩
    rw [e_s2] at hd
    have E_s2 := Lib.hid e_s2
    clear e_s2
    obtain ⟨x_l, e_x_l⟩ : ∃ x, varR s2 = x := ⟨_, rfl⟩
    rw [e_x_l] at hd
    have E_x_l := Lib.hid e_x_l
    clear e_x_l
    obtain ⟨s3, e_s3⟩ : ∃ x, varN s2 = x := ⟨_, rfl⟩
    rw [e_s3] at hd
    have E_s3 := Lib.hid e_s3
    clear e_s3
    have HD := Lib.hid hd
    clear hd hk
    have hb255 : bits BinOp.and IntKind.u64 17 255 = 17 := by decide
    go_enter Try.func37, Try.ntmps37
    go_wp2_with fail
    refine (rvar_any (w.heap.size + 1) 93 _ (bs, false) _ hrA hP').mono ?_
    rintro e w1 ⟨rfl, hr1, hk1⟩
    rw [HK.out]
    rw [E_s1.out] at hr1
    have hS := RdS.start (frL (FN.zero 17) .nil .nil) (hk1.below hB20 hB20.size (fun j hj => by omega)) (hA20.kept hk1 (by omega)) hr1
    clear hr1 hk1 hrA hA20 hB20
    have hg25 := hS.g25
    have hg5 := hS.g5w
    have hp5 := hS.p5
    have hlt5 : w1.heap.size < (w1.alloc (.cells (frL (FN.zero 17) .nil .nil).toArray 31)).heap.size := by simp
    go_wp2_with (first | ((with_reducible refine at_st (x := .tmp 6) ?_); refine st_top _ _ _ (by rfl) _ (by rfl) (by simp) (by rfl) (by rfl) (by rfl) (by rfl) ?_) | fail)
    refine (rvar_any (w.heap.size + 1) 93 _ s1 _ hS.rd hP').mono ?_
    rintro e w2 ⟨rfl, hr2, hk2⟩
    have b_s := hS.rd.byt2
    rw [E_x_s.out] at b_s
    rw [E_x_s.out]
    rw [E_s2.out] at hr2
    have vl2 := varN_le s1
    rw [E_s2.out] at vl2
    have hS := hS.step hr2 hk2
    clear hr2 hk2
    go_wp2_with fail
    refine (rvar_any (w.heap.size + 1) 93 _ s2 _ hS.rd hP').mono ?_
    rintro e w3 ⟨rfl, hr3, hk3⟩
    have b_l := hS.rd.byt2
    rw [E_x_l.out] at b_l
    rw [E_x_l.out]
    rw [E_s3.out] at hr3
    have vl3 := varN_le s2
    rw [E_s3.out] at vl3
    have hS := hS.step hr3 hk3
    clear hr3 hk3
    have c_1 := hS.a5.cell 1
    have f_1 := hS.a5.frozen 1
    have c_5 := hS.a5.cell 5
    have f_5 := hS.a5.frozen 5
    simp only [frL, FN.zero, Sl.nil, withC, List.getElem?_cons_succ, List.getElem?_cons_zero, List.set_cons_zero, List.set_cons_succ] at c_1 c_5
    have hS := ((hS).cell 1 (.int .u64 x_s)).cell 5 (.int .u64 x_l)
    have hS := hS.cast (L6 := frL ({ FN.zero 17 with s := x_s, l := x_l } : FN) .nil .nil) (by rfl)
    have hwf : ({ FN.zero 17 with s := x_s, l := x_l } : FN).wf := wf_set (wf_zero 17 (by omega) (by omega)) x_s 0 x_l 0 0 0 0 false (by first | exact z62 | assumption) (by first | exact z62 | assumption) (by first | exact z62 | assumption) (by first | exact z62 | assumption) (by first | exact z62 | assumption) (by first | exact z62 | assumption) (by first | exact z62 | assumption)
    have hFit := hS.fits (P := fun b => w.heap.size + 1 ≤ b) hwf (InD.nil_ _ _) (InR.nil_ _ _)
    clear hwf
    obtain ⟨m, hm⟩ : ∃ m, ({ FN.zero 17 with s := x_s, l := x_l } : FN) = m := ⟨_, rfl⟩
    rw [hm] at hS hFit
    have HD2 : Hid (rdK 17 (varN (bs, false)) = some (m, [], [], s3)) := Lib.hid (by rw [HD1.out, HD.out, hm])
    obtain ⟨LF, hLF⟩ : ∃ L, frL m .nil .nil = L := ⟨_, rfl⟩
    have HLl : Hid (LF.length = 19) := Lib.hid (by rw [← hLF]; rfl)
    have HO : Hid (LF.all (·.oneCell') = true) := Lib.hid (by rw [← hLF]; rfl)
    have HFV : Hid (frV m .nil .nil = .agg LF.toArray) := Lib.hid (by rw [← hLF]; rfl)
    rw [hLF] at hS
    clear hm hLF
    obtain ⟨dsF, hdsF⟩ : ∃ z : List Int, [] = z := ⟨_, rfl⟩
    rw [hdsF] at hFit HD2
    obtain ⟨rsF, hrsF⟩ : ∃ z : RS, [] = z := ⟨_, rfl⟩
    rw [hrsF] at hFit HD2
    clear hdsF hrsF
    obtain ⟨bsF, badF⟩ := s3
    have hbad := hS.rd.bad_cell
    simp only at hbad
  rotate_left
  focus
    have hby := varN_byt (bs, false) hr.2.1
    have hvl := varN_le (bs, false)
    simp only at hvl
    rw [hbn] at hvl
    clear hbn hr hA hcm
    have hd : rdK 25 (varN (bs, false)) = some (({ FN.zero 25 with q := (varR (varN (bs, false))) } : FN), [], [], (varN (varN (bs, false)))) := rfl
    have HK := Lib.hid hk
    obtain ⟨s1, e_s1⟩ : ∃ x, varN (bs, false) = x := ⟨_, rfl⟩
    rw [e_s1] at hd hby hvl
    have HD1 := Lib.hid e_s1
    have E_s1 := Lib.hid e_s1
    clear e_s1
    obtain ⟨x_q, e_x_q⟩ : ∃ x, varR s1 = x := ⟨_, rfl⟩
    rw [e_x_q] at hd
    have E_x_q := Lib.hid e_x_q
    clear e_x_q
    obtain ⟨s2, e_s2⟩ : ∃ x, varN s1 = x := ⟨_, rfl⟩
    rw [e_s2] at hd
    have E_s2 := Lib.hid e_s2
    clear e_s2
    have HD := Lib.hid hd
    clear hd hk
    have hb255 : bits BinOp.and IntKind.u64 25 255 = 25 := by decide
    go_enter Try.func37, Try.ntmps37
    go_wp2_with fail
    refine (rvar_any (w.heap.size + 1) 93 _ (bs, false) _ hrA hP').mono ?_
    rintro e w1 ⟨rfl, hr1, hk1⟩
    rw [HK.out]
    rw [E_s1.out] at hr1
    have hS := RdS.start (frL (FN.zero 25) .nil .nil) (hk1.below hB20 hB20.size (fun j hj => by omega)) (hA20.kept hk1 (by omega)) hr1
    clear hr1 hk1 hrA hA20 hB20
    have hg25 := hS.g25
    have hg5 := hS.g5w
    have hp5 := hS.p5
    have hlt5 : w1.heap.size < (w1.alloc (.cells (frL (FN.zero 25) .nil .nil).toArray 31)).heap.size := by simp
    go_wp2_with (first | ((with_reducible refine at_st (x := .tmp 6) ?_); refine st_top _ _ _ (by rfl) _ (by rfl) (by simp) (by rfl) (by rfl) (by rfl) (by rfl) ?_) | fail)
    refine (rvar_any (w.heap.size + 1) 93 _ s1 _ hS.rd hP').mono ?_
    rintro e w2 ⟨rfl, hr2, hk2⟩
    have b_q := hS.rd.byt2
    rw [E_x_q.out] at b_q
    rw [E_x_q.out]
    rw [E_s2.out] at hr2
    have vl2 := varN_le s1
    rw [E_s2.out] at vl2
    have hS := hS.step hr2 hk2
    clear hr2 hk2
    have c_8 := hS.a5.cell 8
    have f_8 := hS.a5.frozen 8
    simp only [frL, FN.zero, Sl.nil, withC, List.getElem?_cons_succ, List.getElem?_cons_zero, List.set_cons_zero, List.set_cons_succ] at c_8
    have hS := (hS).cell 8 (.int .u64 x_q)
    have hS := hS.cast (L6 := frL ({ FN.zero 25 with q := x_q } : FN) .nil .nil) (by rfl)
    have hwf : ({ FN.zero 25 with q := x_q } : FN).wf := wf_set (wf_zero 25 (by omega) (by omega)) 0 0 0 0 0 x_q 0 false (by first | exact z62 | assumption) (by first | exact z62 | assumption) (by first | exact z62 | assumption) (by first | exact z62 | assumption) (by first | exact z62 | assumption) (by first | exact z62 | assumption) (by first | exact z62 | assumption)
    have hFit := hS.fits (P := fun b => w.heap.size + 1 ≤ b) hwf (InD.nil_ _ _) (InR.nil_ _ _)
    clear hwf
    obtain ⟨m, hm⟩ : ∃ m, ({ FN.zero 25 with q := x_q } : FN) = m := ⟨_, rfl⟩
    rw [hm] at hS hFit
    have HD2 : Hid (rdK 25 (varN (bs, false)) = some (m, [], [], s2)) := Lib.hid (by rw [HD1.out, HD.out, hm])
    obtain ⟨LF, hLF⟩ : ∃ L, frL m .nil .nil = L := ⟨_, rfl⟩
    have HLl : Hid (LF.length = 19) := Lib.hid (by rw [← hLF]; rfl)
    have HO : Hid (LF.all (·.oneCell') = true) := Lib.hid (by rw [← hLF]; rfl)
    have HFV : Hid (frV m .nil .nil = .agg LF.toArray) := Lib.hid (by rw [← hLF]; rfl)
    rw [hLF] at hS
    clear hm hLF
    obtain ⟨dsF, hdsF⟩ : ∃ z : List Int, [] = z := ⟨_, rfl⟩
    rw [hdsF] at hFit HD2
    obtain ⟨rsF, hrsF⟩ : ∃ z : RS, [] = z := ⟨_, rfl⟩
    rw [hrsF] at hFit HD2
    clear hdsF hrsF
    obtain ⟨bsF, badF⟩ := s2
    have hbad := hS.rd.bad_cell
    simp only at hbad
  rotate_left
  focus
    have hby := varN_byt (bs, false) hr.2.1
    have hvl := varN_le (bs, false)
    simp only at hvl
    rw [hbn] at hvl
    clear hbn hr hA hcm
    have hd : rdK 6 (varN (bs, false)) = some (({ FN.zero 6 with o := (varR (varN (bs, false))) } : FN), (textR (varN (varN (bs, false)))), [], (textN (varN (varN (bs, false))))) := rfl
    have HK := Lib.hid hk
    obtain ⟨s1, e_s1⟩ : ∃ x, varN (bs, false) = x := ⟨_, rfl⟩
    rw [e_s1] at hd hby hvl
    have HD1 := Lib.hid e_s1
    have E_s1 := Lib.hid e_s1
    clear e_s1
    obtain ⟨x_o, e_x_o⟩ : ∃ x, varR s1 = x := ⟨_, rfl⟩
    rw [e_x_o] at hd
    have E_x_o := Lib.hid e_x_o
    clear e_x_o
    obtain ⟨s2, e_s2⟩ : ∃ x, varN s1 = x := ⟨_, rfl⟩
    rw [e_s2] at hd
    have E_s2 := Lib.hid e_s2
    clear e_s2
    obtain ⟨D, e_D⟩ : ∃ x, textR s2 = x := ⟨_, rfl⟩
    rw [e_D] at hd
    have E_D := Lib.hid e_D
    clear e_D
    obtain ⟨s3, e_s3⟩ : ∃ x, textN s2 = x := ⟨_, rfl⟩
    rw [e_s3] at hd
    have E_s3 := Lib.hid e_s3
    clear e_s3
    have HD := Lib.hid hd
    clear hd hk
    have hb255 : bits BinOp.and IntKind.u64 6 255 = 6 := by decide
    go_enter Try.func37, Try.ntmps37
    go_wp2_with fail
    refine (rvar_any (w.heap.size + 1) 93 _ (bs, false) _ hrA hP').mono ?_
    rintro e w1 ⟨rfl, hr1, hk1⟩
    rw [HK.out]
    rw [E_s1.out] at hr1
    have hS := RdS.start (frL (FN.zero 6) .nil .nil) (hk1.below hB20 hB20.size (fun j hj => by omega)) (hA20.kept hk1 (by omega)) hr1
    clear hr1 hk1 hrA hA20 hB20
    have hg25 := hS.g25
    have hg5 := hS.g5w
    have hp5 := hS.p5
    have hlt5 : w1.heap.size < (w1.alloc (.cells (frL (FN.zero 6) .nil .nil).toArray 31)).heap.size := by simp
    go_wp2_with (first | ((with_reducible refine at_st (x := .tmp 6) ?_); refine st_top _ _ _ (by rfl) _ (by rfl) (by simp) (by rfl) (by rfl) (by rfl) (by rfl) ?_) | fail)
    refine (rvar_any (w.heap.size + 1) 93 _ s1 _ hS.rd hP').mono ?_
    rintro e w2 ⟨rfl, hr2, hk2⟩
    have b_o := hS.rd.byt2
    rw [E_x_o.out] at b_o
    rw [E_x_o.out]
    rw [E_s2.out] at hr2
    have vl2 := varN_le s1
    rw [E_s2.out] at vl2
    have hS := hS.step hr2 hk2
    clear hr2 hk2
    go_wp2_with fail
    have hown0 := rtext_any (w.heap.size + 1) 93 _ s2 _ hS.rd hP' (by omega)
    refine hown0.mono ?_
    rintro e w3 ⟨vD, rfl, hown, hr3, hk3⟩
    clear hown0
    rw [E_D.out] at hown
    rw [E_s3.out] at hr3
    obtain ⟨dA, dn, dc, rfl⟩ := hown.shape
    have hID := hown.inD hown.len_eq
    have hgD := hS.a5.lt
    have hgw := hS.bl.size
    clear hown
    have hS := hS.step hr3 hk3
    clear hr3 hk3
    have c_2 := hS.a5.cell 2
    have f_2 := hS.a5.frozen 2
    have c_3 := hS.a5.cell 3
    have f_3 := hS.a5.frozen 3
    simp only [frL, FN.zero, Sl.nil, withC, List.getElem?_cons_succ, List.getElem?_cons_zero, List.set_cons_zero, List.set_cons_succ] at c_2 c_3
    have hKS : Kept (· = w1.heap.size) w3 _ := ((Kept.refl (· = w1.heap.size) w3).setAt 2 (.int .u64 x_o)).setAt 3 (.slice dA dn dc)
    have hS := ((hS).cell 2 (.int .u64 x_o)).cell 3 (.slice dA dn dc)
    have hID := hID.after hgD (w.heap.size + 1) (by omega) hKS
    clear hKS
    have hS := hS.cast (L6 := frL ({ FN.zero 6 with o := x_o } : FN) ⟨dA, dn, dc⟩ .nil) (by rfl)
    have hwf : ({ FN.zero 6 with o := x_o } : FN).wf := wf_set (wf_zero 6 (by omega) (by omega)) 0 x_o 0 0 0 0 0 false (by first | exact z62 | assumption) (by first | exact z62 | assumption) (by first | exact z62 | assumption) (by first | exact z62 | assumption) (by first | exact z62 | assumption) (by first | exact z62 | assumption) (by first | exact z62 | assumption)
    have hFit := hS.fits (P := fun b => w.heap.size + 1 ≤ b) hwf (hID) (InR.nil_ _ _)
    clear hwf
    obtain ⟨m, hm⟩ : ∃ m, ({ FN.zero 6 with o := x_o } : FN) = m := ⟨_, rfl⟩
    rw [hm] at hS hFit
    have HD2 : Hid (rdK 6 (varN (bs, false)) = some (m, D, [], s3)) := Lib.hid (by rw [HD1.out, HD.out, hm])
    obtain ⟨LF, hLF⟩ : ∃ L, frL m ⟨dA, dn, dc⟩ .nil = L := ⟨_, rfl⟩
    have HLl : Hid (LF.length = 19) := Lib.hid (by rw [← hLF]; rfl)
    have HO : Hid (LF.all (·.oneCell') = true) := Lib.hid (by rw [← hLF]; rfl)
    have HFV : Hid (frV m ⟨dA, dn, dc⟩ .nil = .agg LF.toArray) := Lib.hid (by rw [← hLF]; rfl)
    rw [hLF] at hS
    clear hm hLF
    obtain ⟨dsF, hdsF⟩ : ∃ z : List Int, D = z := ⟨_, rfl⟩
    rw [hdsF] at hFit HD2
    obtain ⟨rsF, hrsF⟩ : ∃ z : RS, [] = z := ⟨_, rfl⟩
    rw [hrsF] at hFit HD2
    clear hdsF hrsF
    obtain ⟨bsF, badF⟩ := s3
    have hbad := hS.rd.bad_cell
    simp only at hbad
  rotate_left
  focus
    have hby := varN_byt (bs, false) hr.2.1
    have hvl := varN_le (bs, false)
    simp only at hvl
    rw [hbn] at hvl
    clear hbn hr hA hcm
    have hd : rdK 28 (varN (bs, false)) = some (({ FN.zero 28 with c := (varR (varN (bs, false))) } : FN), (textR (varN (varN (bs, false)))), [], (textN (varN (varN (bs, false))))) := rfl
    have HK := Lib.hid hk
    obtain ⟨s1, e_s1⟩ : ∃ x, varN (bs, false) = x := ⟨_, rfl⟩
    rw [e_s1] at hd hby hvl
    have HD1 := Lib.hid e_s1
    have E_s1 := Lib.hid e_s1
    clear e_s1
    obtain ⟨x_c, e_x_c⟩ : ∃ x, varR s1 = x := ⟨_, rfl⟩
    rw [e_x_c] at hd
    have E_x_c := Lib.hid e_x_c
    clear e_x_c
    obtain ⟨s2, e_s2⟩ : ∃ x, varN s1 = x := ⟨_, rfl⟩
    rw [e_s2] at hd
    have E_s2 := Lib.hid e_s2
    clear e_s2
    obtain ⟨D, e_D⟩ : ∃ x, textR s2 = x := ⟨_, rfl⟩
    rw [e_D] at hd
    have E_D := Lib.hid e_D
    clear e_D
    obtain ⟨s3, e_s3⟩ : ∃ x, textN s2 = x := ⟨_, rfl⟩
    rw [e_s3] at hd
    have E_s3 := Lib.hid e_s3
    clear e_s3
    have HD := Lib.hid hd
    clear hd hk
    have hb255 : bits BinOp.and IntKind.u64 28 255 = 28 := by decide
    go_enter Try.func37, Try.ntmps37
    go_wp2_with fail
    refine (rvar_any (w.heap.size + 1) 93 _ (bs, false) _ hrA hP').mono ?_
    rintro e w1 ⟨rfl, hr1, hk1⟩
    rw [HK.out]
    rw [E_s1.out] at hr1
    have hS := RdS.start (frL (FN.zero 28) .nil .nil) (hk1.below hB20 hB20.size (fun j hj => by omega)) (hA20.kept hk1 (by omega)) hr1
    clear hr1 hk1 hrA hA20 hB20
    have hg25 := hS.g25
    have hg5 := hS.g5w
    have hp5 := hS.p5
    have hlt5 : w1.heap.size < (w1.alloc (.cells (frL (FN.zero 28) .nil .nil).toArray 31)).heap.size := by simp
    go_wp2_with (first | ((with_reducible refine at_st (x := .tmp 6) ?_); refine st_top _ _ _ (by rfl) _ (by rfl) (by simp) (by rfl) (by rfl) (by rfl) (by rfl) ?_) | fail)
    refine (rvar_any (w.heap.size + 1) 93 _ s1 _ hS.rd hP').mono ?_
    rintro e w2 ⟨rfl, hr2, hk2⟩
    have b_c := hS.rd.byt2
    rw [E_x_c.out] at b_c
    rw [E_x_c.out]
    rw [E_s2.out] at hr2
    have vl2 := varN_le s1
    rw [E_s2.out] at vl2
    have hS := hS.step hr2 hk2
    clear hr2 hk2
    go_wp2_with fail
    have hown0 := rtext_any (w.heap.size + 1) 93 _ s2 _ hS.rd hP' (by omega)
    refine hown0.mono ?_
    rintro e w3 ⟨vD, rfl, hown, hr3, hk3⟩
    clear hown0
    rw [E_D.out] at hown
    rw [E_s3.out] at hr3
    obtain ⟨dA, dn, dc, rfl⟩ := hown.shape
    have hID := hown.inD hown.len_eq
    have hgD := hS.a5.lt
    have hgw := hS.bl.size
    clear hown
    have hS := hS.step hr3 hk3
    clear hr3 hk3
    have c_6 := hS.a5.cell 6
    have f_6 := hS.a5.frozen 6
    have c_3 := hS.a5.cell 3
    have f_3 := hS.a5.frozen 3
    simp only [frL, FN.zero, Sl.nil, withC, List.getElem?_cons_succ, List.getElem?_cons_zero, List.set_cons_zero, List.set_cons_succ] at c_6 c_3
    have hKS : Kept (· = w1.heap.size) w3 _ := ((Kept.refl (· = w1.heap.size) w3).setAt 6 (.int .u64 x_c)).setAt 3 (.slice dA dn dc)
    have hS := ((hS).cell 6 (.int .u64 x_c)).cell 3 (.slice dA dn dc)
    have hID := hID.after hgD (w.heap.size + 1) (by omega) hKS
    clear hKS
    have hS := hS.cast (L6 := frL ({ FN.zero 28 with c := x_c } : FN) ⟨dA, dn, dc⟩ .nil) (by rfl)
    have hwf : ({ FN.zero 28 with c := x_c } : FN).wf := wf_set (wf_zero 28 (by omega) (by omega)) 0 0 0 x_c 0 0 0 false (by first | exact z62 | assumption) (by first | exact z62 | assumption) (by first | exact z62 | assumption) (by first | exact z62 | assumption) (by first | exact z62 | assumption) (by first | exact z62 | assumption) (by first | exact z62 | assumption)
    have hFit := hS.fits (P := fun b => w.heap.size + 1 ≤ b) hwf (hID) (InR.nil_ _ _)
    clear hwf
    obtain ⟨m, hm⟩ : ∃ m, ({ FN.zero 28 with c := x_c } : FN) = m := ⟨_, rfl⟩
    rw [hm] at hS hFit
    have HD2 : Hid (rdK 28 (varN (bs, false)) = some (m, D, [], s3)) := Lib.hid (by rw [HD1.out, HD.out, hm])
    obtain ⟨LF, hLF⟩ : ∃ L, frL m ⟨dA, dn, dc⟩ .nil = L := ⟨_, rfl⟩
    have HLl : Hid (LF.length = 19) := Lib.hid (by rw [← hLF]; rfl)
    have HO : Hid (LF.all (·.oneCell') = true) := Lib.hid (by rw [← hLF]; rfl)
    have HFV : Hid (frV m ⟨dA, dn, dc⟩ .nil = .agg LF.toArray) := Lib.hid (by rw [← hLF]; rfl)
    rw [hLF] at hS
    clear hm hLF
    obtain ⟨dsF, hdsF⟩ : ∃ z : List Int, D = z := ⟨_, rfl⟩
    rw [hdsF] at hFit HD2
    obtain ⟨rsF, hrsF⟩ : ∃ z : RS, [] = z := ⟨_, rfl⟩
    rw [hrsF] at hFit HD2
    clear hdsF hrsF
    obtain ⟨bsF, badF⟩ := s3
    have hbad := hS.rd.bad_cell
    simp only at hbad
  rotate_left
  focus
    have hby := varN_byt (bs, false) hr.2.1
    have hvl := varN_le (bs, false)
    simp only at hvl
    rw [hbn] at hvl
    clear hbn hr hA hcm
    have hd : rdK 8 (varN (bs, false)) = some (({ FN.zero 8 with s := (varR (varN (bs, false))), o := 0, fin := false } : FN), (dataR (varN (varN (bs, false))) false), [], (dataN (varN (varN (bs, false))) false)) := rfl
    have HK := Lib.hid hk
    obtain ⟨s1, e_s1⟩ : ∃ x, varN (bs, false) = x := ⟨_, rfl⟩
    rw [e_s1] at hd hby hvl
    have HD1 := Lib.hid e_s1
    have E_s1 := Lib.hid e_s1
    clear e_s1
    obtain ⟨x_s, e_x_s⟩ : ∃ x, varR s1 = x := ⟨_, rfl⟩
    rw [e_x_s] at hd
    have E_x_s := Lib.hid e_x_s
    clear e_x_s
    obtain ⟨s2, e_s2⟩ : ∃ x, varN s1 = x := ⟨_, rfl⟩
    rw [e_s2] at hd
    have E_s2 := Lib.hid e_s2
    clear e_s2
    obtain ⟨D, e_D⟩ : ∃ x, dataR s2 false = x := ⟨_, rfl⟩
    rw [e_D] at hd
    have E_D := Lib.hid e_D
    clear e_D
    obtain ⟨s3, e_s3⟩ : ∃ x, dataN s2 false = x := ⟨_, rfl⟩
    rw [e_s3] at hd
    have E_s3 := Lib.hid e_s3
    clear e_s3
    have HD := Lib.hid hd
    clear hd hk
    have hb255 : bits BinOp.and IntKind.u64 8 255 = 8 := by decide
    have hb4 : (bits BinOp.and IntKind.u64 8 4 != 0) = false := by decide
    have hb2 : (bits BinOp.and IntKind.u64 8 2 != 0) = false := by decide
    have hb1 : (bits BinOp.and IntKind.u64 8 1 != 0) = false := by decide
    go_enter Try.func37, Try.ntmps37
    go_wp2_with fail
    refine (rvar_any (w.heap.size + 1) 93 _ (bs, false) _ hrA hP').mono ?_
    rintro e w1 ⟨rfl, hr1, hk1⟩
    rw [HK.out]
    rw [E_s1.out] at hr1
    have hblS := hk1.below hB20 hB20.size (fun j hj => by omega)
    have hA2S := hA20.kept hk1 (by omega)
    have hr1S := hr1
    have hS := RdS.start (frL (FN.zero 8) .nil .nil) (hk1.below hB20 hB20.size (fun j hj => by omega)) (hA20.kept hk1 (by omega)) hr1
    clear hr1 hk1 hrA hA20 hB20
    have hg25 := hS.g25
    have hg5 := hS.g5w
    have hp5 := hS.p5
    have hlt5 : w1.heap.size < (w1.alloc (.cells (frL (FN.zero 8) .nil .nil).toArray 31)).heap.size := by simp
    have c_0 := hS.a5.cell 0
    have f_0 := hS.a5.frozen 0
    simp only [frL, FN.zero, Sl.nil, withC, List.getElem?_cons_succ, List.getElem?_cons_zero, List.set_cons_zero, List.set_cons_succ] at c_0
    have hS0 := RdS.start (frL (FN.zero 8) .nil .nil) hblS hA2S hr1S
    have hS := hS0
    clear hS0 c_0 f_0
    go_wp2_with (first | ((with_reducible refine at_st (x := .tmp 6) ?_); refine st_top _ _ _ (by rfl) _ (by rfl) (by simp) (by rfl) (by rfl) (by rfl) (by rfl) ?_) | fail)
    refine (rvar_any (w.heap.size + 1) 93 _ s1 _ hS.rd hP').mono ?_
    rintro e w2 ⟨rfl, hr2, hk2⟩
    have b_s := hS.rd.byt2
    rw [E_x_s.out] at b_s
    rw [E_x_s.out]
    rw [E_s2.out] at hr2
    have vl2 := varN_le s1
    rw [E_s2.out] at vl2
    have hS := hS.step hr2 hk2
    clear hr2 hk2
    have c_1 := hS.a5.cell 1
    have f_1 := hS.a5.frozen 1
    simp only [frL, FN.zero, Sl.nil, withC, List.getElem?_cons_succ, List.getElem?_cons_zero, List.set_cons_zero, List.set_cons_succ] at c_1
    have hS := (hS).cell 1 (.int .u64 x_s)
    obtain ⟨rA0, rn0, rc0, hrow, hrl, _, _⟩ := hS.rd.row_cell
    have HRL := Lib.hid hrl
    clear hrl
    go_wp2_with fail
    clear c_1 f_1
    have hown0 := rraw_any (w.heap.size + 1) 93 _ s2 (rn0 : Int) _ hS.rd hP' (by omega)
    rw [show takeR s2 (rn0 : Int) = dataR s2 false by (rw [← HRL.out]; rfl), show takeN s2 (rn0 : Int) = dataN s2 false by (rw [← HRL.out]; rfl)] at hown0
    refine hown0.mono ?_
    rintro e w3 ⟨vD, rfl, hown, hr3, hk3⟩
    clear hown0
    clear hrow
    rw [E_D.out] at hown
    rw [E_s3.out] at hr3
    obtain ⟨dA, dn, dc, rfl⟩ := hown.shape
    have hID := hown.inD hown.len_eq
    have hgD := hS.a5.lt
    have hgw := hS.bl.size
    clear hown
    have hS := hS.step hr3 hk3
    clear hr3 hk3
    have c_3 := hS.a5.cell 3
    have f_3 := hS.a5.frozen 3
    have c_4 := hS.a5.cell 4
    have f_4 := hS.a5.frozen 4
    simp only [frL, FN.zero, Sl.nil, withC, List.getElem?_cons_succ, List.getElem?_cons_zero, List.set_cons_zero, List.set_cons_succ] at c_3 c_4
    have hKS : Kept (· = w1.heap.size) w3 _ := ((Kept.refl (· = w1.heap.size) w3).setAt 3 (.slice dA dn dc)).setAt 4 (.bool false)
    have hS := ((hS).cell 3 (.slice dA dn dc)).cell 4 (.bool false)
    have hID := hID.after hgD (w.heap.size + 1) (by omega) hKS
    clear hKS
    have hS := hS.cast (L6 := frL ({ FN.zero 8 with s := x_s, o := 0, fin := false } : FN) ⟨dA, dn, dc⟩ .nil) (by rfl)
    have hwf : ({ FN.zero 8 with s := x_s, o := 0, fin := false } : FN).wf := wf_set (wf_zero 8 (by omega) (by omega)) x_s 0 0 0 0 0 0 false (by first | exact z62 | assumption) (by first | exact z62 | assumption) (by first | exact z62 | assumption) (by first | exact z62 | assumption) (by first | exact z62 | assumption) (by first | exact z62 | assumption) (by first | exact z62 | assumption)
    have hFit := hS.fits (P := fun b => w.heap.size + 1 ≤ b) hwf (hID) (InR.nil_ _ _)
    clear hwf
    obtain ⟨m, hm⟩ : ∃ m, ({ FN.zero 8 with s := x_s, o := 0, fin := false } : FN) = m := ⟨_, rfl⟩
    rw [hm] at hS hFit
    have HD2 : Hid (rdK 8 (varN (bs, false)) = some (m, D, [], s3)) := Lib.hid (by rw [HD1.out, HD.out, hm])
    obtain ⟨LF, hLF⟩ : ∃ L, frL m ⟨dA, dn, dc⟩ .nil = L := ⟨_, rfl⟩
    have HLl : Hid (LF.length = 19) := Lib.hid (by rw [← hLF]; rfl)
    have HO : Hid (LF.all (·.oneCell') = true) := Lib.hid (by rw [← hLF]; rfl)
    have HFV : Hid (frV m ⟨dA, dn, dc⟩ .nil = .agg LF.toArray) := Lib.hid (by rw [← hLF]; rfl)
    rw [hLF] at hS
    clear hm hLF
    obtain ⟨dsF, hdsF⟩ : ∃ z : List Int, D = z := ⟨_, rfl⟩
    rw [hdsF] at hFit HD2
    obtain ⟨rsF, hrsF⟩ : ∃ z : RS, [] = z := ⟨_, rfl⟩
    rw [hrsF] at hFit HD2
    clear hdsF hrsF
    obtain ⟨bsF, badF⟩ := s3
    have hbad := hS.rd.bad_cell
    simp only at hbad
  rotate_left
  focus
    have hby := varN_byt (bs, false) hr.2.1
    have hvl := varN_le (bs, false)
    simp only at hvl
    rw [hbn] at hvl
    clear hbn hr hA hcm
    have hd : rdK 9 (varN (bs, false)) = some (({ FN.zero 8 with s := (varR (varN (bs, false))), o := 0, fin := true } : FN), (dataR (varN (varN (bs, false))) false), [], (dataN (varN (varN (bs, false))) false)) := rfl
    have HK := Lib.hid hk
    obtain ⟨s1, e_s1⟩ : ∃ x, varN (bs, false) = x := ⟨_, rfl⟩
    rw [e_s1] at hd hby hvl
    have HD1 := Lib.hid e_s1
    have E_s1 := Lib.hid e_s1
    clear e_s1
    obtain ⟨x_s, e_x_s⟩ : ∃ x, varR s1 = x := ⟨_, rfl⟩
    rw [e_x_s] at hd
    have E_x_s := Lib.hid e_x_s
    clear e_x_s
    obtain ⟨s2, e_s2⟩ : ∃ x, varN s1 = x := ⟨_, rfl⟩
    rw [e_s2] at hd
    have E_s2 := Lib.hid e_s2
    clear e_s2
    obtain ⟨D, e_D⟩ : ∃ x, dataR s2 false = x := ⟨_, rfl⟩
    rw [e_D] at hd
    have E_D := Lib.hid e_D
    clear e_D
    obtain ⟨s3, e_s3⟩ : ∃ x, dataN s2 false = x := ⟨_, rfl⟩
    rw [e_s3] at hd
    have E_s3 := Lib.hid e_s3
    clear e_s3
    have HD := Lib.hid hd
    clear hd hk
    have hb255 : bits BinOp.and IntKind.u64 9 255 = 9 := by decide
    have hb4 : (bits BinOp.and IntKind.u64 9 4 != 0) = false := by decide
    have hb2 : (bits BinOp.and IntKind.u64 9 2 != 0) = false := by decide
    have hb1 : (bits BinOp.and IntKind.u64 9 1 != 0) = true := by decide
    go_enter Try.func37, Try.ntmps37
    go_wp2_with fail
    refine (rvar_any (w.heap.size + 1) 93 _ (bs, false) _ hrA hP').mono ?_
    rintro e w1 ⟨rfl, hr1, hk1⟩
    rw [HK.out]
    rw [E_s1.out] at hr1
    have hblS := hk1.below hB20 hB20.size (fun j hj => by omega)
    have hA2S := hA20.kept hk1 (by omega)
    have hr1S := hr1
    have hS := RdS.start (frL (FN.zero 9) .nil .nil) (hk1.below hB20 hB20.size (fun j hj => by omega)) (hA20.kept hk1 (by omega)) hr1
    clear hr1 hk1 hrA hA20 hB20
    have hg25 := hS.g25
    have hg5 := hS.g5w
    have hp5 := hS.p5
    have hlt5 : w1.heap.size < (w1.alloc (.cells (frL (FN.zero 9) .nil .nil).toArray 31)).heap.size := by simp
    have c_0 := hS.a5.cell 0
    have f_0 := hS.a5.frozen 0
    simp only [frL, FN.zero, Sl.nil, withC, List.getElem?_cons_succ, List.getElem?_cons_zero, List.set_cons_zero, List.set_cons_succ] at c_0
    have hS0 := RdS.start (frL (FN.zero 8) .nil .nil) hblS hA2S hr1S
    have hS := hS0
    clear hS0 c_0 f_0
    go_wp2_with (first | ((with_reducible refine at_st (x := .tmp 6) ?_); refine st_top _ _ _ (by rfl) _ (by rfl) (by simp) (by rfl) (by rfl) (by rfl) (by rfl) ?_) | fail)
    refine (rvar_any (w.heap.size + 1) 93 _ s1 _ hS.rd hP').mono ?_
    rintro e w2 ⟨rfl, hr2, hk2⟩
    have b_s := hS.rd.byt2
    rw [E_x_s.out] at b_s
    rw [E_x_s.out]
    rw [E_s2.out] at hr2
    have vl2 := varN_le s1
    rw [E_s2.out] at vl2
    have hS := hS.step hr2 hk2
    clear hr2 hk2
    have c_1 := hS.a5.cell 1
    have f_1 := hS.a5.frozen 1
    simp only [frL, FN.zero, Sl.nil, withC, List.getElem?_cons_succ, List.getElem?_cons_zero, List.set_cons_zero, List.set_cons_succ] at c_1
    have hS := (hS).cell 1 (.int .u64 x_s)
    obtain ⟨rA0, rn0, rc0, hrow, hrl, _, _⟩ := hS.rd.row_cell
    have HRL := Lib.hid hrl
    clear hrl
    go_wp2_with fail
    clear c_1 f_1
    have hown0 := rraw_any (w.heap.size + 1) 93 _ s2 (rn0 : Int) _ hS.rd hP' (by omega)
    rw [show takeR s2 (rn0 : Int) = dataR s2 false by (rw [← HRL.out]; rfl), show takeN s2 (rn0 : Int) = dataN s2 false by (rw [← HRL.out]; rfl)] at hown0
    refine hown0.mono ?_
    rintro e w3 ⟨vD, rfl, hown, hr3, hk3⟩
    clear hown0
    clear hrow
    rw [E_D.out] at hown
    rw [E_s3.out] at hr3
    obtain ⟨dA, dn, dc, rfl⟩ := hown.shape
    have hID := hown.inD hown.len_eq
    have hgD := hS.a5.lt
    have hgw := hS.bl.size
    clear hown
    have hS := hS.step hr3 hk3
    clear hr3 hk3
    have c_3 := hS.a5.cell 3
    have f_3 := hS.a5.frozen 3
    have c_4 := hS.a5.cell 4
    have f_4 := hS.a5.frozen 4
    simp only [frL, FN.zero, Sl.nil, withC, List.getElem?_cons_succ, List.getElem?_cons_zero, List.set_cons_zero, List.set_cons_succ] at c_3 c_4
    have hKS : Kept (· = w1.heap.size) w3 _ := ((Kept.refl (· = w1.heap.size) w3).setAt 3 (.slice dA dn dc)).setAt 4 (.bool true)
    have hS := ((hS).cell 3 (.slice dA dn dc)).cell 4 (.bool true)
    have hID := hID.after hgD (w.heap.size + 1) (by omega) hKS
    clear hKS
    have hS := hS.cast (L6 := frL ({ FN.zero 8 with s := x_s, o := 0, fin := true } : FN) ⟨dA, dn, dc⟩ .nil) (by rfl)
    have hwf : ({ FN.zero 8 with s := x_s, o := 0, fin := true } : FN).wf := wf_set (wf_zero 8 (by omega) (by omega)) x_s 0 0 0 0 0 0 true (by first | exact z62 | assumption) (by first | exact z62 | assumption) (by first | exact z62 | assumption) (by first | exact z62 | assumption) (by first | exact z62 | assumption) (by first | exact z62 | assumption) (by first | exact z62 | assumption)
    have hFit := hS.fits (P := fun b => w.heap.size + 1 ≤ b) hwf (hID) (InR.nil_ _ _)
    clear hwf
    obtain ⟨m, hm⟩ : ∃ m, ({ FN.zero 8 with s := x_s, o := 0, fin := true } : FN) = m := ⟨_, rfl⟩
    rw [hm] at hS hFit
    have HD2 : Hid (rdK 9 (varN (bs, false)) = some (m, D, [], s3)) := Lib.hid (by rw [HD1.out, HD.out, hm])
    obtain ⟨LF, hLF⟩ : ∃ L, frL m ⟨dA, dn, dc⟩ .nil = L := ⟨_, rfl⟩
    have HLl : Hid (LF.length = 19) := Lib.hid (by rw [← hLF]; rfl)
    have HO : Hid (LF.all (·.oneCell') = true) := Lib.hid (by rw [← hLF]; rfl)
    have HFV : Hid (frV m ⟨dA, dn, dc⟩ .nil = .agg LF.toArray) := Lib.hid (by rw [← hLF]; rfl)
    rw [hLF] at hS
    clear hm hLF
    obtain ⟨dsF, hdsF⟩ : ∃ z : List Int, D = z := ⟨_, rfl⟩
    rw [hdsF] at hFit HD2
    obtain ⟨rsF, hrsF⟩ : ∃ z : RS, [] = z := ⟨_, rfl⟩
    rw [hrsF] at hFit HD2
    clear hdsF hrsF
    obtain ⟨bsF, badF⟩ := s3
    have hbad := hS.rd.bad_cell
    simp only at hbad
  rotate_left
  focus
    have hby := varN_byt (bs, false) hr.2.1
    have hvl := varN_le (bs, false)
    simp only at hvl
    rw [hbn] at hvl
    clear hbn hr hA hcm
    have hd : rdK 10 (varN (bs, false)) = some (({ FN.zero 8 with s := (varR (varN (bs, false))), o := 0, fin := false } : FN), (dataR (varN (varN (bs, false))) true), [], (dataN (varN (varN (bs, false))) true)) := rfl
    have HK := Lib.hid hk
    obtain ⟨s1, e_s1⟩ : ∃ x, varN (bs, false) = x := ⟨_, rfl⟩
    rw [e_s1] at hd hby hvl
    have HD1 := Lib.hid e_s1
    have E_s1 := Lib.hid e_s1
    clear e_s1
    obtain ⟨x_s, e_x_s⟩ : ∃ x, varR s1 = x := ⟨_, rfl⟩
    rw [e_x_s] at hd
    have E_x_s := Lib.hid e_x_s
    clear e_x_s
    obtain ⟨s2, e_s2⟩ : ∃ x, varN s1 = x := ⟨_, rfl⟩
    rw [e_s2] at hd
    have E_s2 := Lib.hid e_s2
    clear e_s2
    obtain ⟨D, e_D⟩ : ∃ x, dataR s2 true = x := ⟨_, rfl⟩
    rw [e_D] at hd
    have E_D := Lib.hid e_D
    clear e_D
    obtain ⟨s3, e_s3⟩ : ∃ x, dataN s2 true = x := ⟨_, rfl⟩
    rw [e_s3] at hd
    have E_s3 := Lib.hid e_s3
    clear e_s3
    have HD := Lib.hid hd
    clear hd hk
    have hb255 : bits BinOp.and IntKind.u64 10 255 = 10 := by decide
    have hb4 : (bits BinOp.and IntKind.u64 10 4 != 0) = false := by decide
    have hb2 : (bits BinOp.and IntKind.u64 10 2 != 0) = true := by decide
    have hb1 : (bits BinOp.and IntKind.u64 10 1 != 0) = false := by decide
    go_enter Try.func37, Try.ntmps37
    go_wp2_with fail
    refine (rvar_any (w.heap.size + 1) 93 _ (bs, false) _ hrA hP').mono ?_
    rintro e w1 ⟨rfl, hr1, hk1⟩
    rw [HK.out]
    rw [E_s1.out] at hr1
    have hblS := hk1.below hB20 hB20.size (fun j hj => by omega)
    have hA2S := hA20.kept hk1 (by omega)
    have hr1S := hr1
    have hS := RdS.start (frL (FN.zero 10) .nil .nil) (hk1.below hB20 hB20.size (fun j hj => by omega)) (hA20.kept hk1 (by omega)) hr1
    clear hr1 hk1 hrA hA20 hB20
    have hg25 := hS.g25
    have hg5 := hS.g5w
    have hp5 := hS.p5
    have hlt5 : w1.heap.size < (w1.alloc (.cells (frL (FN.zero 10) .nil .nil).toArray 31)).heap.size := by simp
    have c_0 := hS.a5.cell 0
    have f_0 := hS.a5.frozen 0
    simp only [frL, FN.zero, Sl.nil, withC, List.getElem?_cons_succ, List.getElem?_cons_zero, List.set_cons_zero, List.set_cons_succ] at c_0
    have hS0 := RdS.start (frL (FN.zero 8) .nil .nil) hblS hA2S hr1S
    have hS := hS0
    clear hS0 c_0 f_0
    go_wp2_with (first | ((with_reducible refine at_st (x := .tmp 6) ?_); refine st_top _ _ _ (by rfl) _ (by rfl) (by simp) (by rfl) (by rfl) (by rfl) (by rfl) ?_) | fail)
    refine (rvar_any (w.heap.size + 1) 93 _ s1 _ hS.rd hP').mono ?_
    rintro e w2 ⟨rfl, hr2, hk2⟩
    have b_s := hS.rd.byt2
    rw [E_x_s.out] at b_s
    rw [E_x_s.out]
    rw [E_s2.out] at hr2
    have vl2 := varN_le s1
    rw [E_s2.out] at vl2
    have hS := hS.step hr2 hk2
    clear hr2 hk2
    have c_1 := hS.a5.cell 1
    have f_1 := hS.a5.frozen 1
    simp only [frL, FN.zero, Sl.nil, withC, List.getElem?_cons_succ, List.getElem?_cons_zero, List.set_cons_zero, List.set_cons_succ] at c_1
    have hS := (hS).cell 1 (.int .u64 x_s)
    go_wp2_with fail
    clear c_1 f_1
    have hown0 := rtext_any (w.heap.size + 1) 93 _ s2 _ hS.rd hP' (by omega)
    rw [show textR s2 = dataR s2 true from rfl, show textN s2 = dataN s2 true from rfl] at hown0
    refine hown0.mono ?_
    rintro e w3 ⟨vD, rfl, hown, hr3, hk3⟩
    clear hown0
    rw [E_D.out] at hown
    rw [E_s3.out] at hr3
    obtain ⟨dA, dn, dc, rfl⟩ := hown.shape
    have hID := hown.inD hown.len_eq
    have hgD := hS.a5.lt
    have hgw := hS.bl.size
    clear hown
    have hS := hS.step hr3 hk3
    clear hr3 hk3
    have c_3 := hS.a5.cell 3
    have f_3 := hS.a5.frozen 3
    have c_4 := hS.a5.cell 4
    have f_4 := hS.a5.frozen 4
    simp only [frL, FN.zero, Sl.nil, withC, List.getElem?_cons_succ, List.getElem?_cons_zero, List.set_cons_zero, List.set_cons_succ] at c_3 c_4
    have hKS : Kept (· = w1.heap.size) w3 _ := ((Kept.refl (· = w1.heap.size) w3).setAt 3 (.slice dA dn dc)).setAt 4 (.bool false)
    have hS := ((hS).cell 3 (.slice dA dn dc)).cell 4 (.bool false)
    have hID := hID.after hgD (w.heap.size + 1) (by omega) hKS
    clear hKS
    have hS := hS.cast (L6 := frL ({ FN.zero 8 with s := x_s, o := 0, fin := false } : FN) ⟨dA, dn, dc⟩ .nil) (by rfl)
    have hwf : ({ FN.zero 8 with s := x_s, o := 0, fin := false } : FN).wf := wf_set (wf_zero 8 (by omega) (by omega)) x_s 0 0 0 0 0 0 false (by first | exact z62 | assumption) (by first | exact z62 | assumption) (by first | exact z62 | assumption) (by first | exact z62 | assumption) (by first | exact z62 | assumption) (by first | exact z62 | assumption) (by first | exact z62 | assumption)
    have hFit := hS.fits (P := fun b => w.heap.size + 1 ≤ b) hwf (hID) (InR.nil_ _ _)
    clear hwf
    obtain ⟨m, hm⟩ : ∃ m, ({ FN.zero 8 with s := x_s, o := 0, fin := false } : FN) = m := ⟨_, rfl⟩
    rw [hm] at hS hFit
    have HD2 : Hid (rdK 10 (varN (bs, false)) = some (m, D, [], s3)) := Lib.hid (by rw [HD1.out, HD.out, hm])
    obtain ⟨LF, hLF⟩ : ∃ L, frL m ⟨dA, dn, dc⟩ .nil = L := ⟨_, rfl⟩
    have HLl : Hid (LF.length = 19) := Lib.hid (by rw [← hLF]; rfl)
    have HO : Hid (LF.all (·.oneCell') = true) := Lib.hid (by rw [← hLF]; rfl)
    have HFV : Hid (frV m ⟨dA, dn, dc⟩ .nil = .agg LF.toArray) := Lib.hid (by rw [← hLF]; rfl)
    rw [hLF] at hS
    clear hm hLF
    obtain ⟨dsF, hdsF⟩ : ∃ z : List Int, D = z := ⟨_, rfl⟩
    rw [hdsF] at hFit HD2
    obtain ⟨rsF, hrsF⟩ : ∃ z : RS, [] = z := ⟨_, rfl⟩
    rw [hrsF] at hFit HD2
    clear hdsF hrsF
    obtain ⟨bsF, badF⟩ := s3
    have hbad := hS.rd.bad_cell
    simp only at hbad
  rotate_left
  focus
    have hby := varN_byt (bs, false) hr.2.1
    have hvl := varN_le (bs, false)
    simp only at hvl
    rw [hbn] at hvl
    clear hbn hr hA hcm
    have hd : rdK 11 (varN (bs, false)) = some (({ FN.zero 8 with s := (varR (varN (bs, false))), o := 0, fin := true } : FN), (dataR (varN (varN (bs, false))) true), [], (dataN (varN (varN (bs, false))) true)) := rfl
    have HK := Lib.hid hk
    obtain ⟨s1, e_s1⟩ : ∃ x, varN (bs, false) = x := ⟨_, rfl⟩
    rw [e_s1] at hd hby hvl
    have HD1 := Lib.hid e_s1
    have E_s1 := Lib.hid e_s1
    clear e_s1
    obtain ⟨x_s, e_x_s⟩ : ∃ x, varR s1 = x := ⟨_, rfl⟩
    rw [e_x_s] at hd
    have E_x_s := Lib.hid e_x_s
    clear e_x_s
    obtain ⟨s2, e_s2⟩ : ∃ x, varN s1 = x := ⟨_, rfl⟩
    rw [e_s2] at hd
    have E_s2 := Lib.hid e_s2
    clear e_s2
    obtain ⟨D, e_D⟩ : ∃ x, dataR s2 true = x := ⟨_, rfl⟩
    rw [e_D] at hd
    have E_D := Lib.hid e_D
    clear e_D
    obtain ⟨s3, e_s3⟩ : ∃ x, dataN s2 true = x := ⟨_, rfl⟩
    rw [e_s3] at hd
    have E_s3 := Lib.hid e_s3
    clear e_s3
    have HD := Lib.hid hd
    clear hd hk
    have hb255 : bits BinOp.and IntKind.u64 11 255 = 11 := by decide
    have hb4 : (bits BinOp.and IntKind.u64 11 4 != 0) = false := by decide
    have hb2 : (bits BinOp.and IntKind.u64 11 2 != 0) = true := by decide
    have hb1 : (bits BinOp.and IntKind.u64 11 1 != 0) = true := by decide
    go_enter Try.func37, Try.ntmps37
    go_wp2_with fail
    refine (rvar_any (w.heap.size + 1) 93 _ (bs, false) _ hrA hP').mono ?_
    rintro e w1 ⟨rfl, hr1, hk1⟩
    rw [HK.out]
    rw [E_s1.out] at hr1
    have hblS := hk1.below hB20 hB20.size (fun j hj => by omega)
    have hA2S := hA20.kept hk1 (by omega)
    have hr1S := hr1
    have hS := RdS.start (frL (FN.zero 11) .nil .nil) (hk1.below hB20 hB20.size (fun j hj => by omega)) (hA20.kept hk1 (by omega)) hr1
    clear hr1 hk1 hrA hA20 hB20
    have hg25 := hS.g25
    have hg5 := hS.g5w
    have hp5 := hS.p5
    have hlt5 : w1.heap.size < (w1.alloc (.cells (frL (FN.zero 11) .nil .nil).toArray 31)).heap.size := by simp
    have c_0 := hS.a5.cell 0
    have f_0 := hS.a5.frozen 0
    simp only [frL, FN.zero, Sl.nil, withC, List.getElem?_cons_succ, List.getElem?_cons_zero, List.set_cons_zero, List.set_cons_succ] at c_0
    have hS0 := RdS.start (frL (FN.zero 8) .nil .nil) hblS hA2S hr1S
    have hS := hS0
    clear hS0 c_0 f_0
    go_wp2_with (first | ((with_reducible refine at_st (x := .tmp 6) ?_); refine st_top _ _ _ (by rfl) _ (by rfl) (by simp) (by rfl) (by rfl) (by rfl) (by rfl) ?_) | fail)
    refine (rvar_any (w.heap.size + 1) 93 _ s1 _ hS.rd hP').mono ?_
    rintro e w2 ⟨rfl, hr2, hk2⟩
    have b_s := hS.rd.byt2
    rw [E_x_s.out] at b_s
    rw [E_x_s.out]
    rw [E_s2.out] at hr2
    have vl2 := varN_le s1
    rw [E_s2.out] at vl2
    have hS := hS.step hr2 hk2
    clear hr2 hk2
    have c_1 := hS.a5.cell 1
    have f_1 := hS.a5.frozen 1
    simp only [frL, FN.zero, Sl.nil, withC, List.getElem?_cons_succ, List.getElem?_cons_zero, List.set_cons_zero, List.set_cons_succ] at c_1
    have hS := (hS).cell 1 (.int .u64 x_s)
    go_wp2_with fail
    clear c_1 f_1
    have hown0 := rtext_any (w.heap.size + 1) 93 _ s2 _ hS.rd hP' (by omega)
    rw [show textR s2 = dataR s2 true from rfl, show textN s2 = dataN s2 true from rfl] at hown0
    refine hown0.mono ?_
    rintro e w3 ⟨vD, rfl, hown, hr3, hk3⟩
    clear hown0
    rw [E_D.out] at hown
    rw [E_s3.out] at hr3
    obtain ⟨dA, dn, dc, rfl⟩ := hown.shape
    have hID := hown.inD hown.len_eq
    have hgD := hS.a5.lt
    have hgw := hS.bl.size
    clear hown
    have hS := hS.step hr3 hk3
    clear hr3 hk3
    have c_3 := hS.a5.cell 3
    have f_3 := hS.a5.frozen 3
    have c_4 := hS.a5.cell 4
    have f_4 := hS.a5.frozen 4
    simp only [frL, FN.zero, Sl.nil, withC, List.getElem?_cons_succ, List.getElem?_cons_zero, List.set_cons_zero, List.set_cons_succ] at c_3 c_4
    have hKS : Kept (· = w1.heap.size) w3 _ := ((Kept.refl (· = w1.heap.size) w3).setAt 3 (.slice dA dn dc)).setAt 4 (.bool true)
    have hS := ((hS).cell 3 (.slice dA dn dc)).cell 4 (.bool true)
    have hID := hID.after hgD (w.heap.size + 1) (by omega) hKS
    clear hKS
    have hS := hS.cast (L6 := frL ({ FN.zero 8 with s := x_s, o := 0, fin := true } : FN) ⟨dA, dn, dc⟩ .nil) (by rfl)
    have hwf : ({ FN.zero 8 with s := x_s, o := 0, fin := true } : FN).wf := wf_set (wf_zero 8 (by omega) (by omega)) x_s 0 0 0 0 0 0 true (by first | exact z62 | assumption) (by first | exact z62 | assumption) (by first | exact z62 | assumption) (by first | exact z62 | assumption) (by first | exact z62 | assumption) (by first | exact z62 | assumption) (by first | exact z62 | assumption)
    have hFit := hS.fits (P := fun b => w.heap.size + 1 ≤ b) hwf (hID) (InR.nil_ _ _)
    clear hwf
    obtain ⟨m, hm⟩ : ∃ m, ({ FN.zero 8 with s := x_s, o := 0, fin := true } : FN) = m := ⟨_, rfl⟩
    rw [hm] at hS hFit
    have HD2 : Hid (rdK 11 (varN (bs, false)) = some (m, D, [], s3)) := Lib.hid (by rw [HD1.out, HD.out, hm])
    obtain ⟨LF, hLF⟩ : ∃ L, frL m ⟨dA, dn, dc⟩ .nil = L := ⟨_, rfl⟩
    have HLl : Hid (LF.length = 19) := Lib.hid (by rw [← hLF]; rfl)
    have HO : Hid (LF.all (·.oneCell') = true) := Lib.hid (by rw [← hLF]; rfl)
    have HFV : Hid (frV m ⟨dA, dn, dc⟩ .nil = .agg LF.toArray) := Lib.hid (by rw [← hLF]; rfl)
    rw [hLF] at hS
    clear hm hLF
    obtain ⟨dsF, hdsF⟩ : ∃ z : List Int, D = z := ⟨_, rfl⟩
    rw [hdsF] at hFit HD2
    obtain ⟨rsF, hrsF⟩ : ∃ z : RS, [] = z := ⟨_, rfl⟩
    rw [hrsF] at hFit HD2
    clear hdsF hrsF
    obtain ⟨bsF, badF⟩ := s3
    have hbad := hS.rd.bad_cell
    simp only at hbad
  rotate_left
  all_goals
    cases badF with
    | true =>
      have HNO : Hid (readO (bs, false) = none) := Lib.hid (by rw [readO_of HK.out (by omega) HD2.out]; simp)
      go_wp2_with (first | ((with_reducible refine at_st (x := .tmp 6) ?_); refine st_top _ _ LF (by rfl) _ (by rfl) (by simp) HV.out (by rfl) HLl.out HO.out ?_) | ((with_reducible refine at_st (x := .tmp 2) ?_); refine st_at _ _ (frL (FN.zero 0) .nil .nil) (by rfl) (by rfl) hS.a2 (by rfl) (by rfl) (by rfl) ?_; intro w9 hA9 hk9) | fail)
      refine bodyPost_ret (results_cell_tmp 2 3 31 (by rfl) _ 31 _ _ _ (by rfl) (by rfl) hA9 Try.underlying31 rfl fr_info) rfl ?_
      exact RDPost.no HNO.out (hS.out hk9)
    | false =>
      have hplt := hS.plt
      obtain ⟨qA, qn, qc, hqrow, hql, hqc, hqm⟩ := hS.rd.row_cell
      simp only at hql
      have HQL := Lib.hid hql
      have hrt := rright_any _ m _ _ _ _ _ hFit
      rw [HFV.out] at hrt
      have HRT := Lib.hid hrt
      clear hrt
      have a5 := hS.a5
      go_wp2_with (first | ((with_reducible refine at_st (x := .tmp 6) ?_); refine st_top _ _ LF (by rfl) _ (by rfl) (by simp) HV.out (by rfl) HLl.out HO.out ?_) | ((with_reducible refine at_ld (x := .tmp 6) ?_); refine ld_fr_g _ _ (by rfl) (by rfl) a5 HLl.out ?_) | fail)
      refine HRT.out.mono ?_
      rintro e w8 ⟨rfl, hb8⟩
      clear HRT a5
      have hS := hS.below hb8
      have hFit := hFit.below hb8
      have hqrow : w8.cell? ⟨w.heap.size + 1, 0, none⟩ = some (.slice qA qn qc) := (hb8.cell (p := ⟨w.heap.size + 1, 0, none⟩) hplt).trans hqrow
      clear hb8 hql
      obtain ⟨rb, hrb⟩ : ∃ x, rightB m dsF rsF = x := ⟨_, rfl⟩
      rw [hrb]
      have HRO : Hid (readO (bs, false) = if (false : Bool) = false ∧ rb = true then some (m, dsF, rsF, (bsF, false)) else none) := Lib.hid (by rw [readO_of HK.out (by omega) HD2.out, hrb])
      clear hrb
      cases rb with
      | false =>
        have HNO : Hid (readO (bs, false) = none) := Lib.hid (by rw [HRO.out]; simp)
        go_wp2_with (first | ((with_reducible refine at_st (x := .tmp 2) ?_); refine st_at _ _ (frL (FN.zero 0) .nil .nil) (by rfl) (by rfl) hS.a2 (by rfl) (by rfl) (by rfl) ?_; intro w9 hA9 hk9) | fail)
        refine bodyPost_ret (results_cell_tmp 2 3 31 (by rfl) _ 31 _ _ _ (by rfl) (by rfl) hA9 Try.underlying31 rfl fr_info) rfl ?_
        exact RDPost.no HNO.out (hS.out hk9)
      | true =>
        have HYES : Hid (readO (bs, false) = some (m, dsF, rsF, (bsF, false))) := Lib.hid (by rw [HRO.out]; simp)
        have hqm' := hqm
        unfold maxLen at hqm'
        have hww : IntKind.i64.wrap ((n : Int) - (qn : Int)) = (n : Int) - (qn : Int) := IntWalk.i64_in _ (by omega)
        go_wp2_with fail
        have hS := hS.drew
        have hFit := hFit.below (below_drew (Below.refl _ _))
        have hqrow : w8.drew.cell? ⟨w.heap.size + 1, 0, none⟩ = some (.slice qA qn qc) := hqrow
        refine wp_region_held_drew (S := (fun W => At W w1.heap.size 31 LF ∧ W.cell? ⟨w.heap.size + 1, 0, none⟩ = some (.slice qA qn qc))) (by kernel_rfl) (⟨hS.a5, hqrow⟩) (fun hHeld => ?_)
        refine take_dst (i := 0) (dst := some 172) rfl rfl (by kernel_rfl) (by kernel_rfl) (by kernel_rfl) (fun _ _ _ h => h) (v := ?_) ?_ (by assumption) ?_
        rotate_left
        · refine yl_any 31 (.tmp 6) ?_ w1.heap.size 0 ?_ LF _ ?_ Try.underlying31 rfl ?_ ?_
          · rfl
          · rfl
          · intro w hSw; exact hSw.1.rangeAt
          · rw [HLl.out]; exact fr_info
          · rfl
        simp only [Act.put, List.setIfInBounds_toArray, List.set_cons_zero, List.set_cons_succ]
        refine tkp 1 (some 173) (v := ?_) rfl (Or.inl ⟨by rfl, ?_⟩) (by assumption) ?_
        rotate_left
        · intro w hSw; (try dsimp only at hSw); (have z0 := hSw.2); go_simp; first | done | (with_reducible rfl)
        simp only [Act.put, List.setIfInBounds_toArray, List.set_cons_zero, List.set_cons_succ]
        refine tkp 2 (some 174) (v := ?_) rfl (Or.inl ⟨by rfl, ?_⟩) (by assumption) ?_
        rotate_left
        · intro w hSw; (try dsimp only at hSw); (have z0 := hSw.2); go_simp; first | done | (with_reducible rfl)
        simp only [Act.put, List.setIfInBounds_toArray, List.set_cons_zero, List.set_cons_succ]
        refine tkp 3 (some 175) (v := ?_) rfl (Or.inl ⟨by rfl, ?_⟩) (by assumption) ?_
        rotate_left
        · intro w hSw; (try dsimp only at hSw); (have z0 := hSw.2); go_simp; first | done | (with_reducible rfl)
        simp only [Act.put, List.setIfInBounds_toArray, List.set_cons_zero, List.set_cons_succ]
        refine tkp 4 (some 176) (v := ?_) rfl (Or.inl ⟨by rfl, ?_⟩) (by assumption) ?_
        rotate_left
        · intro w hSw; (try dsimp only at hSw); (have z0 := hSw.2); go_simp; first | done | (with_reducible rfl)
        simp only [Act.put, List.setIfInBounds_toArray, List.set_cons_zero, List.set_cons_succ]
        refine tkp 5 (some 177) (v := ?_) rfl (Or.inl ⟨by rfl, ?_⟩) (by assumption) ?_
        rotate_left
        · intro w hSw; (try dsimp only at hSw); (have z0 := hSw.2); go_simp; first | done | (with_reducible rfl)
        simp only [Act.put, List.setIfInBounds_toArray, List.set_cons_zero, List.set_cons_succ]
        refine tkp 6 (some 178) (v := ?_) rfl (Or.inl ⟨by rfl, ?_⟩) (by assumption) ?_
        rotate_left
        · intro w hSw; (try dsimp only at hSw); (have z0 := hSw.2); go_simp; first | done | (with_reducible rfl)
        simp only [Act.put, List.setIfInBounds_toArray, List.set_cons_zero, List.set_cons_succ]
        refine tkp 7 (some 179) (v := ?_) rfl (Or.inl ⟨by rfl, ?_⟩) (by assumption) ?_
        rotate_left
        · intro w hSw; (try dsimp only at hSw); (have z0 := hSw.2); go_simp; first | done | (with_reducible rfl)
        simp only [Act.put, List.setIfInBounds_toArray, List.set_cons_zero, List.set_cons_succ]
        refine tkp 8 (some 180) (v := ?_) rfl (Or.inl ⟨by rfl, ?_⟩) (by assumption) ?_
        rotate_left
        · intro w hSw; (try dsimp only at hSw); (have z0 := hSw.2); go_simp; first | done | (with_reducible rfl)
        simp only [Act.put, List.setIfInBounds_toArray, List.set_cons_zero, List.set_cons_succ]
        obtain ⟨Y, hY⟩ : ∃ x, w8.drew = x := ⟨_, rfl⟩
        rw [hY] at hS hFit hqrow ⊢
        clear hY
        refine wpAnyH_ready (rs := [9]) (by kernel_rfl) (by simp) ?_
        refine AllReadyH.cons rfl (fun K hK => ?_) AllReadyH.nil
        refine step_st_any (by rfl) w.heap.size 31 (frL (FN.zero 0) .nil .nil) LF (by rfl) (by rfl) hS.a2 HLl.out.symm (by rw [HLl.out]; exact fr_info) HO.out ?_
        intro w9 hA9 hk9
        have h59 := hS.a5.kept hk9 (fun e => hg25 e.symm)
        have hq9 := (hk9.cell (p := ⟨w.heap.size + 1, 0, none⟩) (by obtain ⟨_, _, _, h, _⟩ := hS.rd; exact h.lt) (fun e => hS.p2 e)).trans hqrow
        refine hK.out _ _ ⟨h59, hq9⟩ (fun hHeld => ?_)
        clear hK K
        refine tkp 10 (some 3) (v := ?_) rfl (Or.inl ⟨by rfl, ?_⟩) (by assumption) ?_
        rotate_left
        · intro w hSw; (try dsimp only at hSw); go_simp; first | done | (with_reducible rfl)
        simp only [Act.put, List.setIfInBounds_toArray, List.set_cons_zero, List.set_cons_succ]
        refine wpAnyH_done (by kernel_rfl) ?_ _
        go_wp2_with fail
        refine bodyPost_ret (results_cell_tmp 2 3 31 (by rfl) _ 31 _ _ _ (by rfl) (by rfl) hA9 Try.underlying31 rfl (by rw [HLl.out]; exact fr_info)) rfl ?_
        have hfin := RDPost.yes HYES.out HBN.out HQL.out ((hFit.kept hk9 (fun b hb e => by omega)).mono (fun b _ hb => by omega)) (hS.out hk9)
        rw [HFV.out] at hfin
        exact hfin
end Go.Proofs.Ytkahndjflhgccaa
