/-
  The document's Decode (narthexref4), for some first bytes (12, 13, 14, 15, 24, 26, 27).
-/
import Derived.Test.YtkahndjflhgccaaMj
import Derived.Test.YtkahndjflhgccaaSteps
namespace Go.Proofs.Ytkahndjflhgccaa
set_option linter.unusedVariables false
set_option linter.unusedSimpArgs false
open Go.RowKit
set_option maxRecDepth 100000 in
set_option maxHeartbeats 8000000 in
theorem rdec_G4 (A : Option Addr) (n c : Nat) (bs : List Int) (w : World) (hr : Rd w w.heap.size A n bs) (hnc : n ≤ c) (hcm : c ≤ maxLen) (hA : A = none → c = 0) (hl : n ≤ 100000000000000) (hk : varR (bs, false) = 12 ∨ varR (bs, false) = 13 ∨ varR (bs, false) = 14 ∨ varR (bs, false) = 15 ∨ varR (bs, false) = 24 ∨ varR (bs, false) = 26 ∨ varR (bs, false) = 27) :
    Calls Try.prog 37 #[.slice A n c] w (RDPost w bs) := by
  have hrA := rdr_start A n c bs w hr hnc hcm hA
  have hP' : ∀ b, b < w.heap.size → b ≠ w.heap.size + 1 := fun b hb => by omega
  have hA20 : At ((w.alloc (.cells (frL (FN.zero 0) .nil .nil).toArray 31)).alloc (.cells #[.slice A n c, .bool false] 93)) w.heap.size 31 (frL (FN.zero 0) .nil .nil) := (At.new w _ _).alloc _
  have hB20 : Below w.heap.size w ((w.alloc (.cells (frL (FN.zero 0) .nil .nil).toArray 31)).alloc (.cells #[.slice A n c, .bool false] 93)) := ((Below.refl _ _).alloc (Nat.le_refl _) _).alloc (by simp) _
  have hbn := hr.1
  have HBN := Lib.hid hbn
  rcases hk with hk | hk | hk | hk | hk | hk | hk
  focus
    have hby := varN_byt (bs, false) hr.2.1
    have hvl := varN_le (bs, false)
    simp only at hvl
    rw [hbn] at hvl
    clear hbn hr hA hcm
    have hd : rdK 12 (varN (bs, false)) = some (({ FN.zero 8 with s := (varR (varN (bs, false))), o := (varR (varN (varN (bs, false)))), fin := false } : FN), (dataR (varN (varN (varN (bs, false)))) false), [], (dataN (varN (varN (varN (bs, false)))) false)) := rfl
    have HK := Lib.hid hk
    obtain ⟨s1, e_s1⟩ : ∃ x, varN (bs, false) = x := ⟨_, rfl⟩
    rw [e_s1] at hd hby hvl
    have HD1 := Lib.hid e_s1
    have E_s1 := Lib.hid e_s1
    clear e_s1
    obtain ⟨x_s, e_x_s⟩ : ∃ x, varR s1 = x := ⟨_, rfl⟩
    rw [e_x_s] at hd
    have E_x_s := Lib.hid e_x_s
    clear e_x_s
    obtain ⟨s2, e_s2⟩ : ∃ x, varN s1 = x := ⟨_, rfl⟩
    rw [e_s2] at hd
    have E_s2 := Lib.hid e_s2
    clear e_s2
    obtain ⟨x_o, e_x_o⟩ : ∃ x, varR s2 = x := ⟨_, rfl⟩
    rw [e_x_o] at hd
    have E_x_o := Lib.hid e_x_o
    clear e_x_o
    obtain ⟨s3, e_s3⟩ : ∃ x, varN s2 = x := ⟨_, rfl⟩
    rw [e_s3] at hd
    have E_s3 := Lib.hid e_s3
    clear e_s3
    obtain ⟨D, e_D⟩ : ∃ x, dataR s3 false = x := ⟨_, rfl⟩
    rw [e_D] at hd
    have E_D := Lib.hid e_D
    clear e_D
    obtain ⟨s4, e_s4⟩ : ∃ x, dataN s3 false = x := ⟨_, rfl⟩
    rw [e_s4] at hd
    have E_s4 := Lib.hid e_s4
    clear e_s4
    have HD := Lib.hid hd
    clear hd hk
    have hb255 : bits BinOp.and IntKind.u64 12 255 = 12 := by decide
    have hb4 : (bits BinOp.and IntKind.u64 12 4 != 0) = true := by decide
    have hb2 : (bits BinOp.and IntKind.u64 12 2 != 0) = false := by decide
    have hb1 : (bits BinOp.and IntKind.u64 12 1 != 0) = false := by decide
    go_enter Try.func37, Try.ntmps37
    go_wp2_with fail
    refine (rvar_any (w.heap.size + 1) 93 _ (bs, false) _ hrA hP').mono ?_
    rintro e w1 ⟨rfl, hr1, hk1⟩
    rw [HK.out]
    rw [E_s1.out] at hr1
    have hblS := hk1.below hB20 hB20.size (fun j hj => by omega)
    have hA2S := hA20.kept hk1 (by omega)
    have hr1S := hr1
    have hS := RdS.start (frL (FN.zero 12) .nil .nil) (hk1.below hB20 hB20.size (fun j hj => by omega)) (hA20.kept hk1 (by omega)) hr1
    clear hr1 hk1 hrA hA20 hB20
    have hg25 := hS.g25
    have hg5 := hS.g5w
    have hp5 := hS.p5
    have hlt5 : w1.heap.size < (w1.alloc (.cells (frL (FN.zero 12) .nil .nil).toArray 31)).heap.size := by simp
    have c_0 := hS.a5.cell 0
    have f_0 := hS.a5.frozen 0
    simp only [frL, FN.zero, Sl.nil, withC, List.getElem?_cons_succ, List.getElem?_cons_zero, List.set_cons_zero, List.set_cons_succ] at c_0
    have hS0 := RdS.start (frL (FN.zero 8) .nil .nil) hblS hA2S hr1S
    have hS := hS0
    clear hS0 c_0 f_0
    go_wp2_with (first | ((with_reducible refine at_st (x := .tmp 6) ?_); refine st_top _ _ _ (by rfl) _ (by rfl) (by simp) (by rfl) (by rfl) (by rfl) (by rfl) ?_) | fail)
    refine (rvar_any (w.heap.size + 1) 93 _ s1 _ hS.rd hP').mono ?_
    rintro e w2 ⟨rfl, hr2, hk2⟩
    have b_s := hS.rd.byt2
    rw [E_x_s.out] at b_s
    rw [E_x_s.out]
    rw [E_s2.out] at hr2
    have vl2 := varN_le s1
    rw [E_s2.out] at vl2
    have hS := hS.step hr2 hk2
    clear hr2 hk2
    have c_1 := hS.a5.cell 1
    have f_1 := hS.a5.frozen 1
    simp only [frL, FN.zero, Sl.nil, withC, List.getElem?_cons_succ, List.getElem?_cons_zero, List.set_cons_zero, List.set_cons_succ] at c_1
    have hS := (hS).cell 1 (.int .u64 x_s)
    go_wp2_with fail
    clear c_1 f_1
    refine (rvar_any (w.heap.size + 1) 93 _ s2 _ hS.rd hP').mono ?_
    rintro e w3 ⟨rfl, hr3, hk3⟩
    have b_o := hS.rd.byt2
    rw [E_x_o.out] at b_o
    rw [E_x_o.out]
    rw [E_s3.out] at hr3
    have vl3 := varN_le s2
    rw [E_s3.out] at vl3
    have hS := hS.step hr3 hk3
    clear hr3 hk3
    have c_2 := hS.a5.cell 2
    have f_2 := hS.a5.frozen 2
    simp only [frL, FN.zero, Sl.nil, withC, List.getElem?_cons_succ, List.getElem?_cons_zero, List.set_cons_zero, List.set_cons_succ] at c_2
    have hS := (hS).cell 2 (.int .u64 x_o)
    obtain ⟨rA0, rn0, rc0, hrow, hrl, _, _⟩ := hS.rd.row_cell
    have HRL := Lib.hid hrl
    clear hrl
    go_wp2_with fail
    clear c_2 f_2
    have hown0 := rraw_any (w.heap.size + 1) 93 _ s3 (rn0 : Int) _ hS.rd hP' (by omega)
    rw [show takeR s3 (rn0 : Int) = dataR s3 false by (rw [← HRL.out]; rfl), show takeN s3 (rn0 : Int) = dataN s3 false by (rw [← HRL.out]; rfl)] at hown0
    refine hown0.mono ?_
    rintro e w4 ⟨vD, rfl, hown, hr4, hk4⟩
    clear hown0
    clear hrow
    rw [E_D.out] at hown
    rw [E_s4.out] at hr4
    obtain ⟨dA, dn, dc, rfl⟩ := hown.shape
    have hID := hown.inD hown.len_eq
    have hgD := hS.a5.lt
    have hgw := hS.bl.size
    clear hown
    have hS := hS.step hr4 hk4
    clear hr4 hk4
    have c_3 := hS.a5.cell 3
    have f_3 := hS.a5.frozen 3
    have c_4 := hS.a5.cell 4
    have f_4 := hS.a5.frozen 4
    simp only [frL, FN.zero, Sl.nil, withC, List.getElem?_cons_succ, List.getElem?_cons_zero, List.set_cons_zero, List.set_cons_succ] at c_3 c_4
    have hKS : Kept (· = w1.heap.size) w4 _ := ((Kept.refl (· = w1.heap.size) w4).setAt 3 (.slice dA dn dc)).setAt 4 (.bool false)
    have hS := ((hS).cell 3 (.slice dA dn dc)).cell 4 (.bool false)
    have hID := hID.after hgD (w.heap.size + 1) (by omega) hKS
    clear hKS
    have hS := hS.cast (L6 := frL ({ FN.zero 8 with s := x_s, o := x_o, fin := false } : FN) ⟨dA, dn, dc⟩ .nil) (by rfl)
    have hwf : ({ FN.zero 8 with s := x_s, o := x_o, fin := false } : FN).wf := wf_set (wf_zero 8 (by omega) (by omega)) x_s x_o 0 0 0 0 0 false (by first | exact z62 | assumption) (by first | exact z62 | assumption) (by first | exact z62 | assumption) (by first | exact z62 | assumption) (by first | exact z62 | assumption) (by first | exact z62 | assumption) (by first | exact z62 | assumption)
    have hFit := hS.fits (P := fun b => w.heap.size + 1 ≤ b) hwf (hID) (InR.nil_ _ _)
    clear hwf
    obtain ⟨m, hm⟩ : ∃ m, ({ FN.zero 8 with s := x_s, o := x_o, fin := false } : FN) = m := ⟨_, rfl⟩
    rw [hm] at hS hFit
    have HD2 : Hid (rdK 12 (varN (bs, false)) = some (m, D, [], s4)) := Lib.hid (by rw [HD1.out, HD.out, hm])
    obtain ⟨LF, hLF⟩ : ∃ L, frL m ⟨dA, dn, dc⟩ .nil = L := ⟨_, rfl⟩
    have HLl : Hid (LF.length = 19) := Lib.hid (by rw [← hLF]; rfl)
    have HO : Hid (LF.all (·.oneCell') = true) := Lib.hid (by rw [← hLF]; rfl)
    have HFV : Hid (frV m ⟨dA, dn, dc⟩ .nil = .agg LF.toArray) := Lib.hid (by rw [← hLF]; rfl)
    rw [hLF] at hS
    clear hm hLF
    obtain ⟨dsF, hdsF⟩ : ∃ z : List Int, D = z := ⟨_, rfl⟩
    rw [hdsF] at hFit HD2
    obtain ⟨rsF, hrsF⟩ : ∃ z : RS, [] = z := ⟨_, rfl⟩
    rw [hrsF] at hFit HD2
    clear hdsF hrsF
    obtain ⟨bsF, badF⟩ := s4
    have hbad := hS.rd.bad_cell
    simp only at hbad
  rotate_left
  focus
    have hby := varN_byt (bs, false) hr.2.1
    have hvl := varN_le (bs, false)
    simp only at hvl
    rw [hbn] at hvl
    clear hbn hr hA hcm
    have hd : rdK 13 (varN (bs, false)) = some (({ FN.zero 8 with s := (varR (varN (bs, false))), o := (varR (varN (varN (bs, false)))), fin := true } : FN), (dataR (varN (varN (varN (bs, false)))) false), [], (dataN (varN (varN (varN (bs, false)))) false)) := rfl
    have HK := Lib.hid hk
    obtain ⟨s1, e_s1⟩ : ∃ x, varN (bs, false) = x := ⟨_, rfl⟩
    rw [e_s1] at hd hby hvl
    have HD1 := Lib.hid e_s1
    have E_s1 := Lib.hid e_s1
    clear e_s1
    obtain ⟨x_s, e_x_s⟩ : ∃ x, varR s1 = x := ⟨_, rfl⟩
    rw [e_x_s] at hd
    have E_x_s := Lib.hid e_x_s
    clear e_x_s
    obtain ⟨s2, e_s2⟩ : ∃ x, varN s1 = x := ⟨_, rfl⟩
    rw [e_s2] at hd
    have E_s2 := Lib.hid e_s2
    clear e_s2
    obtain ⟨x_o, e_x_o⟩ : ∃ x, varR s2 = x := ⟨_, rfl⟩
    rw [e_x_o] at hd
    have E_x_o := Lib.hid e_x_o
    clear e_x_o
    obtain ⟨s3, e_s3⟩ : ∃ x, varN s2 = x := ⟨_, rfl⟩
    rw [e_s3] at hd
    have E_s3 := Lib.hid e_s3
    clear e_s3
    obtain ⟨D, e_D⟩ : ∃ x, dataR s3 false = x := ⟨_, rfl⟩
    rw [e_D] at hd
    have E_D := Lib.hid e_D
    clear e_D
    obtain ⟨s4, e_s4⟩ : ∃ x, dataN s3 false = x := ⟨_, rfl⟩
    rw [e_s4] at hd
    have E_s4 := Lib.hid e_s4
    clear e_s4
    have HD := Lib.hid hd
    clear hd hk
    have hb255 : bits BinOp.and IntKind.u64 13 255 = 13 := by decide
    have hb4 : (bits BinOp.and IntKind.u64 13 4 != 0) = true := by decide
    have hb2 : (bits BinOp.and IntKind.u64 13 2 != 0) = false := by decide
    have hb1 : (bits BinOp.and IntKind.u64 13 1 != 0) = true := by decide
    go_enter Try.func37, Try.ntmps37
    go_wp2_with fail
    refine (rvar_any (w.heap.size + 1) 93 _ (bs, false) _ hrA hP').mono ?_
    rintro e w1 ⟨rfl, hr1, hk1⟩
    rw [HK.out]
    rw [E_s1.out] at hr1
    have hblS := hk1.below hB20 hB20.size (fun j hj => by omega)
    have hA2S := hA20.kept hk1 (by omega)
    have hr1S := hr1
    have hS := RdS.start (frL (FN.zero 13) .nil .nil) (hk1.below hB20 hB20.size (fun j hj => by omega)) (hA20.kept hk1 (by omega)) hr1
    clear hr1 hk1 hrA hA20 hB20
    have hg25 := hS.g25
    have hg5 := hS.g5w
    have hp5 := hS.p5
    have hlt5 : w1.heap.size < (w1.alloc (.cells (frL (FN.zero 13) .nil .nil).toArray 31)).heap.size := by simp
    have c_0 := hS.a5.cell 0
    have f_0 := hS.a5.frozen 0
    simp only [frL, FN.zero, Sl.nil, withC, List.getElem?_cons_succ, List.getElem?_cons_zero, List.set_cons_zero, List.set_cons_succ] at c_0
    have hS0 := RdS.start (frL (FN.zero 8) .nil .nil) hblS hA2S hr1S
    have hS := hS0
    clear hS0 c_0 f_0
    go_wp2_with (first | ((with_reducible refine at_st (x := .tmp 6) ?_); refine st_top _ _ _ (by rfl) _ (by rfl) (by simp) (by rfl) (by rfl) (by rfl) (by rfl) ?_) | fail)
    refine (rvar_any (w.heap.size + 1) 93 _ s1 _ hS.rd hP').mono ?_
    rintro e w2 ⟨rfl, hr2, hk2⟩
    have b_s := hS.rd.byt2
    rw [E_x_s.out] at b_s
    rw [E_x_s.out]
    rw [E_s2.out] at hr2
    have vl2 := varN_le s1
    rw [E_s2.out] at vl2
    have hS := hS.step hr2 hk2
    clear hr2 hk2
    have c_1 := hS.a5.cell 1
    have f_1 := hS.a5.frozen 1
    simp only [frL, FN.zero, Sl.nil, withC, List.getElem?_cons_succ, List.getElem?_cons_zero, List.set_cons_zero, List.set_cons_succ] at c_1
    have hS := (hS).cell 1 (.int .u64 x_s)
    go_wp2_with fail
    clear c_1 f_1
    refine (rvar_any (w.heap.size + 1) 93 _ s2 _ hS.rd hP').mono ?_
    rintro e w3 ⟨rfl, hr3, hk3⟩
    have b_o := hS.rd.byt2
    rw [E_x_o.out] at b_o
    rw [E_x_o.out]
    rw [E_s3.out] at hr3
    have vl3 := varN_le s2
    rw [E_s3.out] at vl3
    have hS := hS.step hr3 hk3
    clear hr3 hk3
    have c_2 := hS.a5.cell 2
    have f_2 := hS.a5.frozen 2
    simp only [frL, FN.zero, Sl.nil, withC, List.getElem?_cons_succ, List.getElem?_cons_zero, List.set_cons_zero, List.set_cons_succ] at c_2
    have hS := (hS).cell 2 (.int .u64 x_o)
    obtain ⟨rA0, rn0, rc0, hrow, hrl, _, _⟩ := hS.rd.row_cell
    have HRL := Lib.hid hrl
    clear hrl
    go_wp2_with fail
    clear c_2 f_2
    have hown0 := rraw_any (w.heap.size + 1) 93 _ s3 (rn0 : Int) _ hS.rd hP' (by omega)
    rw [show takeR s3 (rn0 : Int) = dataR s3 false by (rw [← HRL.out]; rfl), show takeN s3 (rn0 : Int) = dataN s3 false by (rw [← HRL.out]; rfl)] at hown0
    refine hown0.mono ?_
    rintro e w4 ⟨vD, rfl, hown, hr4, hk4⟩
    clear hown0
    clear hrow
    rw [E_D.out] at hown
    rw [E_s4.out] at hr4
    obtain ⟨dA, dn, dc, rfl⟩ := hown.shape
    have hID := hown.inD hown.len_eq
    have hgD := hS.a5.lt
    have hgw := hS.bl.size
    clear hown
    have hS := hS.step hr4 hk4
    clear hr4 hk4
    have c_3 := hS.a5.cell 3
    have f_3 := hS.a5.frozen 3
    have c_4 := hS.a5.cell 4
    have f_4 := hS.a5.frozen 4
    simp only [frL, FN.zero, Sl.nil, withC, List.getElem?_cons_succ, List.getElem?_cons_zero, List.set_cons_zero, List.set_cons_succ] at c_3 c_4
    have hKS : Kept (· = w1.heap.size) w4 _ := ((Kept.refl (· = w1.heap.size) w4).setAt 3 (.slice dA dn dc)).setAt 4 (.bool true)
    have hS := ((hS).cell 3 (.slice dA dn dc)).cell 4 (.bool true)
    have hID := hID.after hgD (w.heap.size + 1) (by omega) hKS
    clear hKS
    have hS := hS.cast (L6 := frL ({ FN.zero 8 with s := x_s, o := x_o, fin := true } : FN) ⟨dA, dn, dc⟩ .nil) (by rfl)
    have hwf : ({ FN.zero 8 with s := x_s, o := x_o, fin := true } : FN).wf := wf_set (wf_zero 8 (by omega) (by omega)) x_s x_o 0 0 0 0 0 true (by first | exact z62 | assumption) (by first | exact z62 | assumption) (by first | exact z62 | assumption) (by first | exact z62 | assumption) (by first | exact z62 | assumption) (by first | exact z62 | assumption) (by first | exact z62 | assumption)
    have hFit := hS.fits (P := fun b => w.heap.size + 1 ≤ b) hwf (hID) (InR.nil_ _ _)
    clear hwf
    obtain ⟨m, hm⟩ : ∃ m, ({ FN.zero 8 with s := x_s, o := x_o, fin := true } : FN) = m := ⟨_, rfl⟩
    rw [hm] at hS hFit
    have HD2 : Hid (rdK 13 (varN (bs, false)) = some (m, D, [], s4)) := Lib.hid (by rw [HD1.out, HD.out, hm])
    obtain ⟨LF, hLF⟩ : ∃ L, frL m ⟨dA, dn, dc⟩ .nil = L := ⟨_, rfl⟩
    have HLl : Hid (LF.length = 19) := Lib.hid (by rw [← hLF]; rfl)
    have HO : Hid (LF.all (·.oneCell') = true) := Lib.hid (by rw [← hLF]; rfl)
    have HFV : Hid (frV m ⟨dA, dn, dc⟩ .nil = .agg LF.toArray) := Lib.hid (by rw [← hLF]; rfl)
    rw [hLF] at hS
    clear hm hLF
    obtain ⟨dsF, hdsF⟩ : ∃ z : List Int, D = z := ⟨_, rfl⟩
    rw [hdsF] at hFit HD2
    obtain ⟨rsF, hrsF⟩ : ∃ z : RS, [] = z := ⟨_, rfl⟩
    rw [hrsF] at hFit HD2
    clear hdsF hrsF
    obtain ⟨bsF, badF⟩ := s4
    have hbad := hS.rd.bad_cell
    simp only at hbad
  rotate_left
  focus
    have hby := varN_byt (bs, false) hr.2.1
    have hvl := varN_le (bs, false)
    simp only at hvl
    rw [hbn] at hvl
    clear hbn hr hA hcm
    have hd : rdK 14 (varN (bs, false)) = some (({ FN.zero 8 with s := (varR (varN (bs, false))), o := (varR (varN (varN (bs, false)))), fin := false } : FN), (dataR (varN (varN (varN (bs, false)))) true), [], (dataN (varN (varN (varN (bs, false)))) true)) := rfl
    have HK := Lib.hid hk
    obtain ⟨s1, e_s1⟩ : ∃ x, varN (bs, false) = x := ⟨_, rfl⟩
    rw [e_s1] at hd hby hvl
    have HD1 := Lib.hid e_s1
    have E_s1 := Lib.hid e_s1
    clear e_s1
    obtain ⟨x_s, e_x_s⟩ : ∃ x, varR s1 = x := ⟨_, rfl⟩
    rw [e_x_s] at hd
    have E_x_s := Lib.hid e_x_s
    clear e_x_s
    obtain ⟨s2, e_s2⟩ : ∃ x, varN s1 = x := ⟨_, rfl⟩
    rw [e_s2] at hd
    have E_s2 := Lib.hid e_s2
    clear e_s2
    obtain ⟨x_o, e_x_o⟩ : ∃ x, varR s2 = x := ⟨_, rfl⟩
    rw [e_x_o] at hd
    have E_x_o := Lib.hid e_x_o
    clear e_x_o
    obtain ⟨s3, e_s3⟩ : ∃ x, varN s2 = x := ⟨_, rfl⟩
    rw [e_s3] at hd
    have E_s3 := Lib.hid e_s3
    clear e_s3
    obtain ⟨D, e_D⟩ : ∃ x, dataR s3 true = x := ⟨_, rfl⟩
    rw [e_D] at hd
    have E_D := Lib.hid e_D
    clear e_D
    obtain ⟨s4, e_s4⟩ : ∃ x, dataN s3 true = x := ⟨_, rfl⟩
    rw [e_s4] at hd
    have E_s4 := Lib.hid e_s4
    clear e_s4
    have HD := Lib.hid hd
    clear hd hk
    have hb255 : bits BinOp.and IntKind.u64 14 255 = 14 := by decide
    have hb4 : (bits BinOp.and IntKind.u64 14 4 != 0) = true := by decide
    have hb2 : (bits BinOp.and IntKind.u64 14 2 != 0) = true := by decide
    have hb1 : (bits BinOp.and IntKind.u64 14 1 != 0) = false := by decide
    go_enter Try.func37, Try.ntmps37
    go_wp2_with fail
    refine (rvar_any (w.heap.size + 1) 93 _ (bs, false) _ hrA hP').mono ?_
    rintro e w1 ⟨rfl, hr1, hk1⟩
    rw [HK.out]
    rw [E_s1.out] at hr1
    have hblS := hk1.below hB20 hB20.size (fun j hj => by omega)
    have hA2S := hA20.kept hk1 (by omega)
    have hr1S := hr1
    have hS := RdS.start (frL (FN.zero 14) .nil .nil) (hk1.below hB20 hB20.size (fun j hj => by omega)) (hA20.kept hk1 (by omega)) hr1
    clear hr1 hk1 hrA hA20 hB20
    have hg25 := hS.g25
    have hg5 := hS.g5w
    have hp5 := hS.p5
    have hlt5 : w1.heap.size < (w1.alloc (.cells (frL (FN.zero 14) .nil .nil).toArray 31)).heap.size := by simp
    have c_0 := hS.a5.cell 0
    have f_0 := hS.a5.frozen 0
    simp only [frL, FN.zero, Sl.nil, withC, List.getElem?_cons_succ, List.getElem?_cons_zero, List.set_cons_zero, List.set_cons_succ] at c_0
    have hS0 := RdS.start (frL (FN.zero 8) .nil .nil) hblS hA2S hr1S
    have hS := hS0
    clear hS0 c_0 f_0
    go_wp2_with (first | ((with_reducible refine at_st (x := .tmp 6) ?_); refine st_top _ _ _ (by rfl) _ (by rfl) (by simp) (by rfl) (by rfl) (by rfl) (by rfl) ?_) | fail)
    refine (rvar_any (w.heap.size + 1) 93 _ s1 _ hS.rd hP').mono ?_
    rintro e w2 ⟨rfl, hr2, hk2⟩
    have b_s := hS.rd.byt2
    rw [E_x_s.out] at b_s
    rw [E_x_s.out]
    rw [E_s2.out] at hr2
    have vl2 := varN_le s1
    rw [E_s2.out] at vl2
    have hS := hS.step hr2 hk2
    clear hr2 hk2
    have c_1 := hS.a5.cell 1
    have f_1 := hS.a5.frozen 1
    simp only [frL, FN.zero, Sl.nil, withC, List.getElem?_cons_succ, List.getElem?_cons_zero, List.set_cons_zero, List.set_cons_succ] at c_1
    have hS := (hS).cell 1 (.int .u64 x_s)
    go_wp2_with fail
    clear c_1 f_1
    refine (rvar_any (w.heap.size + 1) 93 _ s2 _ hS.rd hP').mono ?_
    rintro e w3 ⟨rfl, hr3, hk3⟩
    have b_o := hS.rd.byt2
    rw [E_x_o.out] at b_o
    rw [E_x_o.out]
    rw [E_s3.out] at hr3
    have vl3 := varN_le s2
    rw [E_s3.out] at vl3
    have hS := hS.step hr3 hk3
    clear hr3 hk3
    have c_2 := hS.a5.cell 2
    have f_2 := hS.a5.frozen 2
    simp only [frL, FN.zero, Sl.nil, withC, List.getElem?_cons_succ, List.getElem?_cons_zero, List.set_cons_zero, List.set_cons_succ] at c_2
    have hS := (hS).cell 2 (.int .u64 x_o)
    go_wp2_with fail
    clear c_2 f_2
    have hown0 := rtext_any (w.heap.size + 1) 93 _ s3 _ hS.rd hP' (by omega)
    rw [show textR s3 = dataR s3 true from rfl, show textN s3 = dataN s3 true from rfl] at hown0
    refine hown0.mono ?_
    rintro e w4 ⟨vD, rfl, hown, hr4, hk4⟩
    clear hown0
    rw [E_D.out] at hown
    rw [E_s4.out] at hr4
    obtain ⟨dA, dn, dc, rfl⟩ := hown.shape
    have hID := hown.inD hown.len_eq
    have hgD := hS.a5.lt
    have hgw := hS.bl.size
    clear hown
    have hS := hS.step hr4 hk4
    clear hr4 hk4
    have c_3 := hS.a5.cell 3
    have f_3 := hS.a5.frozen 3
    have c_4 := hS.a5.cell 4
    have f_4 := hS.a5.frozen 4
    simp only [frL, FN.zero, Sl.nil, withC, List.getElem?_cons_succ, List.getElem?_cons_zero, List.set_cons_zero, List.set_cons_succ] at c_3 c_4
    have hKS : Kept (· = w1.heap.size) w4 _ := ((Kept.refl (· = w1.heap.size) w4).setAt 3 (.slice dA dn dc)).setAt 4 (.bool false)
    have hS := ((hS).cell 3 (.slice dA dn dc)).cell 4 (.bool false)
    have hID := hID.after hgD (w.heap.size + 1) (by omega) hKS
    clear hKS
    have hS := hS.cast (L6 := frL ({ FN.zero 8 with s := x_s, o := x_o, fin := false } : FN) ⟨dA, dn, dc⟩ .nil) (by rfl)
    have hwf : ({ FN.zero 8 with s := x_s, o := x_o, fin := false } : FN).wf := wf_set (wf_zero 8 (by omega) (by omega)) x_s x_o 0 0 0 0 0 false (by first | exact z62 | assumption) (by first | exact z62 | assumption) (by first | exact z62 | assumption) (by first | exact z62 | assumption) (by first | exact z62 | assumption) (by first | exact z62 | assumption) (by first | exact z62 | assumption)
    have hFit := hS.fits (P := fun b => w.heap.size + 1 ≤ b) hwf (hID) (InR.nil_ _ _)
    clear hwf
    obtain ⟨m, hm⟩ : ∃ m, ({ FN.zero 8 with s := x_s, o := x_o, fin := false } : FN) = m := ⟨_, rfl⟩
    rw [hm] at hS hFit
    have HD2 : Hid (rdK 14 (varN (bs, false)) = some (m, D, [], s4)) := Lib.hid (by rw [HD1.out, HD.out, hm])
    obtain ⟨LF, hLF⟩ : ∃ L, frL m ⟨dA, dn, dc⟩ .nil = L := ⟨_, rfl⟩
    have HLl : Hid (LF.length = 19) := Lib.hid (by rw [← hLF]; rfl)
    have HO : Hid (LF.all (·.oneCell') = true) := Lib.hid (by rw [← hLF]; rfl)
    have HFV : Hid (frV m ⟨dA, dn, dc⟩ .nil = .agg LF.toArray) := Lib.hid (by rw [← hLF]; rfl)
    rw [hLF] at hS
    clear hm hLF
    obtain ⟨dsF, hdsF⟩ : ∃ z : List Int, D = z := ⟨_, rfl⟩
    rw [hdsF] at hFit HD2
    obtain ⟨rsF, hrsF⟩ : ∃ z : RS, [] = z := ⟨_, rfl⟩
    rw [hrsF] at hFit HD2
    clear hdsF hrsF
    obtain ⟨bsF, badF⟩ := s4
    have hbad := hS.rd.bad_cell
    simp only at hbad
  rotate_left
  focus
    have hby := varN_byt (bs, false) hr.2.1
    have hvl := varN_le (bs, false)
    simp only at hvl
    rw [hbn] at hvl
    clear hbn hr hA hcm
    have hd : rdK 15 (varN (bs, false)) = some (({ FN.zero 8 with s := (varR (varN (bs, false))), o := (varR (varN (varN (bs, false)))), fin := true } : FN), (dataR (varN (varN (varN (bs, false)))) true), [], (dataN (varN (varN (varN (bs, false)))) true)) := rfl
    have HK := Lib.hid hk
    obtain ⟨s1, e_s1⟩ : ∃ x, varN (bs, false) = x := ⟨_, rfl⟩
    rw [e_s1] at hd hby hvl
    have HD1 := Lib.hid e_s1
    have E_s1 := Lib.hid e_s1
    clear e_s1
    obtain ⟨x_s, e_x_s⟩ : ∃ x, varR s1 = x := ⟨_, rfl⟩
    rw [e_x_s] at hd
    have E_x_s := Lib.hid e_x_s
    clear e_x_s
    obtain ⟨s2, e_s2⟩ : ∃ x, varN s1 = x := ⟨_, rfl⟩
    rw [e_s2] at hd
    have E_s2 := Lib.hid e_s2
    clear e_s2
    obtain ⟨x_o, e_x_o⟩ : ∃ x, varR s2 = x := ⟨_, rfl⟩
    rw [e_x_o] at hd
    have E_x_o := Lib.hid e_x_o
    clear e_x_o
    obtain ⟨s3, e_s3⟩ : ∃ x, varN s2 = x := ⟨_, rfl⟩
    rw [e_s3] at hd
    have E_s3 := Lib.hid e_s3
    clear e_s3
    obtain ⟨D, e_D⟩ : ∃ x, dataR s3 true = x := ⟨_, rfl⟩
    rw [e_D] at hd
    have E_D := Lib.hid e_D
    clear e_D
    obtain ⟨s4, e_s4⟩ : ∃ x, dataN s3 true = x := ⟨_, rfl⟩
    rw [e_s4] at hd
    have E_s4 := Lib.hid e_s4
    clear e_s4
    have HD := Lib.hid hd
    clear hd hk
    have hb255 : bits BinOp.and IntKind.u64 15 255 = 15 := by decide
    have hb4 : (bits BinOp.and IntKind.u64 15 4 != 0) = true := by decide
    have hb2 : (bits BinOp.and IntKind.u64 15 2 != 0) = true := by decide
    have hb1 : (bits BinOp.and IntKind.u64 15 1 != 0) = true := by decide
    go_enter Try.func37, Try.ntmps37
    go_wp2_with fail
    refine (rvar_any (w.heap.size + 1) 93 _ (bs, false) _ hrA hP').mono ?_
    rintro e w1 ⟨rfl, hr1, hk1⟩
    rw [HK.out]
    rw [E_s1.out] at hr1
    have hblS := hk1.below hB20 hB20.size (fun j hj => by omega)
    have hA2S := hA20.kept hk1 (by omega)
    have hr1S := hr1
    have hS := RdS.start (frL (FN.zero 15) .nil .nil) (hk1.below hB20 hB20.size (fun j hj => by omega)) (hA20.kept hk1 (by omega)) hr1
    clear hr1 hk1 hrA hA20 hB20
    have hg25 := hS.g25
    have hg5 := hS.g5w
    have hp5 := hS.p5
    have hlt5 : w1.heap.size < (w1.alloc (.cells (frL (FN.zero 15) .nil .nil).toArray 31)).heap.size := by simp
    have c_0 := hS.a5.cell 0
    have f_0 := hS.a5.frozen 0
    simp only [frL, FN.zero, Sl.nil, withC, List.getElem?_cons_succ, List.getElem?_cons_zero, List.set_cons_zero, List.set_cons_succ] at c_0
    have hS0 := RdS.start (frL (FN.zero 8) .nil .nil) hblS hA2S hr1S
    have hS := hS0
    clear hS0 c_0 f_0
    go_wp2_with (first | ((with_reducible refine at_st (x := .tmp 6) ?_); refine st_top _ _ _ (by rfl) _ (by rfl) (by simp) (by rfl) (by rfl) (by rfl) (by rfl) ?_) | fail)
    refine (rvar_any (w.heap.size + 1) 93 _ s1 _ hS.rd hP').mono ?_
    rintro e w2 ⟨rfl, hr2, hk2⟩
    have b_s := hS.rd.byt2
    rw [E_x_s.out] at b_s
    rw [E_x_s.out]
    rw [E_s2.out] at hr2
    have vl2 := varN_le s1
    rw [E_s2.out] at vl2
    have hS := hS.step hr2 hk2
    clear hr2 hk2
    have c_1 := hS.a5.cell 1
    have f_1 := hS.a5.frozen 1
    simp only [frL, FN.zero, Sl.nil, withC, List.getElem?_cons_succ, List.getElem?_cons_zero, List.set_cons_zero, List.set_cons_succ] at c_1
    have hS := (hS).cell 1 (.int .u64 x_s)
    go_wp2_with fail
    clear c_1 f_1
    refine (rvar_any (w.heap.size + 1) 93 _ s2 _ hS.rd hP').mono ?_
    rintro e w3 ⟨rfl, hr3, hk3⟩
    have b_o := hS.rd.byt2
    rw [E_x_o.out] at b_o
    rw [E_x_o.out]
    rw [E_s3.out] at hr3
    have vl3 := varN_le s2
    rw [E_s3.out] at vl3
    have hS := hS.step hr3 hk3
    clear hr3 hk3
    have c_2 := hS.a5.cell 2
    have f_2 := hS.a5.frozen 2
    simp only [frL, FN.zero, Sl.nil, withC, List.getElem?_cons_succ, List.getElem?_cons_zero, List.set_cons_zero, List.set_cons_succ] at c_2
    have hS := (hS).cell 2 (.int .u64 x_o)
    go_wp2_with fail
    clear c_2 f_2
    have hown0 := rtext_any (w.heap.size + 1) 93 _ s3 _ hS.rd hP' (by omega)
    rw [show textR s3 = dataR s3 true from rfl, show textN s3 = dataN s3 true from rfl] at hown0
    refine hown0.mono ?_
    rintro e w4 ⟨vD, rfl, hown, hr4, hk4⟩
    clear hown0
    rw [E_D.out] at hown
    rw [E_s4.out] at hr4
    obtain ⟨dA, dn, dc, rfl⟩ := hown.shape
    have hID := hown.inD hown.len_eq
    have hgD := hS.a5.lt
    have hgw := hS.bl.size
    clear hown
    have hS := hS.step hr4 hk4
    clear hr4 hk4
    have c_3 := hS.a5.cell 3
    have f_3 := hS.a5.frozen 3
    have c_4 := hS.a5.cell 4
    have f_4 := hS.a5.frozen 4
    simp only [frL, FN.zero, Sl.nil, withC, List.getElem?_cons_succ, List.getElem?_cons_zero, List.set_cons_zero, List.set_cons_succ] at c_3 c_4
    have hKS : Kept (· = w1.heap.size) w4 _ := ((Kept.refl (· = w1.heap.size) w4).setAt 3 (.slice dA dn dc)).setAt 4 (.bool true)
    have hS := ((hS).cell 3 (.slice dA dn dc)).cell 4 (.bool true)
    have hID := hID.after hgD (w.heap.size + 1) (by omega) hKS
    clear hKS
    have hS := hS.cast (L6 := frL ({ FN.zero 8 with s := x_s, o := x_o, fin := true } : FN) ⟨dA, dn, dc⟩ .nil) (by rfl)
    have hwf : ({ FN.zero 8 with s := x_s, o := x_o, fin := true } : FN).wf := wf_set (wf_zero 8 (by omega) (by omega)) x_s x_o 0 0 0 0 0 true (by first | exact z62 | assumption) (by first | exact z62 | assumption) (by first | exact z62 | assumption) (by first | exact z62 | assumption) (by first | exact z62 | assumption) (by first | exact z62 | assumption) (by first | exact z62 | assumption)
    have hFit := hS.fits (P := fun b => w.heap.size + 1 ≤ b) hwf (hID) (InR.nil_ _ _)
    clear hwf
    obtain ⟨m, hm⟩ : ∃ m, ({ FN.zero 8 with s := x_s, o := x_o, fin := true } : FN) = m := ⟨_, rfl⟩
    rw [hm] at hS hFit
    have HD2 : Hid (rdK 15 (varN (bs, false)) = some (m, D, [], s4)) := Lib.hid (by rw [HD1.out, HD.out, hm])
    obtain ⟨LF, hLF⟩ : ∃ L, frL m ⟨dA, dn, dc⟩ .nil = L := ⟨_, rfl⟩
    have HLl : Hid (LF.length = 19) := Lib.hid (by rw [← hLF]; rfl)
    have HO : Hid (LF.all (·.oneCell') = true) := Lib.hid (by rw [← hLF]; rfl)
    have HFV : Hid (frV m ⟨dA, dn, dc⟩ .nil = .agg LF.toArray) := Lib.hid (by rw [← hLF]; rfl)
    rw [hLF] at hS
    clear hm hLF
    obtain ⟨dsF, hdsF⟩ : ∃ z : List Int, D = z := ⟨_, rfl⟩
    rw [hdsF] at hFit HD2
    obtain ⟨rsF, hrsF⟩ : ∃ z : RS, [] = z := ⟨_, rfl⟩
    rw [hrsF] at hFit HD2
    clear hdsF hrsF
    obtain ⟨bsF, badF⟩ := s4
    have hbad := hS.rd.bad_cell
    simp only at hbad
  rotate_left
  focus
    have hby := varN_byt (bs, false) hr.2.1
    have hvl := varN_le (bs, false)
    simp only at hvl
    rw [hbn] at hvl
    clear hbn hr hA hcm
    have hd : rdK 24 (varN (bs, false)) = if byteR (varN (varN (varN (bs, false)))) = 8 then some ((withC ({ FN.zero 24 with q := (varR (varN (bs, false))), l := (varR (varN (varN (bs, false)))) } : FN) (takeR (takeN (varN (varN (varN (bs, false)))) 1) 8) : FN), [], [], (takeN (takeN (varN (varN (varN (bs, false)))) 1) 8)) else none := rfl
    have HK := Lib.hid hk
    obtain ⟨s1, e_s1⟩ : ∃ x, varN (bs, false) = x := ⟨_, rfl⟩
    rw [e_s1] at hd hby hvl
    have HD1 := Lib.hid e_s1
    have E_s1 := Lib.hid e_s1
    clear e_s1
    obtain ⟨x_q, e_x_q⟩ : ∃ x, varR s1 = x := ⟨_, rfl⟩
    rw [e_x_q] at hd
    have E_x_q := Lib.hid e_x_q
    clear e_x_q
    obtain ⟨s2, e_s2⟩ : ∃ x, varN s1 = x := ⟨_, rfl⟩
    rw [e_s2] at hd
    have E_s2 := Lib.hid e_s2
    clear e_s2
    obtain ⟨x_l, e_x_l⟩ : ∃ x, varR s2 = x := ⟨_, rfl⟩
    rw [e_x_l] at hd
    have E_x_l := Lib.hid e_x_l
    clear e_x_l
    obtain ⟨s3, e_s3⟩ : ∃ x, varN s2 = x := ⟨_, rfl⟩
    rw [e_s3] at hd
    have E_s3 := Lib.hid e_s3
    clear e_s3
    obtain ⟨bt, e_bt⟩ : ∃ x, byteR s3 = x := ⟨_, rfl⟩
    rw [e_bt] at hd
    have E_bt := Lib.hid e_bt
    clear e_bt
    obtain ⟨s4, e_s4⟩ : ∃ x, takeN s3 1 = x := ⟨_, rfl⟩
    rw [e_s4] at hd
    have E_s4 := Lib.hid e_s4
    clear e_s4
    obtain ⟨C, e_C⟩ : ∃ x, takeR s4 8 = x := ⟨_, rfl⟩
    rw [e_C] at hd
    have E_C := Lib.hid e_C
    clear e_C
    obtain ⟨s5, e_s5⟩ : ∃ x, takeN s4 8 = x := ⟨_, rfl⟩
    rw [e_s5] at hd
    have E_s5 := Lib.hid e_s5
    clear e_s5
    have HD := Lib.hid hd
    clear hd hk
    have hb255 : bits BinOp.and IntKind.u64 24 255 = 24 := by decide
    go_enter Try.func37, Try.ntmps37
    go_wp2_with fail
    refine (rvar_any (w.heap.size + 1) 93 _ (bs, false) _ hrA hP').mono ?_
    rintro e w1 ⟨rfl, hr1, hk1⟩
    rw [HK.out]
    rw [E_s1.out] at hr1
    have hS := RdS.start (frL (FN.zero 24) .nil .nil) (hk1.below hB20 hB20.size (fun j hj => by omega)) (hA20.kept hk1 (by omega)) hr1
    clear hr1 hk1 hrA hA20 hB20
    have hg25 := hS.g25
    have hg5 := hS.g5w
    have hp5 := hS.p5
    have hlt5 : w1.heap.size < (w1.alloc (.cells (frL (FN.zero 24) .nil .nil).toArray 31)).heap.size := by simp
    go_wp2_with (first | ((with_reducible refine at_st (x := .tmp 6) ?_); refine st_top _ _ _ (by rfl) _ (by rfl) (by simp) (by rfl) (by rfl) (by rfl) (by rfl) ?_) | fail)
    refine (rvar_any (w.heap.size + 1) 93 _ s1 _ hS.rd hP').mono ?_
    rintro e w2 ⟨rfl, hr2, hk2⟩
    have b_q := hS.rd.byt2
    rw [E_x_q.out] at b_q
    rw [E_x_q.out]
    rw [E_s2.out] at hr2
    have vl2 := varN_le s1
    rw [E_s2.out] at vl2
    have hS := hS.step hr2 hk2
    clear hr2 hk2
    go_wp2_with fail
    refine (rvar_any (w.heap.size + 1) 93 _ s2 _ hS.rd hP').mono ?_
    rintro e w3 ⟨rfl, hr3, hk3⟩
    have b_l := hS.rd.byt2
    rw [E_x_l.out] at b_l
    rw [E_x_l.out]
    rw [E_s3.out] at hr3
    have vl3 := varN_le s2
    rw [E_s3.out] at vl3
    have hS := hS.step hr3 hk3
    clear hr3 hk3
    have c_8 := hS.a5.cell 8
    have f_8 := hS.a5.frozen 8
    have c_5 := hS.a5.cell 5
    have f_5 := hS.a5.frozen 5
    simp only [frL, FN.zero, Sl.nil, withC, List.getElem?_cons_succ, List.getElem?_cons_zero, List.set_cons_zero, List.set_cons_succ] at c_8 c_5
    have hS := ((hS).cell 8 (.int .u64 x_q)).cell 5 (.int .u64 x_l)
    go_wp2_with fail
    clear c_8 f_8 c_5 f_5
    refine (rbyte_any (w.heap.size + 1) 93 _ s3 _ hS.rd hP' (by omega)).mono ?_
    rintro e w4 ⟨rfl, hr4, hk4⟩
    rw [E_bt.out]
    rw [E_s4.out] at hr4
    have vl4 := takeN_le s3 1
    rw [E_s4.out] at vl4
    have bbt : 0 ≤ bt ∧ bt < 256 := by rw [← E_bt.out]; exact (takeR_byt _ 1 hS.rd.byt).getD 0
    have hS := hS.step hr4 hk4
    clear hr4 hk4
    obtain ⟨ok8, hok8⟩ : ∃ x, (bt == 8) = x := ⟨_, rfl⟩
    have HOK8 := Lib.hid hok8
    go_wp2_with fail
    refine (rcname_any (w.heap.size + 1) 93 _ s4 _ hS.rd hP' (by omega)).mono ?_
    rintro e w5 ⟨rfl, hr5, hk5⟩
    have bC := takeR_byt s4 8 hS.rd.byt
    rw [E_C.out] at bC ⊢
    rw [E_s5.out] at hr5
    simp only [cid8, List.map_cons, List.map_nil]
    obtain ⟨b0, eb0⟩ : ∃ x, C.getD 0 0 = x := ⟨_, rfl⟩
    rw [eb0]
    have EB0 := Lib.hid eb0
    clear eb0
    obtain ⟨b1, eb1⟩ : ∃ x, C.getD 1 0 = x := ⟨_, rfl⟩
    rw [eb1]
    have EB1 := Lib.hid eb1
    clear eb1
    obtain ⟨b2, eb2⟩ : ∃ x, C.getD 2 0 = x := ⟨_, rfl⟩
    rw [eb2]
    have EB2 := Lib.hid eb2
    clear eb2
    obtain ⟨b3, eb3⟩ : ∃ x, C.getD 3 0 = x := ⟨_, rfl⟩
    rw [eb3]
    have EB3 := Lib.hid eb3
    clear eb3
    obtain ⟨b4, eb4⟩ : ∃ x, C.getD 4 0 = x := ⟨_, rfl⟩
    rw [eb4]
    have EB4 := Lib.hid eb4
    clear eb4
    obtain ⟨b5, eb5⟩ : ∃ x, C.getD 5 0 = x := ⟨_, rfl⟩
    rw [eb5]
    have EB5 := Lib.hid eb5
    clear eb5
    obtain ⟨b6, eb6⟩ : ∃ x, C.getD 6 0 = x := ⟨_, rfl⟩
    rw [eb6]
    have EB6 := Lib.hid eb6
    clear eb6
    obtain ⟨b7, eb7⟩ : ∃ x, C.getD 7 0 = x := ⟨_, rfl⟩
    rw [eb7]
    have EB7 := Lib.hid eb7
    clear eb7
    have hS := hS.step hr5 hk5
    clear hr5 hk5
    have c_11 := hS.a5.cell 11
    have f_11 := hS.a5.frozen 11
    have c_12 := hS.a5.cell 12
    have f_12 := hS.a5.frozen 12
    have c_13 := hS.a5.cell 13
    have f_13 := hS.a5.frozen 13
    have c_14 := hS.a5.cell 14
    have f_14 := hS.a5.frozen 14
    have c_15 := hS.a5.cell 15
    have f_15 := hS.a5.frozen 15
    have c_16 := hS.a5.cell 16
    have f_16 := hS.a5.frozen 16
    have c_17 := hS.a5.cell 17
    have f_17 := hS.a5.frozen 17
    have c_18 := hS.a5.cell 18
    have f_18 := hS.a5.frozen 18
    simp only [frL, FN.zero, Sl.nil, withC, List.getElem?_cons_succ, List.getElem?_cons_zero, List.set_cons_zero, List.set_cons_succ] at c_11 c_12 c_13 c_14 c_15 c_16 c_17 c_18
    have hS := ((((((((hS).cell 11 (.int .u8 b0)).cell 12 (.int .u8 b1)).cell 13 (.int .u8 b2)).cell 14 (.int .u8 b3)).cell 15 (.int .u8 b4)).cell 16 (.int .u8 b5)).cell 17 (.int .u8 b6)).cell 18 (.int .u8 b7)
    have eb0 := EB0.out
    have eb1 := EB1.out
    have eb2 := EB2.out
    have eb3 := EB3.out
    have eb4 := EB4.out
    have eb5 := EB5.out
    have eb6 := EB6.out
    have eb7 := EB7.out
    have hS := hS.cast (L6 := frL (withC ({ FN.zero 24 with q := x_q, l := x_l } : FN) C : FN) .nil .nil) (by simp only [withC, frL, eb0, eb1, eb2, eb3, eb4, eb5, eb6, eb7]; rfl)
    clear eb0 eb1 eb2 eb3 eb4 eb5 eb6 eb7
    have hwf : (withC ({ FN.zero 24 with q := x_q, l := x_l } : FN) C : FN).wf := wf_withC (wf_set (wf_zero 24 (by omega) (by omega)) 0 0 x_l 0 0 x_q 0 false (by first | exact z62 | assumption) (by first | exact z62 | assumption) (by first | exact z62 | assumption) (by first | exact z62 | assumption) (by first | exact z62 | assumption) (by first | exact z62 | assumption) (by first | exact z62 | assumption)) C bC
    have hFit := hS.fits (P := fun b => w.heap.size + 1 ≤ b) hwf (InD.nil_ _ _) (InR.nil_ _ _)
    clear hwf
    obtain ⟨m, hm⟩ : ∃ m, (withC ({ FN.zero 24 with q := x_q, l := x_l } : FN) C : FN) = m := ⟨_, rfl⟩
    rw [hm] at hS hFit
    have HD2 : Hid (rdK 24 (varN (bs, false)) = if bt = 8 then some (m, [], [], s5) else none) := Lib.hid (by rw [HD1.out, HD.out, hm])
    obtain ⟨LF, hLF⟩ : ∃ L, frL m .nil .nil = L := ⟨_, rfl⟩
    have HLl : Hid (LF.length = 19) := Lib.hid (by rw [← hLF]; rfl)
    have HO : Hid (LF.all (·.oneCell') = true) := Lib.hid (by rw [← hLF]; rfl)
    have HFV : Hid (frV m .nil .nil = .agg LF.toArray) := Lib.hid (by rw [← hLF]; rfl)
    rw [hLF] at hS
    clear hm hLF
    obtain ⟨dsF, hdsF⟩ : ∃ z : List Int, [] = z := ⟨_, rfl⟩
    rw [hdsF] at hFit HD2
    obtain ⟨rsF, hrsF⟩ : ∃ z : RS, [] = z := ⟨_, rfl⟩
    rw [hrsF] at hFit HD2
    clear hdsF hrsF
    cases ok8
    case false =>
      have h8 : ¬ bt = 8 := by have := HOK8.out; simpa using this
      have hno : readO (bs, false) = none := readO_no HK.out (by omega) (by rw [HD2.out, if_neg h8])
      have HNO := Lib.hid hno
      clear hno h8
      go_wp2_with (first | ((with_reducible refine at_st (x := .tmp 2) ?_); refine st_at _ _ (frL (FN.zero 0) .nil .nil) (by rfl) (by rfl) hS.a2 (by rfl) (by rfl) (by rfl) ?_; intro w9 hA9 hk9) | fail)
      refine bodyPost_ret (results_cell_tmp 2 3 31 (by rfl) _ 31 _ _ _ (by rfl) (by rfl) hA9 Try.underlying31 rfl fr_info) rfl ?_
      exact RDPost.no HNO.out (hS.out hk9)
    have h8 : bt = 8 := by have := HOK8.out; simpa using this
    have HD2 := Lib.hid (HD2.out.trans (if_pos h8))
    clear h8 HOK8
    obtain ⟨bsF, badF⟩ := s5
    have hbad := hS.rd.bad_cell
    simp only at hbad
  rotate_left
  focus
    have hby := varN_byt (bs, false) hr.2.1
    have hvl := varN_le (bs, false)
    simp only at hvl
    rw [hbn] at hvl
    clear hbn hr hA hcm
    have hd : rdK 26 (varN (bs, false)) = some ((withC (FN.zero 26) (takeR (varN (bs, false)) 8) : FN), [], [], (takeN (varN (bs, false)) 8)) := rfl
    have HK := Lib.hid hk
    obtain ⟨s1, e_s1⟩ : ∃ x, varN (bs, false) = x := ⟨_, rfl⟩
    rw [e_s1] at hd hby hvl
    have HD1 := Lib.hid e_s1
    have E_s1 := Lib.hid e_s1
    clear e_s1
    obtain ⟨C, e_C⟩ : ∃ x, takeR s1 8 = x := ⟨_, rfl⟩
    rw [e_C] at hd
    have E_C := Lib.hid e_C
    clear e_C
    obtain ⟨s2, e_s2⟩ : ∃ x, takeN s1 8 = x := ⟨_, rfl⟩
    rw [e_s2] at hd
    have E_s2 := Lib.hid e_s2
    clear e_s2
    have HD := Lib.hid hd
    clear hd hk
    have hb255 : bits BinOp.and IntKind.u64 26 255 = 26 := by decide
    go_enter Try.func37, Try.ntmps37
    go_wp2_with fail
    refine (rvar_any (w.heap.size + 1) 93 _ (bs, false) _ hrA hP').mono ?_
    rintro e w1 ⟨rfl, hr1, hk1⟩
    rw [HK.out]
    rw [E_s1.out] at hr1
    have hS := RdS.start (frL (FN.zero 26) .nil .nil) (hk1.below hB20 hB20.size (fun j hj => by omega)) (hA20.kept hk1 (by omega)) hr1
    clear hr1 hk1 hrA hA20 hB20
    have hg25 := hS.g25
    have hg5 := hS.g5w
    have hp5 := hS.p5
    have hlt5 : w1.heap.size < (w1.alloc (.cells (frL (FN.zero 26) .nil .nil).toArray 31)).heap.size := by simp
    go_wp2_with (first | ((with_reducible refine at_st (x := .tmp 6) ?_); refine st_top _ _ _ (by rfl) _ (by rfl) (by simp) (by rfl) (by rfl) (by rfl) (by rfl) ?_) | fail)
    refine (rcname_any (w.heap.size + 1) 93 _ s1 _ hS.rd hP' (by omega)).mono ?_
    rintro e w2 ⟨rfl, hr2, hk2⟩
    have bC := takeR_byt s1 8 hS.rd.byt
    rw [E_C.out] at bC ⊢
    rw [E_s2.out] at hr2
    simp only [cid8, List.map_cons, List.map_nil]
    obtain ⟨b0, eb0⟩ : ∃ x, C.getD 0 0 = x := ⟨_, rfl⟩
    rw [eb0]
    have EB0 := Lib.hid eb0
    clear eb0
    obtain ⟨b1, eb1⟩ : ∃ x, C.getD 1 0 = x := ⟨_, rfl⟩
    rw [eb1]
    have EB1 := Lib.hid eb1
    clear eb1
    obtain ⟨b2, eb2⟩ : ∃ x, C.getD 2 0 = x := ⟨_, rfl⟩
    rw [eb2]
    have EB2 := Lib.hid eb2
    clear eb2
    obtain ⟨b3, eb3⟩ : ∃ x, C.getD 3 0 = x := ⟨_, rfl⟩
    rw [eb3]
    have EB3 := Lib.hid eb3
    clear eb3
    obtain ⟨b4, eb4⟩ : ∃ x, C.getD 4 0 = x := ⟨_, rfl⟩
    rw [eb4]
    have EB4 := Lib.hid eb4
    clear eb4
    obtain ⟨b5, eb5⟩ : ∃ x, C.getD 5 0 = x := ⟨_, rfl⟩
    rw [eb5]
    have EB5 := Lib.hid eb5
    clear eb5
    obtain ⟨b6, eb6⟩ : ∃ x, C.getD 6 0 = x := ⟨_, rfl⟩
    rw [eb6]
    have EB6 := Lib.hid eb6
    clear eb6
    obtain ⟨b7, eb7⟩ : ∃ x, C.getD 7 0 = x := ⟨_, rfl⟩
    rw [eb7]
    have EB7 := Lib.hid eb7
    clear eb7
    have hS := hS.step hr2 hk2
    clear hr2 hk2
    have c_11 := hS.a5.cell 11
    have f_11 := hS.a5.frozen 11
    have c_12 := hS.a5.cell 12
    have f_12 := hS.a5.frozen 12
    have c_13 := hS.a5.cell 13
    have f_13 := hS.a5.frozen 13
    have c_14 := hS.a5.cell 14
    have f_14 := hS.a5.frozen 14
    have c_15 := hS.a5.cell 15
    have f_15 := hS.a5.frozen 15
    have c_16 := hS.a5.cell 16
    have f_16 := hS.a5.frozen 16
    have c_17 := hS.a5.cell 17
    have f_17 := hS.a5.frozen 17
    have c_18 := hS.a5.cell 18
    have f_18 := hS.a5.frozen 18
    simp only [frL, FN.zero, Sl.nil, withC, List.getElem?_cons_succ, List.getElem?_cons_zero, List.set_cons_zero, List.set_cons_succ] at c_11 c_12 c_13 c_14 c_15 c_16 c_17 c_18
    have hS := ((((((((hS).cell 11 (.int .u8 b0)).cell 12 (.int .u8 b1)).cell 13 (.int .u8 b2)).cell 14 (.int .u8 b3)).cell 15 (.int .u8 b4)).cell 16 (.int .u8 b5)).cell 17 (.int .u8 b6)).cell 18 (.int .u8 b7)
    have eb0 := EB0.out
    have eb1 := EB1.out
    have eb2 := EB2.out
    have eb3 := EB3.out
    have eb4 := EB4.out
    have eb5 := EB5.out
    have eb6 := EB6.out
    have eb7 := EB7.out
    have hS := hS.cast (L6 := frL (withC (FN.zero 26) C : FN) .nil .nil) (by simp only [withC, frL, eb0, eb1, eb2, eb3, eb4, eb5, eb6, eb7]; rfl)
    clear eb0 eb1 eb2 eb3 eb4 eb5 eb6 eb7
    have hwf : (withC (FN.zero 26) C : FN).wf := wf_withC (wf_set (wf_zero 26 (by omega) (by omega)) 0 0 0 0 0 0 0 false (by first | exact z62 | assumption) (by first | exact z62 | assumption) (by first | exact z62 | assumption) (by first | exact z62 | assumption) (by first | exact z62 | assumption) (by first | exact z62 | assumption) (by first | exact z62 | assumption)) C bC
    have hFit := hS.fits (P := fun b => w.heap.size + 1 ≤ b) hwf (InD.nil_ _ _) (InR.nil_ _ _)
    clear hwf
    obtain ⟨m, hm⟩ : ∃ m, (withC (FN.zero 26) C : FN) = m := ⟨_, rfl⟩
    rw [hm] at hS hFit
    have HD2 : Hid (rdK 26 (varN (bs, false)) = some (m, [], [], s2)) := Lib.hid (by rw [HD1.out, HD.out, hm])
    obtain ⟨LF, hLF⟩ : ∃ L, frL m .nil .nil = L := ⟨_, rfl⟩
    have HLl : Hid (LF.length = 19) := Lib.hid (by rw [← hLF]; rfl)
    have HO : Hid (LF.all (·.oneCell') = true) := Lib.hid (by rw [← hLF]; rfl)
    have HFV : Hid (frV m .nil .nil = .agg LF.toArray) := Lib.hid (by rw [← hLF]; rfl)
    rw [hLF] at hS
    clear hm hLF
    obtain ⟨dsF, hdsF⟩ : ∃ z : List Int, [] = z := ⟨_, rfl⟩
    rw [hdsF] at hFit HD2
    obtain ⟨rsF, hrsF⟩ : ∃ z : RS, [] = z := ⟨_, rfl⟩
    rw [hrsF] at hFit HD2
    clear hdsF hrsF
    obtain ⟨bsF, badF⟩ := s2
    have hbad := hS.rd.bad_cell
    simp only at hbad
  rotate_left
  focus
    have hby := varN_byt (bs, false) hr.2.1
    have hvl := varN_le (bs, false)
    simp only at hvl
    rw [hbn] at hvl
    clear hbn hr hA hcm
    have hd : rdK 27 (varN (bs, false)) = some ((withC (FN.zero 27) (takeR (varN (bs, false)) 8) : FN), [], [], (takeN (varN (bs, false)) 8)) := rfl
    have HK := Lib.hid hk
    obtain ⟨s1, e_s1⟩ : ∃ x, varN (bs, false) = x := ⟨_, rfl⟩
    rw [e_s1] at hd hby hvl
    have HD1 := Lib.hid e_s1
    have E_s1 := Lib.hid e_s1
    clear e_s1
    obtain ⟨C, e_C⟩ : ∃ x, takeR s1 8 = x := ⟨_, rfl⟩
    rw [e_C] at hd
    have E_C := Lib.hid e_C
    clear e_C
    obtain ⟨s2, e_s2⟩ : ∃ x, takeN s1 8 = x := ⟨_, rfl⟩
    rw [e_s2] at hd
    have E_s2 := Lib.hid e_s2
    clear e_s2
    have HD := Lib.hid hd
    clear hd hk
    have hb255 : bits BinOp.and IntKind.u64 27 255 = 27 := by decide
    go_enter Try.func37, Try.ntmps37
    go_wp2_with fail
    refine (rvar_any (w.heap.size + 1) 93 _ (bs, false) _ hrA hP').mono ?_
    rintro e w1 ⟨rfl, hr1, hk1⟩
    rw [HK.out]
    rw [E_s1.out] at hr1
    have hS := RdS.start (frL (FN.zero 27) .nil .nil) (hk1.below hB20 hB20.size (fun j hj => by omega)) (hA20.kept hk1 (by omega)) hr1
    clear hr1 hk1 hrA hA20 hB20
    have hg25 := hS.g25
    have hg5 := hS.g5w
    have hp5 := hS.p5
    have hlt5 : w1.heap.size < (w1.alloc (.cells (frL (FN.zero 27) .nil .nil).toArray 31)).heap.size := by simp
    go_wp2_with (first | ((with_reducible refine at_st (x := .tmp 6) ?_); refine st_top _ _ _ (by rfl) _ (by rfl) (by simp) (by rfl) (by rfl) (by rfl) (by rfl) ?_) | fail)
    refine (rcname_any (w.heap.size + 1) 93 _ s1 _ hS.rd hP' (by omega)).mono ?_
    rintro e w2 ⟨rfl, hr2, hk2⟩
    have bC := takeR_byt s1 8 hS.rd.byt
    rw [E_C.out] at bC ⊢
    rw [E_s2.out] at hr2
    simp only [cid8, List.map_cons, List.map_nil]
    obtain ⟨b0, eb0⟩ : ∃ x, C.getD 0 0 = x := ⟨_, rfl⟩
    rw [eb0]
    have EB0 := Lib.hid eb0
    clear eb0
    obtain ⟨b1, eb1⟩ : ∃ x, C.getD 1 0 = x := ⟨_, rfl⟩
    rw [eb1]
    have EB1 := Lib.hid eb1
    clear eb1
    obtain ⟨b2, eb2⟩ : ∃ x, C.getD 2 0 = x := ⟨_, rfl⟩
    rw [eb2]
    have EB2 := Lib.hid eb2
    clear eb2
    obtain ⟨b3, eb3⟩ : ∃ x, C.getD 3 0 = x := ⟨_, rfl⟩
    rw [eb3]
    have EB3 := Lib.hid eb3
    clear eb3
    obtain ⟨b4, eb4⟩ : ∃ x, C.getD 4 0 = x := ⟨_, rfl⟩
    rw [eb4]
    have EB4 := Lib.hid eb4
    clear eb4
    obtain ⟨b5, eb5⟩ : ∃ x, C.getD 5 0 = x := ⟨_, rfl⟩
    rw [eb5]
    have EB5 := Lib.hid eb5
    clear eb5
    obtain ⟨b6, eb6⟩ : ∃ x, C.getD 6 0 = x := ⟨_, rfl⟩
    rw [eb6]
    have EB6 := Lib.hid eb6
    clear eb6
    obtain ⟨b7, eb7⟩ : ∃ x, C.getD 7 0 = x := ⟨_, rfl⟩
    rw [eb7]
    have EB7 := Lib.hid eb7
    clear eb7
    have hS := hS.step hr2 hk2
    clear hr2 hk2
    have c_11 := hS.a5.cell 11
    have f_11 := hS.a5.frozen 11
    have c_12 := hS.a5.cell 12
    have f_12 := hS.a5.frozen 12
    have c_13 := hS.a5.cell 13
    have f_13 := hS.a5.frozen 13
    have c_14 := hS.a5.cell 14
    have f_14 := hS.a5.frozen 14
    have c_15 := hS.a5.cell 15
    have f_15 := hS.a5.frozen 15
    have c_16 := hS.a5.cell 16
    have f_16 := hS.a5.frozen 16
    have c_17 := hS.a5.cell 17
    have f_17 := hS.a5.frozen 17
    have c_18 := hS.a5.cell 18
    have f_18 := hS.a5.frozen 18
    simp only [frL, FN.zero, Sl.nil, withC, List.getElem?_cons_succ, List.getElem?_cons_zero, List.set_cons_zero, List.set_cons_succ] at c_11 c_12 c_13 c_14 c_15 c_16 c_17 c_18
    have hS := ((((((((hS).cell 11 (.int .u8 b0)).cell 12 (.int .u8 b1)).cell 13 (.int .u8 b2)).cell 14 (.int .u8 b3)).cell 15 (.int .u8 b4)).cell 16 (.int .u8 b5)).cell 17 (.int .u8 b6)).cell 18 (.int .u8 b7)
    have eb0 := EB0.out
    have eb1 := EB1.out
    have eb2 := EB2.out
    have eb3 := EB3.out
    have eb4 := EB4.out
    have eb5 := EB5.out
    have eb6 := EB6.out
    have eb7 := EB7.out
    have hS := hS.cast (L6 := frL (withC (FN.zero 27) C : FN) .nil .nil) (by simp only [withC, frL, eb0, eb1, eb2, eb3, eb4, eb5, eb6, eb7]; rfl)
    clear eb0 eb1 eb2 eb3 eb4 eb5 eb6 eb7
    have hwf : (withC (FN.zero 27) C : FN).wf := wf_withC (wf_set (wf_zero 27 (by omega) (by omega)) 0 0 0 0 0 0 0 false (by first | exact z62 | assumption) (by first | exact z62 | assumption) (by first | exact z62 | assumption) (by first | exact z62 | assumption) (by first | exact z62 | assumption) (by first | exact z62 | assumption) (by first | exact z62 | assumption)) C bC
    have hFit := hS.fits (P := fun b => w.heap.size + 1 ≤ b) hwf (InD.nil_ _ _) (InR.nil_ _ _)
    clear hwf
    obtain ⟨m, hm⟩ : ∃ m, (withC (FN.zero 27) C : FN) = m := ⟨_, rfl⟩
    rw [hm] at hS hFit
    have HD2 : Hid (rdK 27 (varN (bs, false)) = some (m, [], [], s2)) := Lib.hid (by rw [HD1.out, HD.out, hm])
    obtain ⟨LF, hLF⟩ : ∃ L, frL m .nil .nil = L := ⟨_, rfl⟩
    have HLl : Hid (LF.length = 19) := Lib.hid (by rw [← hLF]; rfl)
    have HO : Hid (LF.all (·.oneCell') = true) := Lib.hid (by rw [← hLF]; rfl)
    have HFV : Hid (frV m .nil .nil = .agg LF.toArray) := Lib.hid (by rw [← hLF]; rfl)
    rw [hLF] at hS
    clear hm hLF
    obtain ⟨dsF, hdsF⟩ : ∃ z : List Int, [] = z := ⟨_, rfl⟩
    rw [hdsF] at hFit HD2
    obtain ⟨rsF, hrsF⟩ : ∃ z : RS, [] = z := ⟨_, rfl⟩
    rw [hrsF] at hFit HD2
    clear hdsF hrsF
    obtain ⟨bsF, badF⟩ := s2
    have hbad := hS.rd.bad_cell
    simp only at hbad
  rotate_left
  all_goals
    cases badF with
    | true =>
      have HNO : Hid (readO (bs, false) = none) := Lib.hid (by rw [readO_of HK.out (by omega) HD2.out]; simp)
      go_wp2_with (first | ((with_reducible refine at_st (x := .tmp 6) ?_); refine st_top _ _ LF (by rfl) _ (by rfl) (by simp) HV.out (by rfl) HLl.out HO.out ?_) | ((with_reducible refine at_st (x := .tmp 2) ?_); refine st_at _ _ (frL (FN.zero 0) .nil .nil) (by rfl) (by rfl) hS.a2 (by rfl) (by rfl) (by rfl) ?_; intro w9 hA9 hk9) | fail)
      refine bodyPost_ret (results_cell_tmp 2 3 31 (by rfl) _ 31 _ _ _ (by rfl) (by rfl) hA9 Try.underlying31 rfl fr_info) rfl ?_
      exact RDPost.no HNO.out (hS.out hk9)
    | false =>
      have hplt := hS.plt
      obtain ⟨qA, qn, qc, hqrow, hql, hqc, hqm⟩ := hS.rd.row_cell
      simp only at hql
      have HQL := Lib.hid hql
      have hrt := rright_any _ m _ _ _ _ _ hFit
      rw [HFV.out] at hrt
      have HRT := Lib.hid hrt
      clear hrt
      have a5 := hS.a5
      go_wp2_with (first | ((with_reducible refine at_st (x := .tmp 6) ?_); refine st_top _ _ LF (by rfl) _ (by rfl) (by simp) HV.out (by rfl) HLl.out HO.out ?_) | ((with_reducible refine at_ld (x := .tmp 6) ?_); refine ld_fr_g _ _ (by rfl) (by rfl) a5 HLl.out ?_) | fail)
      refine HRT.out.mono ?_
      rintro e w8 ⟨rfl, hb8⟩
      clear HRT a5
      have hS := hS.below hb8
      have hFit := hFit.below hb8
      have hqrow : w8.cell? ⟨w.heap.size + 1, 0, none⟩ = some (.slice qA qn qc) := (hb8.cell (p := ⟨w.heap.size + 1, 0, none⟩) hplt).trans hqrow
      clear hb8 hql
      obtain ⟨rb, hrb⟩ : ∃ x, rightB m dsF rsF = x := ⟨_, rfl⟩
      rw [hrb]
      have HRO : Hid (readO (bs, false) = if (false : Bool) = false ∧ rb = true then some (m, dsF, rsF, (bsF, false)) else none) := Lib.hid (by rw [readO_of HK.out (by omega) HD2.out, hrb])
      clear hrb
      cases rb with
      | false =>
        have HNO : Hid (readO (bs, false) = none) := Lib.hid (by rw [HRO.out]; simp)
        go_wp2_with (first | ((with_reducible refine at_st (x := .tmp 2) ?_); refine st_at _ _ (frL (FN.zero 0) .nil .nil) (by rfl) (by rfl) hS.a2 (by rfl) (by rfl) (by rfl) ?_; intro w9 hA9 hk9) | fail)
        refine bodyPost_ret (results_cell_tmp 2 3 31 (by rfl) _ 31 _ _ _ (by rfl) (by rfl) hA9 Try.underlying31 rfl fr_info) rfl ?_
        exact RDPost.no HNO.out (hS.out hk9)
      | true =>
        have HYES : Hid (readO (bs, false) = some (m, dsF, rsF, (bsF, false))) := Lib.hid (by rw [HRO.out]; simp)
        have hqm' := hqm
        unfold maxLen at hqm'
        have hww : IntKind.i64.wrap ((n : Int) - (qn : Int)) = (n : Int) - (qn : Int) := IntWalk.i64_in _ (by omega)
        go_wp2_with fail
        have hS := hS.drew
        have hFit := hFit.below (below_drew (Below.refl _ _))
        have hqrow : w8.drew.cell? ⟨w.heap.size + 1, 0, none⟩ = some (.slice qA qn qc) := hqrow
        refine wp_region_held_drew (S := (fun W => At W w1.heap.size 31 LF ∧ W.cell? ⟨w.heap.size + 1, 0, none⟩ = some (.slice qA qn qc))) (by kernel_rfl) (⟨hS.a5, hqrow⟩) (fun hHeld => ?_)
        refine take_dst (i := 0) (dst := some 172) rfl rfl (by kernel_rfl) (by kernel_rfl) (by kernel_rfl) (fun _ _ _ h => h) (v := ?_) ?_ (by assumption) ?_
        rotate_left
        · refine yl_any 31 (.tmp 6) ?_ w1.heap.size 0 ?_ LF _ ?_ Try.underlying31 rfl ?_ ?_
          · rfl
          · rfl
          · intro w hSw; exact hSw.1.rangeAt
          · rw [HLl.out]; exact fr_info
          · rfl
        simp only [Act.put, List.setIfInBounds_toArray, List.set_cons_zero, List.set_cons_succ]
        refine tkp 1 (some 173) (v := ?_) rfl (Or.inl ⟨by rfl, ?_⟩) (by assumption) ?_
        rotate_left
        · intro w hSw; (try dsimp only at hSw); (have z0 := hSw.2); go_simp; first | done | (with_reducible rfl)
        simp only [Act.put, List.setIfInBounds_toArray, List.set_cons_zero, List.set_cons_succ]
        refine tkp 2 (some 174) (v := ?_) rfl (Or.inl ⟨by rfl, ?_⟩) (by assumption) ?_
        rotate_left
        · intro w hSw; (try dsimp only at hSw); (have z0 := hSw.2); go_simp; first | done | (with_reducible rfl)
        simp only [Act.put, List.setIfInBounds_toArray, List.set_cons_zero, List.set_cons_succ]
        refine tkp 3 (some 175) (v := ?_) rfl (Or.inl ⟨by rfl, ?_⟩) (by assumption) ?_
        rotate_left
        · intro w hSw; (try dsimp only at hSw); (have z0 := hSw.2); go_simp; first | done | (with_reducible rfl)
        simp only [Act.put, List.setIfInBounds_toArray, List.set_cons_zero, List.set_cons_succ]
        refine tkp 4 (some 176) (v := ?_) rfl (Or.inl ⟨by rfl, ?_⟩) (by assumption) ?_
        rotate_left
        · intro w hSw; (try dsimp only at hSw); (have z0 := hSw.2); go_simp; first | done | (with_reducible rfl)
        simp only [Act.put, List.setIfInBounds_toArray, List.set_cons_zero, List.set_cons_succ]
        refine tkp 5 (some 177) (v := ?_) rfl (Or.inl ⟨by rfl, ?_⟩) (by assumption) ?_
        rotate_left
        · intro w hSw; (try dsimp only at hSw); (have z0 := hSw.2); go_simp; first | done | (with_reducible rfl)
        simp only [Act.put, List.setIfInBounds_toArray, List.set_cons_zero, List.set_cons_succ]
        refine tkp 6 (some 178) (v := ?_) rfl (Or.inl ⟨by rfl, ?_⟩) (by assumption) ?_
        rotate_left
        · intro w hSw; (try dsimp only at hSw); (have z0 := hSw.2); go_simp; first | done | (with_reducible rfl)
        simp only [Act.put, List.setIfInBounds_toArray, List.set_cons_zero, List.set_cons_succ]
        refine tkp 7 (some 179) (v := ?_) rfl (Or.inl ⟨by rfl, ?_⟩) (by assumption) ?_
        rotate_left
        · intro w hSw; (try dsimp only at hSw); (have z0 := hSw.2); go_simp; first | done | (with_reducible rfl)
        simp only [Act.put, List.setIfInBounds_toArray, List.set_cons_zero, List.set_cons_succ]
        refine tkp 8 (some 180) (v := ?_) rfl (Or.inl ⟨by rfl, ?_⟩) (by assumption) ?_
        rotate_left
        · intro w hSw; (try dsimp only at hSw); (have z0 := hSw.2); go_simp; first | done | (with_reducible rfl)
        simp only [Act.put, List.setIfInBounds_toArray, List.set_cons_zero, List.set_cons_succ]
        obtain ⟨Y, hY⟩ : ∃ x, w8.drew = x := ⟨_, rfl⟩
        rw [hY] at hS hFit hqrow ⊢
        clear hY
        refine wpAnyH_ready (rs := [9]) (by kernel_rfl) (by simp) ?_
        refine AllReadyH.cons rfl (fun K hK => ?_) AllReadyH.nil
        refine step_st_any (by rfl) w.heap.size 31 (frL (FN.zero 0) .nil .nil) LF (by rfl) (by rfl) hS.a2 HLl.out.symm (by rw [HLl.out]; exact fr_info) HO.out ?_
        intro w9 hA9 hk9
        have h59 := hS.a5.kept hk9 (fun e => hg25 e.symm)
        have hq9 := (hk9.cell (p := ⟨w.heap.size + 1, 0, none⟩) (by obtain ⟨_, _, _, h, _⟩ := hS.rd; exact h.lt) (fun e => hS.p2 e)).trans hqrow
        refine hK.out _ _ ⟨h59, hq9⟩ (fun hHeld => ?_)
        clear hK K
        refine tkp 10 (some 3) (v := ?_) rfl (Or.inl ⟨by rfl, ?_⟩) (by assumption) ?_
        rotate_left
        · intro w hSw; (try dsimp only at hSw); go_simp; first | done | (with_reducible rfl)
        simp only [Act.put, List.setIfInBounds_toArray, List.set_cons_zero, List.set_cons_succ]
        refine wpAnyH_done (by kernel_rfl) ?_ _
        go_wp2_with fail
        refine bodyPost_ret (results_cell_tmp 2 3 31 (by rfl) _ 31 _ _ _ (by rfl) (by rfl) hA9 Try.underlying31 rfl (by rw [HLl.out]; exact fr_info)) rfl ?_
        have hfin := RDPost.yes HYES.out HBN.out HQL.out ((hFit.kept hk9 (fun b hb e => by omega)).mono (fun b _ hb => by omega)) (hS.out hk9)
        rw [HFV.out] at hfin
        exact hfin
end Go.Proofs.Ytkahndjflhgccaa
