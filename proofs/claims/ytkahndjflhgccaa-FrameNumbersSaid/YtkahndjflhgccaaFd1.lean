/-
  The document's Decode (narthexref4), for some first bytes (0, 1, 30, 3, 7, 19, 21, 22).
-/
import Derived.Test.YtkahndjflhgccaaMj
import Derived.Test.YtkahndjflhgccaaSteps
namespace Go.Proofs.Ytkahndjflhgccaa
set_option linter.unusedVariables false
set_option linter.unusedSimpArgs false
open Go.RowKit
set_option maxRecDepth 100000 in
set_option maxHeartbeats 8000000 in
theorem rdec_G1 (A : Option Addr) (n c : Nat) (bs : List Int) (w : World) (hr : Rd w w.heap.size A n bs) (hnc : n ≤ c) (hcm : c ≤ maxLen) (hA : A = none → c = 0) (hl : n ≤ 100000000000000) (hk : varR (bs, false) = 0 ∨ varR (bs, false) = 1 ∨ varR (bs, false) = 30 ∨ varR (bs, false) = 3 ∨ varR (bs, false) = 7 ∨ varR (bs, false) = 19 ∨ varR (bs, false) = 21 ∨ varR (bs, false) = 22) :
    Calls Try.prog 37 #[.slice A n c] w (RDPost w bs) := by
  have hrA := rdr_start A n c bs w hr hnc hcm hA
  have hP' : ∀ b, b < w.heap.size → b ≠ w.heap.size + 1 := fun b hb => by omega
  have hA20 : At ((w.alloc (.cells (frL (FN.zero 0) .nil .nil).toArray 31)).alloc (.cells #[.slice A n c, .bool false] 93)) w.heap.size 31 (frL (FN.zero 0) .nil .nil) := (At.new w _ _).alloc _
  have hB20 : Below w.heap.size w ((w.alloc (.cells (frL (FN.zero 0) .nil .nil).toArray 31)).alloc (.cells #[.slice A n c, .bool false] 93)) := ((Below.refl _ _).alloc (Nat.le_refl _) _).alloc (by simp) _
  have hbn := hr.1
  have HBN := Lib.hid hbn
  rcases hk with hk | hk | hk | hk | hk | hk | hk | hk
  focus
    have hby := varN_byt (bs, false) hr.2.1
    have hvl := varN_le (bs, false)
    simp only at hvl
    rw [hbn] at hvl
    clear hbn hr hA hcm
    have hd : rdK 0 (varN (bs, false)) = some ((FN.zero 0 : FN), [], [], (varN (bs, false))) := rfl
    have HK := Lib.hid hk
    obtain ⟨s1, e_s1⟩ : ∃ x, varN (bs, false) = x := ⟨_, rfl⟩
    rw [e_s1] at hd hby hvl
    have HD1 := Lib.hid e_s1
    have E_s1 := Lib.hid e_s1
    clear e_s1
    have HD := Lib.hid hd
    clear hd hk
    have hb255 : bits BinOp.and IntKind.u64 0 255 = 0 := by decide
    go_enter Try.func37, Try.ntmps37
    go_wp2_with fail
    refine (rvar_any (w.heap.size + 1) 93 _ (bs, false) _ hrA hP').mono ?_
    rintro e w1 ⟨rfl, hr1, hk1⟩
    rw [HK.out]
    rw [E_s1.out] at hr1
    have hS := RdS.start (frL (FN.zero 0) .nil .nil) (hk1.below hB20 hB20.size (fun j hj => by omega)) (hA20.kept hk1 (by omega)) hr1
    clear hr1 hk1 hrA hA20 hB20
    have hg25 := hS.g25
    have hg5 := hS.g5w
    have hp5 := hS.p5
    have hlt5 : w1.heap.size < (w1.alloc (.cells (frL (FN.zero 0) .nil .nil).toArray 31)).heap.size := by simp
    have hS := hS.cast (L6 := frL (FN.zero 0 : FN) .nil .nil) (by rfl)
    have hwf : (FN.zero 0 : FN).wf := wf_set (wf_zero 0 (by omega) (by omega)) 0 0 0 0 0 0 0 false (by first | exact z62 | assumption) (by first | exact z62 | assumption) (by first | exact z62 | assumption) (by first | exact z62 | assumption) (by first | exact z62 | assumption) (by first | exact z62 | assumption) (by first | exact z62 | assumption)
    have hFit := hS.fits (P := fun b => w.heap.size + 1 ≤ b) hwf (InD.nil_ _ _) (InR.nil_ _ _)
    clear hwf
    obtain ⟨m, hm⟩ : ∃ m, (FN.zero 0 : FN) = m := ⟨_, rfl⟩
    rw [hm] at hS hFit
    have HD2 : Hid (rdK 0 (varN (bs, false)) = some (m, [], [], s1)) := Lib.hid (by rw [HD1.out, HD.out, hm])
    obtain ⟨LF, hLF⟩ : ∃ L, frL m .nil .nil = L := ⟨_, rfl⟩
    have HLl : Hid (LF.length = 19) := Lib.hid (by rw [← hLF]; rfl)
    have HO : Hid (LF.all (·.oneCell') = true) := Lib.hid (by rw [← hLF]; rfl)
    have HFV : Hid (frV m .nil .nil = .agg LF.toArray) := Lib.hid (by rw [← hLF]; rfl)
    rw [hLF] at hS hFit
    have HV : Hid (Value.agg (frL (FN.zero 0) .nil .nil).toArray = Value.agg LF.toArray) := Lib.hid (by rw [← hLF, ← hm])
    clear hm hLF
    obtain ⟨dsF, hdsF⟩ : ∃ z : List Int, [] = z := ⟨_, rfl⟩
    rw [hdsF] at hFit HD2
    obtain ⟨rsF, hrsF⟩ : ∃ z : RS, [] = z := ⟨_, rfl⟩
    rw [hrsF] at hFit HD2
    clear hdsF hrsF
    obtain ⟨bsF, badF⟩ := s1
    have hbad := hS.rd.bad_cell
    simp only at hbad
  rotate_left
  focus
    have hby := varN_byt (bs, false) hr.2.1
    have hvl := varN_le (bs, false)
    simp only at hvl
    rw [hbn] at hvl
    clear hbn hr hA hcm
    have hd : rdK 1 (varN (bs, false)) = some ((FN.zero 1 : FN), [], [], (varN (bs, false))) := rfl
    have HK := Lib.hid hk
    obtain ⟨s1, e_s1⟩ : ∃ x, varN (bs, false) = x := ⟨_, rfl⟩
    rw [e_s1] at hd hby hvl
    have HD1 := Lib.hid e_s1
    have E_s1 := Lib.hid e_s1
    clear e_s1
    have HD := Lib.hid hd
    clear hd hk
    have hb255 : bits BinOp.and IntKind.u64 1 255 = 1 := by decide
    go_enter Try.func37, Try.ntmps37
    go_wp2_with fail
    refine (rvar_any (w.heap.size + 1) 93 _ (bs, false) _ hrA hP').mono ?_
    rintro e w1 ⟨rfl, hr1, hk1⟩
    rw [HK.out]
    rw [E_s1.out] at hr1
    have hS := RdS.start (frL (FN.zero 1) .nil .nil) (hk1.below hB20 hB20.size (fun j hj => by omega)) (hA20.kept hk1 (by omega)) hr1
    clear hr1 hk1 hrA hA20 hB20
    have hg25 := hS.g25
    have hg5 := hS.g5w
    have hp5 := hS.p5
    have hlt5 : w1.heap.size < (w1.alloc (.cells (frL (FN.zero 1) .nil .nil).toArray 31)).heap.size := by simp
    have hS := hS.cast (L6 := frL (FN.zero 1 : FN) .nil .nil) (by rfl)
    have hwf : (FN.zero 1 : FN).wf := wf_set (wf_zero 1 (by omega) (by omega)) 0 0 0 0 0 0 0 false (by first | exact z62 | assumption) (by first | exact z62 | assumption) (by first | exact z62 | assumption) (by first | exact z62 | assumption) (by first | exact z62 | assumption) (by first | exact z62 | assumption) (by first | exact z62 | assumption)
    have hFit := hS.fits (P := fun b => w.heap.size + 1 ≤ b) hwf (InD.nil_ _ _) (InR.nil_ _ _)
    clear hwf
    obtain ⟨m, hm⟩ : ∃ m, (FN.zero 1 : FN) = m := ⟨_, rfl⟩
    rw [hm] at hS hFit
    have HD2 : Hid (rdK 1 (varN (bs, false)) = some (m, [], [], s1)) := Lib.hid (by rw [HD1.out, HD.out, hm])
    obtain ⟨LF, hLF⟩ : ∃ L, frL m .nil .nil = L := ⟨_, rfl⟩
    have HLl : Hid (LF.length = 19) := Lib.hid (by rw [← hLF]; rfl)
    have HO : Hid (LF.all (·.oneCell') = true) := Lib.hid (by rw [← hLF]; rfl)
    have HFV : Hid (frV m .nil .nil = .agg LF.toArray) := Lib.hid (by rw [← hLF]; rfl)
    rw [hLF] at hS hFit
    have HV : Hid (Value.agg (frL (FN.zero 1) .nil .nil).toArray = Value.agg LF.toArray) := Lib.hid (by rw [← hLF, ← hm])
    clear hm hLF
    obtain ⟨dsF, hdsF⟩ : ∃ z : List Int, [] = z := ⟨_, rfl⟩
    rw [hdsF] at hFit HD2
    obtain ⟨rsF, hrsF⟩ : ∃ z : RS, [] = z := ⟨_, rfl⟩
    rw [hrsF] at hFit HD2
    clear hdsF hrsF
    obtain ⟨bsF, badF⟩ := s1
    have hbad := hS.rd.bad_cell
    simp only at hbad
  rotate_left
  focus
    have hby := varN_byt (bs, false) hr.2.1
    have hvl := varN_le (bs, false)
    simp only at hvl
    rw [hbn] at hvl
    clear hbn hr hA hcm
    have hd : rdK 30 (varN (bs, false)) = some ((FN.zero 30 : FN), [], [], (varN (bs, false))) := rfl
    have HK := Lib.hid hk
    obtain ⟨s1, e_s1⟩ : ∃ x, varN (bs, false) = x := ⟨_, rfl⟩
    rw [e_s1] at hd hby hvl
    have HD1 := Lib.hid e_s1
    have E_s1 := Lib.hid e_s1
    clear e_s1
    have HD := Lib.hid hd
    clear hd hk
    have hb255 : bits BinOp.and IntKind.u64 30 255 = 30 := by decide
    go_enter Try.func37, Try.ntmps37
    go_wp2_with fail
    refine (rvar_any (w.heap.size + 1) 93 _ (bs, false) _ hrA hP').mono ?_
    rintro e w1 ⟨rfl, hr1, hk1⟩
    rw [HK.out]
    rw [E_s1.out] at hr1
    have hS := RdS.start (frL (FN.zero 30) .nil .nil) (hk1.below hB20 hB20.size (fun j hj => by omega)) (hA20.kept hk1 (by omega)) hr1
    clear hr1 hk1 hrA hA20 hB20
    have hg25 := hS.g25
    have hg5 := hS.g5w
    have hp5 := hS.p5
    have hlt5 : w1.heap.size < (w1.alloc (.cells (frL (FN.zero 30) .nil .nil).toArray 31)).heap.size := by simp
    have hS := hS.cast (L6 := frL (FN.zero 30 : FN) .nil .nil) (by rfl)
    have hwf : (FN.zero 30 : FN).wf := wf_set (wf_zero 30 (by omega) (by omega)) 0 0 0 0 0 0 0 false (by first | exact z62 | assumption) (by first | exact z62 | assumption) (by first | exact z62 | assumption) (by first | exact z62 | assumption) (by first | exact z62 | assumption) (by first | exact z62 | assumption) (by first | exact z62 | assumption)
    have hFit := hS.fits (P := fun b => w.heap.size + 1 ≤ b) hwf (InD.nil_ _ _) (InR.nil_ _ _)
    clear hwf
    obtain ⟨m, hm⟩ : ∃ m, (FN.zero 30 : FN) = m := ⟨_, rfl⟩
    rw [hm] at hS hFit
    have HD2 : Hid (rdK 30 (varN (bs, false)) = some (m, [], [], s1)) := Lib.hid (by rw [HD1.out, HD.out, hm])
    obtain ⟨LF, hLF⟩ : ∃ L, frL m .nil .nil = L := ⟨_, rfl⟩
    have HLl : Hid (LF.length = 19) := Lib.hid (by rw [← hLF]; rfl)
    have HO : Hid (LF.all (·.oneCell') = true) := Lib.hid (by rw [← hLF]; rfl)
    have HFV : Hid (frV m .nil .nil = .agg LF.toArray) := Lib.hid (by rw [← hLF]; rfl)
    rw [hLF] at hS hFit
    have HV : Hid (Value.agg (frL (FN.zero 30) .nil .nil).toArray = Value.agg LF.toArray) := Lib.hid (by rw [← hLF, ← hm])
    clear hm hLF
    obtain ⟨dsF, hdsF⟩ : ∃ z : List Int, [] = z := ⟨_, rfl⟩
    rw [hdsF] at hFit HD2
    obtain ⟨rsF, hrsF⟩ : ∃ z : RS, [] = z := ⟨_, rfl⟩
    rw [hrsF] at hFit HD2
    clear hdsF hrsF
    obtain ⟨bsF, badF⟩ := s1
    have hbad := hS.rd.bad_cell
    simp only at hbad
  rotate_left
  focus
    have hby := varN_byt (bs, false) hr.2.1
    have hvl := varN_le (bs, false)
    simp only at hvl
    rw [hbn] at hvl
    clear hbn hr hA hcm
    have hd : rdK 3 (varN (bs, false)) = some ((FN.zero 3 : FN), [], [], (varN (bs, false))) := rfl
    have HK := Lib.hid hk
    obtain ⟨s1, e_s1⟩ : ∃ x, varN (bs, false) = x := ⟨_, rfl⟩
    rw [e_s1] at hd hby hvl
    have HD1 := Lib.hid e_s1
    have E_s1 := Lib.hid e_s1
    clear e_s1
    have HD := Lib.hid hd
    clear hd hk
    have hb255 : bits BinOp.and IntKind.u64 3 255 = 3 := by decide
    go_enter Try.func37, Try.ntmps37
    go_wp2_with fail
    refine (rvar_any (w.heap.size + 1) 93 _ (bs, false) _ hrA hP').mono ?_
    rintro e w1 ⟨rfl, hr1, hk1⟩
    rw [HK.out]
    rw [E_s1.out] at hr1
    have hS := RdS.start (frL (FN.zero 3) .nil .nil) (hk1.below hB20 hB20.size (fun j hj => by omega)) (hA20.kept hk1 (by omega)) hr1
    clear hr1 hk1 hrA hA20 hB20
    have hg25 := hS.g25
    have hg5 := hS.g5w
    have hp5 := hS.p5
    have hlt5 : w1.heap.size < (w1.alloc (.cells (frL (FN.zero 3) .nil .nil).toArray 31)).heap.size := by simp
    have hS := hS.cast (L6 := frL (FN.zero 3 : FN) .nil .nil) (by rfl)
    have hwf : (FN.zero 3 : FN).wf := wf_set (wf_zero 3 (by omega) (by omega)) 0 0 0 0 0 0 0 false (by first | exact z62 | assumption) (by first | exact z62 | assumption) (by first | exact z62 | assumption) (by first | exact z62 | assumption) (by first | exact z62 | assumption) (by first | exact z62 | assumption) (by first | exact z62 | assumption)
    have hFit := hS.fits (P := fun b => w.heap.size + 1 ≤ b) hwf (InD.nil_ _ _) (InR.nil_ _ _)
    clear hwf
    obtain ⟨m, hm⟩ : ∃ m, (FN.zero 3 : FN) = m := ⟨_, rfl⟩
    rw [hm] at hS hFit
    have HD2 : Hid (rdK 3 (varN (bs, false)) = some (m, [], [], s1)) := Lib.hid (by rw [HD1.out, HD.out, hm])
    obtain ⟨LF, hLF⟩ : ∃ L, frL m .nil .nil = L := ⟨_, rfl⟩
    have HLl : Hid (LF.length = 19) := Lib.hid (by rw [← hLF]; rfl)
    have HO : Hid (LF.all (·.oneCell') = true) := Lib.hid (by rw [← hLF]; rfl)
    have HFV : Hid (frV m .nil .nil = .agg LF.toArray) := Lib.hid (by rw [← hLF]; rfl)
    rw [hLF] at hS hFit
    have HV : Hid (Value.agg (frL (FN.zero 3) .nil .nil).toArray = Value.agg LF.toArray) := Lib.hid (by rw [← hLF, ← hm])
    clear hm hLF
    obtain ⟨dsF, hdsF⟩ : ∃ z : List Int, [] = z := ⟨_, rfl⟩
    rw [hdsF] at hFit HD2
    obtain ⟨rsF, hrsF⟩ : ∃ z : RS, [] = z := ⟨_, rfl⟩
    rw [hrsF] at hFit HD2
    clear hdsF hrsF
    obtain ⟨bsF, badF⟩ := s1
    have hbad := hS.rd.bad_cell
    simp only at hbad
  rotate_left
  focus
    have hby := varN_byt (bs, false) hr.2.1
    have hvl := varN_le (bs, false)
    simp only at hvl
    rw [hbn] at hvl
    clear hbn hr hA hcm
    have hd : rdK 7 (varN (bs, false)) = some ((FN.zero 7 : FN), [], [], (varN (bs, false))) := rfl
    have HK := Lib.hid hk
    obtain ⟨s1, e_s1⟩ : ∃ x, varN (bs, false) = x := ⟨_, rfl⟩
    rw [e_s1] at hd hby hvl
    have HD1 := Lib.hid e_s1
    have E_s1 := Lib.hid e_s1
    clear e_s1
    have HD := Lib.hid hd
    clear hd hk
    have hb255 : bits BinOp.and IntKind.u64 7 255 = 7 := by decide
    go_enter Try.func37, Try.ntmps37
    go_wp2_with fail
    refine (rvar_any (w.heap.size + 1) 93 _ (bs, false) _ hrA hP').mono ?_
    rintro e w1 ⟨rfl, hr1, hk1⟩
    rw [HK.out]
    rw [E_s1.out] at hr1
    have hS := RdS.start (frL (FN.zero 7) .nil .nil) (hk1.below hB20 hB20.size (fun j hj => by omega)) (hA20.kept hk1 (by omega)) hr1
    clear hr1 hk1 hrA hA20 hB20
    have hg25 := hS.g25
    have hg5 := hS.g5w
    have hp5 := hS.p5
    have hlt5 : w1.heap.size < (w1.alloc (.cells (frL (FN.zero 7) .nil .nil).toArray 31)).heap.size := by simp
    have hS := hS.cast (L6 := frL (FN.zero 7 : FN) .nil .nil) (by rfl)
    have hwf : (FN.zero 7 : FN).wf := wf_set (wf_zero 7 (by omega) (by omega)) 0 0 0 0 0 0 0 false (by first | exact z62 | assumption) (by first | exact z62 | assumption) (by first | exact z62 | assumption) (by first | exact z62 | assumption) (by first | exact z62 | assumption) (by first | exact z62 | assumption) (by first | exact z62 | assumption)
    have hFit := hS.fits (P := fun b => w.heap.size + 1 ≤ b) hwf (InD.nil_ _ _) (InR.nil_ _ _)
    clear hwf
    obtain ⟨m, hm⟩ : ∃ m, (FN.zero 7 : FN) = m := ⟨_, rfl⟩
    rw [hm] at hS hFit
    have HD2 : Hid (rdK 7 (varN (bs, false)) = some (m, [], [], s1)) := Lib.hid (by rw [HD1.out, HD.out, hm])
    obtain ⟨LF, hLF⟩ : ∃ L, frL m .nil .nil = L := ⟨_, rfl⟩
    have HLl : Hid (LF.length = 19) := Lib.hid (by rw [← hLF]; rfl)
    have HO : Hid (LF.all (·.oneCell') = true) := Lib.hid (by rw [← hLF]; rfl)
    have HFV : Hid (frV m .nil .nil = .agg LF.toArray) := Lib.hid (by rw [← hLF]; rfl)
    rw [hLF] at hS hFit
    have HV : Hid (Value.agg (frL (FN.zero 7) .nil .nil).toArray = Value.agg LF.toArray) := Lib.hid (by rw [← hLF, ← hm])
    clear hm hLF
    obtain ⟨dsF, hdsF⟩ : ∃ z : List Int, [] = z := ⟨_, rfl⟩
    rw [hdsF] at hFit HD2
    obtain ⟨rsF, hrsF⟩ : ∃ z : RS, [] = z := ⟨_, rfl⟩
    rw [hrsF] at hFit HD2
    clear hdsF hrsF
    obtain ⟨bsF, badF⟩ := s1
    have hbad := hS.rd.bad_cell
    simp only at hbad
  rotate_left
  focus
    have hby := varN_byt (bs, false) hr.2.1
    have hvl := varN_le (bs, false)
    simp only at hvl
    rw [hbn] at hvl
    clear hbn hr hA hcm
    have hd : rdK 19 (varN (bs, false)) = some ((FN.zero 19 : FN), [], [], (varN (bs, false))) := rfl
    have HK := Lib.hid hk
    obtain ⟨s1, e_s1⟩ : ∃ x, varN (bs, false) = x := ⟨_, rfl⟩
    rw [e_s1] at hd hby hvl
    have HD1 := Lib.hid e_s1
    have E_s1 := Lib.hid e_s1
    clear e_s1
    have HD := Lib.hid hd
    clear hd hk
    have hb255 : bits BinOp.and IntKind.u64 19 255 = 19 := by decide
    go_enter Try.func37, Try.ntmps37
    go_wp2_with fail
    refine (rvar_any (w.heap.size + 1) 93 _ (bs, false) _ hrA hP').mono ?_
    rintro e w1 ⟨rfl, hr1, hk1⟩
    rw [HK.out]
    rw [E_s1.out] at hr1
    have hS := RdS.start (frL (FN.zero 19) .nil .nil) (hk1.below hB20 hB20.size (fun j hj => by omega)) (hA20.kept hk1 (by omega)) hr1
    clear hr1 hk1 hrA hA20 hB20
    have hg25 := hS.g25
    have hg5 := hS.g5w
    have hp5 := hS.p5
    have hlt5 : w1.heap.size < (w1.alloc (.cells (frL (FN.zero 19) .nil .nil).toArray 31)).heap.size := by simp
    have hS := hS.cast (L6 := frL (FN.zero 19 : FN) .nil .nil) (by rfl)
    have hwf : (FN.zero 19 : FN).wf := wf_set (wf_zero 19 (by omega) (by omega)) 0 0 0 0 0 0 0 false (by first | exact z62 | assumption) (by first | exact z62 | assumption) (by first | exact z62 | assumption) (by first | exact z62 | assumption) (by first | exact z62 | assumption) (by first | exact z62 | assumption) (by first | exact z62 | assumption)
    have hFit := hS.fits (P := fun b => w.heap.size + 1 ≤ b) hwf (InD.nil_ _ _) (InR.nil_ _ _)
    clear hwf
    obtain ⟨m, hm⟩ : ∃ m, (FN.zero 19 : FN) = m := ⟨_, rfl⟩
    rw [hm] at hS hFit
    have HD2 : Hid (rdK 19 (varN (bs, false)) = some (m, [], [], s1)) := Lib.hid (by rw [HD1.out, HD.out, hm])
    obtain ⟨LF, hLF⟩ : ∃ L, frL m .nil .nil = L := ⟨_, rfl⟩
    have HLl : Hid (LF.length = 19) := Lib.hid (by rw [← hLF]; rfl)
    have HO : Hid (LF.all (·.oneCell') = true) := Lib.hid (by rw [← hLF]; rfl)
    have HFV : Hid (frV m .nil .nil = .agg LF.toArray) := Lib.hid (by rw [← hLF]; rfl)
    rw [hLF] at hS hFit
    have HV : Hid (Value.agg (frL (FN.zero 19) .nil .nil).toArray = Value.agg LF.toArray) := Lib.hid (by rw [← hLF, ← hm])
    clear hm hLF
    obtain ⟨dsF, hdsF⟩ : ∃ z : List Int, [] = z := ⟨_, rfl⟩
    rw [hdsF] at hFit HD2
    obtain ⟨rsF, hrsF⟩ : ∃ z : RS, [] = z := ⟨_, rfl⟩
    rw [hrsF] at hFit HD2
    clear hdsF hrsF
    obtain ⟨bsF, badF⟩ := s1
    have hbad := hS.rd.bad_cell
    simp only at hbad
  rotate_left
  focus
    have hby := varN_byt (bs, false) hr.2.1
    have hvl := varN_le (bs, false)
    simp only at hvl
    rw [hbn] at hvl
    clear hbn hr hA hcm
    have hd : rdK 21 (varN (bs, false)) = some ((FN.zero 21 : FN), [], [], (varN (bs, false))) := rfl
    have HK := Lib.hid hk
    obtain ⟨s1, e_s1⟩ : ∃ x, varN (bs, false) = x := ⟨_, rfl⟩
    rw [e_s1] at hd hby hvl
    have HD1 := Lib.hid e_s1
    have E_s1 := Lib.hid e_s1
    clear e_s1
    have HD := Lib.hid hd
    clear hd hk
    have hb255 : bits BinOp.and IntKind.u64 21 255 = 21 := by decide
    go_enter Try.func37, Try.ntmps37
    go_wp2_with fail
    refine (rvar_any (w.heap.size + 1) 93 _ (bs, false) _ hrA hP').mono ?_
    rintro e w1 ⟨rfl, hr1, hk1⟩
    rw [HK.out]
    rw [E_s1.out] at hr1
    have hS := RdS.start (frL (FN.zero 21) .nil .nil) (hk1.below hB20 hB20.size (fun j hj => by omega)) (hA20.kept hk1 (by omega)) hr1
    clear hr1 hk1 hrA hA20 hB20
    have hg25 := hS.g25
    have hg5 := hS.g5w
    have hp5 := hS.p5
    have hlt5 : w1.heap.size < (w1.alloc (.cells (frL (FN.zero 21) .nil .nil).toArray 31)).heap.size := by simp
    have hS := hS.cast (L6 := frL (FN.zero 21 : FN) .nil .nil) (by rfl)
    have hwf : (FN.zero 21 : FN).wf := wf_set (wf_zero 21 (by omega) (by omega)) 0 0 0 0 0 0 0 false (by first | exact z62 | assumption) (by first | exact z62 | assumption) (by first | exact z62 | assumption) (by first | exact z62 | assumption) (by first | exact z62 | assumption) (by first | exact z62 | assumption) (by first | exact z62 | assumption)
    have hFit := hS.fits (P := fun b => w.heap.size + 1 ≤ b) hwf (InD.nil_ _ _) (InR.nil_ _ _)
    clear hwf
    obtain ⟨m, hm⟩ : ∃ m, (FN.zero 21 : FN) = m := ⟨_, rfl⟩
    rw [hm] at hS hFit
    have HD2 : Hid (rdK 21 (varN (bs, false)) = some (m, [], [], s1)) := Lib.hid (by rw [HD1.out, HD.out, hm])
    obtain ⟨LF, hLF⟩ : ∃ L, frL m .nil .nil = L := ⟨_, rfl⟩
    have HLl : Hid (LF.length = 19) := Lib.hid (by rw [← hLF]; rfl)
    have HO : Hid (LF.all (·.oneCell') = true) := Lib.hid (by rw [← hLF]; rfl)
    have HFV : Hid (frV m .nil .nil = .agg LF.toArray) := Lib.hid (by rw [← hLF]; rfl)
    rw [hLF] at hS hFit
    have HV : Hid (Value.agg (frL (FN.zero 21) .nil .nil).toArray = Value.agg LF.toArray) := Lib.hid (by rw [← hLF, ← hm])
    clear hm hLF
    obtain ⟨dsF, hdsF⟩ : ∃ z : List Int, [] = z := ⟨_, rfl⟩
    rw [hdsF] at hFit HD2
    obtain ⟨rsF, hrsF⟩ : ∃ z : RS, [] = z := ⟨_, rfl⟩
    rw [hrsF] at hFit HD2
    clear hdsF hrsF
    obtain ⟨bsF, badF⟩ := s1
    have hbad := hS.rd.bad_cell
    simp only at hbad
  rotate_left
  focus
    have hby := varN_byt (bs, false) hr.2.1
    have hvl := varN_le (bs, false)
    simp only at hvl
    rw [hbn] at hvl
    clear hbn hr hA hcm
    have hd : rdK 22 (varN (bs, false)) = some ((FN.zero 22 : FN), [], [], (varN (bs, false))) := rfl
    have HK := Lib.hid hk
    obtain ⟨s1, e_s1⟩ : ∃ x, varN (bs, false) = x := ⟨_, rfl⟩
    rw [e_s1] at hd hby hvl
    have HD1 := Lib.hid e_s1
    have E_s1 := Lib.hid e_s1
    clear e_s1
    have HD := Lib.hid hd
    clear hd hk
    have hb255 : bits BinOp.and IntKind.u64 22 255 = 22 := by decide
    go_enter Try.func37, Try.ntmps37
    go_wp2_with fail
    refine (rvar_any (w.heap.size + 1) 93 _ (bs, false) _ hrA hP').mono ?_
    rintro e w1 ⟨rfl, hr1, hk1⟩
    rw [HK.out]
    rw [E_s1.out] at hr1
    have hS := RdS.start (frL (FN.zero 22) .nil .nil) (hk1.below hB20 hB20.size (fun j hj => by omega)) (hA20.kept hk1 (by omega)) hr1
    clear hr1 hk1 hrA hA20 hB20
    have hg25 := hS.g25
    have hg5 := hS.g5w
    have hp5 := hS.p5
    have hlt5 : w1.heap.size < (w1.alloc (.cells (frL (FN.zero 22) .nil .nil).toArray 31)).heap.size := by simp
    have hS := hS.cast (L6 := frL (FN.zero 22 : FN) .nil .nil) (by rfl)
    have hwf : (FN.zero 22 : FN).wf := wf_set (wf_zero 22 (by omega) (by omega)) 0 0 0 0 0 0 0 false (by first | exact z62 | assumption) (by first | exact z62 | assumption) (by first | exact z62 | assumption) (by first | exact z62 | assumption) (by first | exact z62 | assumption) (by first | exact z62 | assumption) (by first | exact z62 | assumption)
    have hFit := hS.fits (P := fun b => w.heap.size + 1 ≤ b) hwf (InD.nil_ _ _) (InR.nil_ _ _)
    clear hwf
    obtain ⟨m, hm⟩ : ∃ m, (FN.zero 22 : FN) = m := ⟨_, rfl⟩
    rw [hm] at hS hFit
    have HD2 : Hid (rdK 22 (varN (bs, false)) = some (m, [], [], s1)) := Lib.hid (by rw [HD1.out, HD.out, hm])
    obtain ⟨LF, hLF⟩ : ∃ L, frL m .nil .nil = L := ⟨_, rfl⟩
    have HLl : Hid (LF.length = 19) := Lib.hid (by rw [← hLF]; rfl)
    have HO : Hid (LF.all (·.oneCell') = true) := Lib.hid (by rw [← hLF]; rfl)
    have HFV : Hid (frV m .nil .nil = .agg LF.toArray) := Lib.hid (by rw [← hLF]; rfl)
    rw [hLF] at hS hFit
    have HV : Hid (Value.agg (frL (FN.zero 22) .nil .nil).toArray = Value.agg LF.toArray) := Lib.hid (by rw [← hLF, ← hm])
    clear hm hLF
    obtain ⟨dsF, hdsF⟩ : ∃ z : List Int, [] = z := ⟨_, rfl⟩
    rw [hdsF] at hFit HD2
    obtain ⟨rsF, hrsF⟩ : ∃ z : RS, [] = z := ⟨_, rfl⟩
    rw [hrsF] at hFit HD2
    clear hdsF hrsF
    obtain ⟨bsF, badF⟩ := s1
    have hbad := hS.rd.bad_cell
    simp only at hbad
  rotate_left
  all_goals
    cases badF with
    | true =>
      have HNO : Hid (readO (bs, false) = none) := Lib.hid (by rw [readO_of HK.out (by omega) HD2.out]; simp)
      go_wp2_with (first | ((with_reducible refine at_st (x := .tmp 6) ?_); refine st_top _ _ LF (by rfl) _ (by rfl) (by simp) HV.out (by rfl) HLl.out HO.out ?_) | ((with_reducible refine at_st (x := .tmp 2) ?_); refine st_at _ _ (frL (FN.zero 0) .nil .nil) (by rfl) (by rfl) hS.a2 (by rfl) (by rfl) (by rfl) ?_; intro w9 hA9 hk9) | fail)
      refine bodyPost_ret (results_cell_tmp 2 3 31 (by rfl) _ 31 _ _ _ (by rfl) (by rfl) hA9 Try.underlying31 rfl fr_info) rfl ?_
      exact RDPost.no HNO.out (hS.out hk9)
    | false =>
      have hplt := hS.plt
      obtain ⟨qA, qn, qc, hqrow, hql, hqc, hqm⟩ := hS.rd.row_cell
      simp only at hql
      have HQL := Lib.hid hql
      have hrt := rright_any _ m _ _ _ _ _ hFit
      rw [HFV.out] at hrt
      have HRT := Lib.hid hrt
      clear hrt
      have a5 := hS.a5
      go_wp2_with (first | ((with_reducible refine at_st (x := .tmp 6) ?_); refine st_top _ _ LF (by rfl) _ (by rfl) (by simp) HV.out (by rfl) HLl.out HO.out ?_) | ((with_reducible refine at_ld (x := .tmp 6) ?_); refine ld_fr_g _ _ (by rfl) (by rfl) a5 HLl.out ?_) | fail)
      refine HRT.out.mono ?_
      rintro e w8 ⟨rfl, hb8⟩
      clear HRT a5
      have hS := hS.below hb8
      have hFit := hFit.below hb8
      have hqrow : w8.cell? ⟨w.heap.size + 1, 0, none⟩ = some (.slice qA qn qc) := (hb8.cell (p := ⟨w.heap.size + 1, 0, none⟩) hplt).trans hqrow
      clear hb8 hql
      obtain ⟨rb, hrb⟩ : ∃ x, rightB m dsF rsF = x := ⟨_, rfl⟩
      rw [hrb]
      have HRO : Hid (readO (bs, false) = if (false : Bool) = false ∧ rb = true then some (m, dsF, rsF, (bsF, false)) else none) := Lib.hid (by rw [readO_of HK.out (by omega) HD2.out, hrb])
      clear hrb
      cases rb with
      | false =>
        have HNO : Hid (readO (bs, false) = none) := Lib.hid (by rw [HRO.out]; simp)
        go_wp2_with (first | ((with_reducible refine at_st (x := .tmp 2) ?_); refine st_at _ _ (frL (FN.zero 0) .nil .nil) (by rfl) (by rfl) hS.a2 (by rfl) (by rfl) (by rfl) ?_; intro w9 hA9 hk9) | fail)
        refine bodyPost_ret (results_cell_tmp 2 3 31 (by rfl) _ 31 _ _ _ (by rfl) (by rfl) hA9 Try.underlying31 rfl fr_info) rfl ?_
        exact RDPost.no HNO.out (hS.out hk9)
      | true =>
        have HYES : Hid (readO (bs, false) = some (m, dsF, rsF, (bsF, false))) := Lib.hid (by rw [HRO.out]; simp)
        have hqm' := hqm
        unfold maxLen at hqm'
        have hww : IntKind.i64.wrap ((n : Int) - (qn : Int)) = (n : Int) - (qn : Int) := IntWalk.i64_in _ (by omega)
        go_wp2_with fail
        have hS := hS.drew
        have hFit := hFit.below (below_drew (Below.refl _ _))
        have hqrow : w8.drew.cell? ⟨w.heap.size + 1, 0, none⟩ = some (.slice qA qn qc) := hqrow
        refine wp_region_held_drew (S := (fun W => At W w1.heap.size 31 LF ∧ W.cell? ⟨w.heap.size + 1, 0, none⟩ = some (.slice qA qn qc))) (by kernel_rfl) (⟨hS.a5, hqrow⟩) (fun hHeld => ?_)
        refine take_dst (i := 0) (dst := some 172) rfl rfl (by kernel_rfl) (by kernel_rfl) (by kernel_rfl) (fun _ _ _ h => h) (v := ?_) ?_ (by assumption) ?_
        rotate_left
        · refine yl_any 31 (.tmp 6) ?_ w1.heap.size 0 ?_ LF _ ?_ Try.underlying31 rfl ?_ ?_
          · rfl
          · rfl
          · intro w hSw; exact hSw.1.rangeAt
          · rw [HLl.out]; exact fr_info
          · rfl
        simp only [Act.put, List.setIfInBounds_toArray, List.set_cons_zero, List.set_cons_succ]
        refine tkp 1 (some 173) (v := ?_) rfl (Or.inl ⟨by rfl, ?_⟩) (by assumption) ?_
        rotate_left
        · intro w hSw; (try dsimp only at hSw); (have z0 := hSw.2); go_simp; first | done | (with_reducible rfl)
        simp only [Act.put, List.setIfInBounds_toArray, List.set_cons_zero, List.set_cons_succ]
        refine tkp 2 (some 174) (v := ?_) rfl (Or.inl ⟨by rfl, ?_⟩) (by assumption) ?_
        rotate_left
        · intro w hSw; (try dsimp only at hSw); (have z0 := hSw.2); go_simp; first | done | (with_reducible rfl)
        simp only [Act.put, List.setIfInBounds_toArray, List.set_cons_zero, List.set_cons_succ]
        refine tkp 3 (some 175) (v := ?_) rfl (Or.inl ⟨by rfl, ?_⟩) (by assumption) ?_
        rotate_left
        · intro w hSw; (try dsimp only at hSw); (have z0 := hSw.2); go_simp; first | done | (with_reducible rfl)
        simp only [Act.put, List.setIfInBounds_toArray, List.set_cons_zero, List.set_cons_succ]
        refine tkp 4 (some 176) (v := ?_) rfl (Or.inl ⟨by rfl, ?_⟩) (by assumption) ?_
        rotate_left
        · intro w hSw; (try dsimp only at hSw); (have z0 := hSw.2); go_simp; first | done | (with_reducible rfl)
        simp only [Act.put, List.setIfInBounds_toArray, List.set_cons_zero, List.set_cons_succ]
        refine tkp 5 (some 177) (v := ?_) rfl (Or.inl ⟨by rfl, ?_⟩) (by assumption) ?_
        rotate_left
        · intro w hSw; (try dsimp only at hSw); (have z0 := hSw.2); go_simp; first | done | (with_reducible rfl)
        simp only [Act.put, List.setIfInBounds_toArray, List.set_cons_zero, List.set_cons_succ]
        refine tkp 6 (some 178) (v := ?_) rfl (Or.inl ⟨by rfl, ?_⟩) (by assumption) ?_
        rotate_left
        · intro w hSw; (try dsimp only at hSw); (have z0 := hSw.2); go_simp; first | done | (with_reducible rfl)
        simp only [Act.put, List.setIfInBounds_toArray, List.set_cons_zero, List.set_cons_succ]
        refine tkp 7 (some 179) (v := ?_) rfl (Or.inl ⟨by rfl, ?_⟩) (by assumption) ?_
        rotate_left
        · intro w hSw; (try dsimp only at hSw); (have z0 := hSw.2); go_simp; first | done | (with_reducible rfl)
        simp only [Act.put, List.setIfInBounds_toArray, List.set_cons_zero, List.set_cons_succ]
        refine tkp 8 (some 180) (v := ?_) rfl (Or.inl ⟨by rfl, ?_⟩) (by assumption) ?_
        rotate_left
        · intro w hSw; (try dsimp only at hSw); (have z0 := hSw.2); go_simp; first | done | (with_reducible rfl)
        simp only [Act.put, List.setIfInBounds_toArray, List.set_cons_zero, List.set_cons_succ]
        obtain ⟨Y, hY⟩ : ∃ x, w8.drew = x := ⟨_, rfl⟩
        rw [hY] at hS hFit hqrow ⊢
        clear hY
        refine wpAnyH_ready (rs := [9]) (by kernel_rfl) (by simp) ?_
        refine AllReadyH.cons rfl (fun K hK => ?_) AllReadyH.nil
        refine step_st_any (by rfl) w.heap.size 31 (frL (FN.zero 0) .nil .nil) LF (by rfl) (by rfl) hS.a2 HLl.out.symm (by rw [HLl.out]; exact fr_info) HO.out ?_
        intro w9 hA9 hk9
        have h59 := hS.a5.kept hk9 (fun e => hg25 e.symm)
        have hq9 := (hk9.cell (p := ⟨w.heap.size + 1, 0, none⟩) (by obtain ⟨_, _, _, h, _⟩ := hS.rd; exact h.lt) (fun e => hS.p2 e)).trans hqrow
        refine hK.out _ _ ⟨h59, hq9⟩ (fun hHeld => ?_)
        clear hK K
        refine tkp 10 (some 3) (v := ?_) rfl (Or.inl ⟨by rfl, ?_⟩) (by assumption) ?_
        rotate_left
        · intro w hSw; (try dsimp only at hSw); go_simp; first | done | (with_reducible rfl)
        simp only [Act.put, List.setIfInBounds_toArray, List.set_cons_zero, List.set_cons_succ]
        refine wpAnyH_done (by kernel_rfl) ?_ _
        go_wp2_with fail
        refine bodyPost_ret (results_cell_tmp 2 3 31 (by rfl) _ 31 _ _ _ (by rfl) (by rfl) hA9 Try.underlying31 rfl (by rw [HLl.out]; exact fr_info)) rfl ?_
        have hfin := RDPost.yes HYES.out HBN.out HQL.out ((hFit.kept hk9 (fun b hb e => by omega)).mono (fun b _ hb => by omega)) (hS.out hk9)
        rw [HFV.out] at hfin
        exact hfin
end Go.Proofs.Ytkahndjflhgccaa
