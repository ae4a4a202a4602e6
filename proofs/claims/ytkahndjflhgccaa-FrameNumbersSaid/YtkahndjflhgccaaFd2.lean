/-
  The document's Decode (narthexref4), for some first bytes (23, 29, 2, 4, 5, 16, 18, 20).
-/
import Derived.Test.YtkahndjflhgccaaMj
import Derived.Test.YtkahndjflhgccaaSteps
namespace Go.Proofs.Ytkahndjflhgccaa
set_option linter.unusedVariables false
set_option linter.unusedSimpArgs false
open Go.RowKit
set_option maxRecDepth 100000 in
set_option maxHeartbeats 8000000 in
theorem rdec_G2 (A : Option Addr) (n c : Nat) (bs : List Int) (w : World) (hr : Rd w w.heap.size A n bs) (hnc : n ≤ c) (hcm : c ≤ maxLen) (hA : A = none → c = 0) (hl : n ≤ 100000000000000) (hk : varR (bs, false) = 23 ∨ varR (bs, false) = 29 ∨ varR (bs, false) = 2 ∨ varR (bs, false) = 4 ∨ varR (bs, false) = 5 ∨ varR (bs, false) = 16 ∨ varR (bs, false) = 18 ∨ varR (bs, false) = 20) :
    Calls Try.prog 37 #[.slice A n c] w (RDPost w bs) := by
  have hrA := rdr_start A n c bs w hr hnc hcm hA
  have hP' : ∀ b, b < w.heap.size → b ≠ w.heap.size + 1 := fun b hb => by omega
  have hA20 : At ((w.alloc (.cells (frL (FN.zero 0) .nil .nil).toArray 31)).alloc (.cells #[.slice A n c, .bool false] 93)) w.heap.size 31 (frL (FN.zero 0) .nil .nil) := (At.new w _ _).alloc _
  have hB20 : Below w.heap.size w ((w.alloc (.cells (frL (FN.zero 0) .nil .nil).toArray 31)).alloc (.cells #[.slice A n c, .bool false] 93)) := ((Below.refl _ _).alloc (Nat.le_refl _) _).alloc (by simp) _
  have hbn := hr.1
  have HBN := Lib.hid hbn
  rcases hk with hk | hk | hk | hk | hk | hk | hk | hk
  focus
    have hby := varN_byt (bs, false) hr.2.1
    have hvl := varN_le (bs, false)
    simp only at hvl
    rw [hbn] at hvl
    clear hbn hr hA hcm
    have hd : rdK 23 (varN (bs, false)) = some ((FN.zero 23 : FN), [], [], (varN (bs, false))) := rfl
    have HK := Lib.hid hk
    obtain ⟨s1, e_s1⟩ : ∃ x, varN (bs, false) = x := ⟨_, rfl⟩
    rw [e_s1] at hd hby hvl
    have HD1 := Lib.hid e_s1
    have E_s1 := Lib.hid e_s1
    clear e_s1
    have HD := Lib.hid hd
    clear hd hk
    have hb255 : bits BinOp.and IntKind.u64 23 255 = 23 := by decide
    go_enter Try.func37, Try.ntmps37
    go_wp2_with fail
    refine (rvar_any (w.heap.size + 1) 93 _ (bs, false) _ hrA hP').mono ?_
    rintro e w1 ⟨rfl, hr1, hk1⟩
    rw [HK.out]
    rw [E_s1.out] at hr1
    have hS := RdS.start (frL (FN.zero 23) .nil .nil) (hk1.below hB20 hB20.size (fun j hj => by omega)) (hA20.kept hk1 (by omega)) hr1
    clear hr1 hk1 hrA hA20 hB20
    have hg25 := hS.g25
    have hg5 := hS.g5w
    have hp5 := hS.p5
    have hlt5 : w1.heap.size < (w1.alloc (.cells (frL (FN.zero 23) .nil .nil).toArray 31)).heap.size := by simp
    have hS := hS.cast (L6 := frL (FN.zero 23 : FN) .nil .nil) (by rfl)
    have hwf : (FN.zero 23 : FN).wf := wf_set (wf_zero 23 (by omega) (by omega)) 0 0 0 0 0 0 0 false (by first | exact z62 | assumption) (by first | exact z62 | assumption) (by first | exact z62 | assumption) (by first | exact z62 | assumption) (by first | exact z62 | assumption) (by first | exact z62 | assumption) (by first | exact z62 | assumption)
    have hFit := hS.fits (P := fun b => w.heap.size + 1 ≤ b) hwf (InD.nil_ _ _) (InR.nil_ _ _)
    clear hwf
    obtain ⟨m, hm⟩ : ∃ m, (FN.zero 23 : FN) = m := ⟨_, rfl⟩
    rw [hm] at hS hFit
    have HD2 : Hid (rdK 23 (varN (bs, false)) = some (m, [], [], s1)) := Lib.hid (by rw [HD1.out, HD.out, hm])
    obtain ⟨LF, hLF⟩ : ∃ L, frL m .nil .nil = L := ⟨_, rfl⟩
    have HLl : Hid (LF.length = 19) := Lib.hid (by rw [← hLF]; rfl)
    have HO : Hid (LF.all (·.oneCell') = true) := Lib.hid (by rw [← hLF]; rfl)
    have HFV : Hid (frV m .nil .nil = .agg LF.toArray) := Lib.hid (by rw [← hLF]; rfl)
    rw [hLF] at hS hFit
    have HV : Hid (Value.agg (frL (FN.zero 23) .nil .nil).toArray = Value.agg LF.toArray) := Lib.hid (by rw [← hLF, ← hm])
    clear hm hLF
    obtain ⟨dsF, hdsF⟩ : ∃ z : List Int, [] = z := ⟨_, rfl⟩
    rw [hdsF] at hFit HD2
    obtain ⟨rsF, hrsF⟩ : ∃ z : RS, [] = z := ⟨_, rfl⟩
    rw [hrsF] at hFit HD2
    clear hdsF hrsF
    obtain ⟨bsF, badF⟩ := s1
    have hbad := hS.rd.bad_cell
    simp only at hbad
  rotate_left
  focus
    have hby := varN_byt (bs, false) hr.2.1
    have hvl := varN_le (bs, false)
    simp only at hvl
    rw [hbn] at hvl
    clear hbn hr hA hcm
    have hd : rdK 29 (varN (bs, false)) = some ((FN.zero 29 : FN), [], [], (varN (bs, false))) := rfl
    have HK := Lib.hid hk
    obtain ⟨s1, e_s1⟩ : ∃ x, varN (bs, false) = x := ⟨_, rfl⟩
    rw [e_s1] at hd hby hvl
    have HD1 := Lib.hid e_s1
    have E_s1 := Lib.hid e_s1
    clear e_s1
    have HD := Lib.hid hd
    clear hd hk
    have hb255 : bits BinOp.and IntKind.u64 29 255 = 29 := by decide
    go_enter Try.func37, Try.ntmps37
    go_wp2_with fail
    refine (rvar_any (w.heap.size + 1) 93 _ (bs, false) _ hrA hP').mono ?_
    rintro e w1 ⟨rfl, hr1, hk1⟩
    rw [HK.out]
    rw [E_s1.out] at hr1
    have hS := RdS.start (frL (FN.zero 29) .nil .nil) (hk1.below hB20 hB20.size (fun j hj => by omega)) (hA20.kept hk1 (by omega)) hr1
    clear hr1 hk1 hrA hA20 hB20
    have hg25 := hS.g25
    have hg5 := hS.g5w
    have hp5 := hS.p5
    have hlt5 : w1.heap.size < (w1.alloc (.cells (frL (FN.zero 29) .nil .nil).toArray 31)).heap.size := by simp
    have hS := hS.cast (L6 := frL (FN.zero 29 : FN) .nil .nil) (by rfl)
    have hwf : (FN.zero 29 : FN).wf := wf_set (wf_zero 29 (by omega) (by omega)) 0 0 0 0 0 0 0 false (by first | exact z62 | assumption) (by first | exact z62 | assumption) (by first | exact z62 | assumption) (by first | exact z62 | assumption) (by first | exact z62 | assumption) (by first | exact z62 | assumption) (by first | exact z62 | assumption)
    have hFit := hS.fits (P := fun b => w.heap.size + 1 ≤ b) hwf (InD.nil_ _ _) (InR.nil_ _ _)
    clear hwf
    obtain ⟨m, hm⟩ : ∃ m, (FN.zero 29 : FN) = m := ⟨_, rfl⟩
    rw [hm] at hS hFit
    have HD2 : Hid (rdK 29 (varN (bs, false)) = some (m, [], [], s1)) := Lib.hid (by rw [HD1.out, HD.out, hm])
    obtain ⟨LF, hLF⟩ : ∃ L, frL m .nil .nil = L := ⟨_, rfl⟩
    have HLl : Hid (LF.length = 19) := Lib.hid (by rw [← hLF]; rfl)
    have HO : Hid (LF.all (·.oneCell') = true) := Lib.hid (by rw [← hLF]; rfl)
    have HFV : Hid (frV m .nil .nil = .agg LF.toArray) := Lib.hid (by rw [← hLF]; rfl)
    rw [hLF] at hS hFit
    have HV : Hid (Value.agg (frL (FN.zero 29) .nil .nil).toArray = Value.agg LF.toArray) := Lib.hid (by rw [← hLF, ← hm])
    clear hm hLF
    obtain ⟨dsF, hdsF⟩ : ∃ z : List Int, [] = z := ⟨_, rfl⟩
    rw [hdsF] at hFit HD2
    obtain ⟨rsF, hrsF⟩ : ∃ z : RS, [] = z := ⟨_, rfl⟩
    rw [hrsF] at hFit HD2
    clear hdsF hrsF
    obtain ⟨bsF, badF⟩ := s1
    have hbad := hS.rd.bad_cell
    simp only at hbad
  rotate_left
  focus
    have hby := varN_byt (bs, false) hr.2.1
    have hvl := varN_le (bs, false)
    simp only at hvl
    rw [hbn] at hvl
    clear hbn hr hA hcm
    have hd : rdK 2 (varN (bs, false)) = some (({ FN.zero 2 with y := ((ackR (varN (bs, false))).2.1) } : FN), [], ((ackR (varN (bs, false))).1), ((ackR (varN (bs, false))).2.2)) := rfl
    have HK := Lib.hid hk
    have hae := ack_eq (varN (bs, false)) hby
    have HAE := Lib.hid hae
    clear hae
    obtain ⟨s1, e_s1⟩ : ∃ x, varN (bs, false) = x := ⟨_, rfl⟩
    rw [e_s1] at hd hby hvl HAE
    have HD1 := Lib.hid e_s1
    have E_s1 := Lib.hid e_s1
    clear e_s1
    obtain ⟨x_y, e_x_y⟩ : ∃ x, (ackR s1).2.1 = x := ⟨_, rfl⟩
    rw [e_x_y] at hd
    have E_x_y := Lib.hid e_x_y
    clear e_x_y
    obtain ⟨R, e_R⟩ : ∃ x, (ackR s1).1 = x := ⟨_, rfl⟩
    rw [e_R] at hd
    have E_R := Lib.hid e_R
    clear e_R
    obtain ⟨s2, e_s2⟩ : ∃ x, (ackR s1).2.2 = x := ⟨_, rfl⟩
    rw [e_s2] at hd
    have E_s2 := Lib.hid e_s2
    clear e_s2
    have HD := Lib.hid hd
    clear hd hk
    have hb255 : bits BinOp.and IntKind.u64 2 255 = 2 := by decide
    go_enter Try.func37, Try.ntmps37
    go_wp2_with fail
    refine (rvar_any (w.heap.size + 1) 93 _ (bs, false) _ hrA hP').mono ?_
    rintro e w1 ⟨rfl, hr1, hk1⟩
    rw [HK.out]
    rw [E_s1.out] at hr1
    have hS := RdS.start (frL (FN.zero 2) .nil .nil) (hk1.below hB20 hB20.size (fun j hj => by omega)) (hA20.kept hk1 (by omega)) hr1
    clear hr1 hk1 hrA hA20 hB20
    have hg25 := hS.g25
    have hg5 := hS.g5w
    have hp5 := hS.p5
    have hlt5 : w1.heap.size < (w1.alloc (.cells (frL (FN.zero 2) .nil .nil).toArray 31)).heap.size := by simp
    go_wp2_with (first | ((with_reducible refine at_st (x := .tmp 6) ?_); refine st_top _ _ _ (by rfl) _ (by rfl) (by simp) (by rfl) (by rfl) (by rfl) (by rfl) ?_) | fail)
    have hack := racks_any (w.heap.size + 1) 93 _ s1 _ hS.rd hP'
    refine hack.mono ?_
    clear hack
    intro e w2 hpo
    unfold AkPost at hpo
    have hAE := HAE.out
    clear HAE
    cases hak : akS s1
    case none =>
      rw [hak] at hpo hAE
      simp only at hpo hAE
      obtain ⟨rfl, hk2⟩ := hpo
      have hno : readO (bs, false) = none := by
        rw [readO_of (bs := s2.1) (bad := s2.2) HK.out (by omega) (by rw [HD1.out, HD.out])]
        refine if_neg (fun h => ?_)
        rw [E_s2.out, E_R.out] at hAE
        rcases hAE with h9 | h9
        · rw [h.1] at h9; cases h9
        · have := h.2; rw [rightB] at this; simp at this; simp [FN.zero] at this; rw [this.2] at h9; cases h9
      have HNO := Lib.hid hno
      clear hno hAE hak
      have c_10 := hS.a5.cell 10
      have f_10 := hS.a5.frozen 10
      have c_9 := hS.a5.cell 9
      have f_9 := hS.a5.frozen 9
      have a5k := hS.a5.kept hk2 (fun e => hp5 e.symm)
      have c_10 := a5k.cell 10
      have f_10 := a5k.frozen 10
      have c_9 := a5k.cell 9
      have f_9 := a5k.frozen 9
      simp only [frL, FN.zero, Sl.nil, List.getElem?_cons_succ, List.getElem?_cons_zero] at c_10 c_9
      have A2k := hS.a2.kept hk2 (fun e => hS.p2 e.symm)
      have hbl := hk2.below hS.bl hS.bl.size (fun j hj => by have := hS.pw; omega)
      have KK : Kept (· = w1.heap.size) w2 ((w2.setCell ⟨w1.heap.size, 10, none⟩ (.slice none 0 0)).setCell ⟨w1.heap.size, 9, none⟩ (.int .u64 0)) := ((Kept.refl (· = w1.heap.size) w2).setAt 10 (.slice none 0 0)).setAt 9 (.int .u64 0)
      have A2n := A2k.kept KK hg25
      have hbn := KK.below hbl hbl.size (fun j hj => by omega)
      clear A2k hbl KK a5k
      go_wp2_with (first | ((with_reducible refine at_st (x := .tmp 2) ?_); refine st_at _ _ (frL (FN.zero 0) .nil .nil) (by rfl) (by rfl) A2n (by rfl) (by rfl) (by rfl) ?_; intro w9 hA9 hk9) | fail)
      refine bodyPost_ret (results_cell_tmp 2 3 31 (by rfl) _ 31 _ _ _ (by rfl) (by rfl) hA9 Try.underlying31 rfl fr_info) rfl ?_
      exact RDPost.no HNO.out (hk9.below hbn hbn.size (fun j hj => by omega))
    rename_i x
    rw [hak] at hpo hAE
    simp only at hpo hAE
    obtain ⟨⟨rA, rn, rc⟩, rfl, hIR, hr2, hk2⟩ := hpo
    clear hak
    have x1 : x.1 = R := by rw [← hAE]; exact E_R.out
    have x2 : x.2.1 = x_y := by rw [← hAE]; exact E_x_y.out
    have x3 : x.2.2 = s2 := by rw [← hAE]; exact E_s2.out
    rw [x1] at hIR
    rw [x3] at hr2
    rw [x2]
    clear x1 x2 x3 hAE
    have hgD := hS.a5.lt
    have hgw := hS.bl.size
    have b_y := ackR_bd s1 (varN_byt _ hby)
    rw [E_x_y.out] at b_y
    have hS := hS.step hr2 hk2
    clear hr2 hk2
    have c_10 := hS.a5.cell 10
    have f_10 := hS.a5.frozen 10
    have c_9 := hS.a5.cell 9
    have f_9 := hS.a5.frozen 9
    simp only [frL, FN.zero, Sl.nil, withC, List.getElem?_cons_succ, List.getElem?_cons_zero, List.set_cons_zero, List.set_cons_succ] at c_10 c_9
    have hKS : Kept (· = w1.heap.size) w2 _ := ((Kept.refl (· = w1.heap.size) w2).setAt 10 (.slice rA rn rc)).setAt 9 (.int .u64 x_y)
    have hS := ((hS).cell 10 (.slice rA rn rc)).cell 9 (.int .u64 x_y)
    have hIR := hIR.after hgD (w.heap.size + 1) (by omega) hKS
    clear hKS
    have hS := hS.cast (L6 := frL ({ FN.zero 2 with y := x_y } : FN) .nil ⟨rA, rn, rc⟩) (by rfl)
    have hwf : ({ FN.zero 2 with y := x_y } : FN).wf := wf_set (wf_zero 2 (by omega) (by omega)) 0 0 0 0 0 0 x_y false (by first | exact z62 | assumption) (by first | exact z62 | assumption) (by first | exact z62 | assumption) (by first | exact z62 | assumption) (by first | exact z62 | assumption) (by first | exact z62 | assumption) (by first | exact z62 | assumption)
    have hFit := hS.fits (P := fun b => w.heap.size + 1 ≤ b) hwf (InD.nil_ _ _) (hIR)
    clear hwf
    obtain ⟨m, hm⟩ : ∃ m, ({ FN.zero 2 with y := x_y } : FN) = m := ⟨_, rfl⟩
    rw [hm] at hS hFit
    have HD2 : Hid (rdK 2 (varN (bs, false)) = some (m, [], R, s2)) := Lib.hid (by rw [HD1.out, HD.out, hm])
    obtain ⟨LF, hLF⟩ : ∃ L, frL m .nil ⟨rA, rn, rc⟩ = L := ⟨_, rfl⟩
    have HLl : Hid (LF.length = 19) := Lib.hid (by rw [← hLF]; rfl)
    have HO : Hid (LF.all (·.oneCell') = true) := Lib.hid (by rw [← hLF]; rfl)
    have HFV : Hid (frV m .nil ⟨rA, rn, rc⟩ = .agg LF.toArray) := Lib.hid (by rw [← hLF]; rfl)
    rw [hLF] at hS
    clear hm hLF
    obtain ⟨dsF, hdsF⟩ : ∃ z : List Int, [] = z := ⟨_, rfl⟩
    rw [hdsF] at hFit HD2
    obtain ⟨rsF, hrsF⟩ : ∃ z : RS, R = z := ⟨_, rfl⟩
    rw [hrsF] at hFit HD2
    clear hdsF hrsF
    obtain ⟨bsF, badF⟩ := s2
    have hbad := hS.rd.bad_cell
    simp only at hbad
  rotate_left
  focus
    have hby := varN_byt (bs, false) hr.2.1
    have hvl := varN_le (bs, false)
    simp only at hvl
    rw [hbn] at hvl
    clear hbn hr hA hcm
    have hd : rdK 4 (varN (bs, false)) = some (({ FN.zero 4 with s := (varR (varN (bs, false))), c := (varR (varN (varN (bs, false)))), f := (varR (varN (varN (varN (bs, false))))) } : FN), [], [], (varN (varN (varN (varN (bs, false)))))) := rfl
    have HK := Lib.hid hk
    obtain ⟨s1, e_s1⟩ : ∃ x, varN (bs, false) = x := ⟨_, rfl⟩
    rw [e_s1] at hd hby hvl
    have HD1 := Lib.hid e_s1
    have E_s1 := Lib.hid e_s1
    clear e_s1
    obtain ⟨x_s, e_x_s⟩ : ∃ x, varR s1 = x := ⟨_, rfl⟩
    rw [e_x_s] at hd
    have E_x_s := Lib.hid e_x_s
    clear e_x_s
    obtain ⟨s2, e_s2⟩ : ∃ x, varN s1 = x := ⟨_, rfl⟩
    rw [e_s2] at hd
    have E_s2 := Lib.hid e_s2
    clear e_s2
    obtain ⟨x_c, e_x_c⟩ : ∃ x, varR s2 = x := ⟨_, rfl⟩
    rw [e_x_c] at hd
    have E_x_c := Lib.hid e_x_c
    clear e_x_c
    obtain ⟨s3, e_s3⟩ : ∃ x, varN s2 = x := ⟨_, rfl⟩
    rw [e_s3] at hd
    have E_s3 := Lib.hid e_s3
    clear e_s3
    obtain ⟨x_f, e_x_f⟩ : ∃ x, varR s3 = x := ⟨_, rfl⟩
    rw [e_x_f] at hd
    have E_x_f := Lib.hid e_x_f
    clear e_x_f
    obtain ⟨s4, e_s4⟩ : ∃ x, varN s3 = x := ⟨_, rfl⟩
    rw [e_s4] at hd
    have E_s4 := Lib.hid e_s4
    clear e_s4
    have HD := Lib.hid hd
    clear hd hk
    have hb255 : bits BinOp.and IntKind.u64 4 255 = 4 := by decide
    go_enter Try.func37, Try.ntmps37
    go_wp2_with fail
    refine (rvar_any (w.heap.size + 1) 93 _ (bs, false) _ hrA hP').mono ?_
    rintro e w1 ⟨rfl, hr1, hk1⟩
    rw [HK.out]
    rw [E_s1.out] at hr1
    have hS := RdS.start (frL (FN.zero 4) .nil .nil) (hk1.below hB20 hB20.size (fun j hj => by omega)) (hA20.kept hk1 (by omega)) hr1
    clear hr1 hk1 hrA hA20 hB20
    have hg25 := hS.g25
    have hg5 := hS.g5w
    have hp5 := hS.p5
    have hlt5 : w1.heap.size < (w1.alloc (.cells (frL (FN.zero 4) .nil .nil).toArray 31)).heap.size := by simp
    go_wp2_with (first | ((with_reducible refine at_st (x := .tmp 6) ?_); refine st_top _ _ _ (by rfl) _ (by rfl) (by simp) (by rfl) (by rfl) (by rfl) (by rfl) ?_) | fail)
    refine (rvar_any (w.heap.size + 1) 93 _ s1 _ hS.rd hP').mono ?_
    rintro e w2 ⟨rfl, hr2, hk2⟩
    have b_s := hS.rd.byt2
    rw [E_x_s.out] at b_s
    rw [E_x_s.out]
    rw [E_s2.out] at hr2
    have vl2 := varN_le s1
    rw [E_s2.out] at vl2
    have hS := hS.step hr2 hk2
    clear hr2 hk2
    go_wp2_with fail
    refine (rvar_any (w.heap.size + 1) 93 _ s2 _ hS.rd hP').mono ?_
    rintro e w3 ⟨rfl, hr3, hk3⟩
    have b_c := hS.rd.byt2
    rw [E_x_c.out] at b_c
    rw [E_x_c.out]
    rw [E_s3.out] at hr3
    have vl3 := varN_le s2
    rw [E_s3.out] at vl3
    have hS := hS.step hr3 hk3
    clear hr3 hk3
    go_wp2_with fail
    refine (rvar_any (w.heap.size + 1) 93 _ s3 _ hS.rd hP').mono ?_
    rintro e w4 ⟨rfl, hr4, hk4⟩
    have b_f := hS.rd.byt2
    rw [E_x_f.out] at b_f
    rw [E_x_f.out]
    rw [E_s4.out] at hr4
    have vl4 := varN_le s3
    rw [E_s4.out] at vl4
    have hS := hS.step hr4 hk4
    clear hr4 hk4
    have c_1 := hS.a5.cell 1
    have f_1 := hS.a5.frozen 1
    have c_6 := hS.a5.cell 6
    have f_6 := hS.a5.frozen 6
    have c_7 := hS.a5.cell 7
    have f_7 := hS.a5.frozen 7
    simp only [frL, FN.zero, Sl.nil, withC, List.getElem?_cons_succ, List.getElem?_cons_zero, List.set_cons_zero, List.set_cons_succ] at c_1 c_6 c_7
    have hS := (((hS).cell 1 (.int .u64 x_s)).cell 6 (.int .u64 x_c)).cell 7 (.int .u64 x_f)
    have hS := hS.cast (L6 := frL ({ FN.zero 4 with s := x_s, c := x_c, f := x_f } : FN) .nil .nil) (by rfl)
    have hwf : ({ FN.zero 4 with s := x_s, c := x_c, f := x_f } : FN).wf := wf_set (wf_zero 4 (by omega) (by omega)) x_s 0 0 x_c x_f 0 0 false (by first | exact z62 | assumption) (by first | exact z62 | assumption) (by first | exact z62 | assumption) (by first | exact z62 | assumption) (by first | exact z62 | assumption) (by first | exact z62 | assumption) (by first | exact z62 | assumption)
    have hFit := hS.fits (P := fun b => w.heap.size + 1 ≤ b) hwf (InD.nil_ _ _) (InR.nil_ _ _)
    clear hwf
    obtain ⟨m, hm⟩ : ∃ m, ({ FN.zero 4 with s := x_s, c := x_c, f := x_f } : FN) = m := ⟨_, rfl⟩
    rw [hm] at hS hFit
    have HD2 : Hid (rdK 4 (varN (bs, false)) = some (m, [], [], s4)) := Lib.hid (by rw [HD1.out, HD.out, hm])
    obtain ⟨LF, hLF⟩ : ∃ L, frL m .nil .nil = L := ⟨_, rfl⟩
    have HLl : Hid (LF.length = 19) := Lib.hid (by rw [← hLF]; rfl)
    have HO : Hid (LF.all (·.oneCell') = true) := Lib.hid (by rw [← hLF]; rfl)
    have HFV : Hid (frV m .nil .nil = .agg LF.toArray) := Lib.hid (by rw [← hLF]; rfl)
    rw [hLF] at hS
    clear hm hLF
    obtain ⟨dsF, hdsF⟩ : ∃ z : List Int, [] = z := ⟨_, rfl⟩
    rw [hdsF] at hFit HD2
    obtain ⟨rsF, hrsF⟩ : ∃ z : RS, [] = z := ⟨_, rfl⟩
    rw [hrsF] at hFit HD2
    clear hdsF hrsF
    obtain ⟨bsF, badF⟩ := s4
    have hbad := hS.rd.bad_cell
    simp only at hbad
  rotate_left
  focus
    have hby := varN_byt (bs, false) hr.2.1
    have hvl := varN_le (bs, false)
    simp only at hvl
    rw [hbn] at hvl
    clear hbn hr hA hcm
    have hd : rdK 5 (varN (bs, false)) = some (({ FN.zero 5 with s := (varR (varN (bs, false))), c := (varR (varN (varN (bs, false)))) } : FN), [], [], (varN (varN (varN (bs, false))))) := rfl
    have HK := Lib.hid hk
    obtain ⟨s1, e_s1⟩ : ∃ x, varN (bs, false) = x := ⟨_, rfl⟩
    rw [e_s1] at hd hby hvl
    have HD1 := Lib.hid e_s1
    have E_s1 := Lib.hid e_s1
    clear e_s1
    obtain ⟨x_s, e_x_s⟩ : ∃ x, varR s1 = x := ⟨_, rfl⟩
    rw [e_x_s] at hd
    have E_x_s := Lib.hid e_x_s
    clear e_x_s
    obtain ⟨s2, e_s2⟩ : ∃ x, varN s1 = x := ⟨_, rfl⟩
    rw [e_s2] at hd
    have E_s2 := Lib.hid e_s2
    clear e_s2
    obtain ⟨x_c, e_x_c⟩ : ∃ x, varR s2 = x := ⟨_, rfl⟩
    rw [e_x_c] at hd
    have E_x_c := Lib.hid e_x_c
    clear e_x_c
    obtain ⟨s3, e_s3⟩ : ∃ x, varN s2 = x := ⟨_, rfl⟩
    rw [e_s3] at hd
    have E_s3 := Lib.hid e_s3
    clear e_s3
    have HD := Lib.hid hd
    clear hd hk
    have hb255 : bits BinOp.and IntKind.u64 5 255 = 5 := by decide
    go_enter Try.func37, Try.ntmps37
    go_wp2_with fail
    refine (rvar_any (w.heap.size + 1) 93 _ (bs, false) _ hrA hP').mono ?_
    rintro e w1 ⟨rfl, hr1, hk1⟩
    rw [HK.out]
    rw [E_s1.out] at hr1
    have hS := RdS.start (frL (FN.zero 5) .nil .nil) (hk1.below hB20 hB20.size (fun j hj => by omega)) (hA20.kept hk1 (by omega)) hr1
    clear hr1 hk1 hrA hA20 hB20
    have hg25 := hS.g25
    have hg5 := hS.g5w
    have hp5 := hS.p5
    have hlt5 : w1.heap.size < (w1.alloc (.cells (frL (FN.zero 5) .nil .nil).toArray 31)).heap.size := by simp
    go_wp2_with (first | ((with_reducible refine at_st (x := .tmp 6) ?_); refine st_top _ _ _ (by rfl) _ (by rfl) (by simp) (by rfl) (by rfl) (by rfl) (by rfl) ?_) | fail)
    refine (rvar_any (w.heap.size + 1) 93 _ s1 _ hS.rd hP').mono ?_
    rintro e w2 ⟨rfl, hr2, hk2⟩
    have b_s := hS.rd.byt2
    rw [E_x_s.out] at b_s
    rw [E_x_s.out]
    rw [E_s2.out] at hr2
    have vl2 := varN_le s1
    rw [E_s2.out] at vl2
    have hS := hS.step hr2 hk2
    clear hr2 hk2
    go_wp2_with fail
    refine (rvar_any (w.heap.size + 1) 93 _ s2 _ hS.rd hP').mono ?_
    rintro e w3 ⟨rfl, hr3, hk3⟩
    have b_c := hS.rd.byt2
    rw [E_x_c.out] at b_c
    rw [E_x_c.out]
    rw [E_s3.out] at hr3
    have vl3 := varN_le s2
    rw [E_s3.out] at vl3
    have hS := hS.step hr3 hk3
    clear hr3 hk3
    have c_1 := hS.a5.cell 1
    have f_1 := hS.a5.frozen 1
    have c_6 := hS.a5.cell 6
    have f_6 := hS.a5.frozen 6
    simp only [frL, FN.zero, Sl.nil, withC, List.getElem?_cons_succ, List.getElem?_cons_zero, List.set_cons_zero, List.set_cons_succ] at c_1 c_6
    have hS := ((hS).cell 1 (.int .u64 x_s)).cell 6 (.int .u64 x_c)
    have hS := hS.cast (L6 := frL ({ FN.zero 5 with s := x_s, c := x_c } : FN) .nil .nil) (by rfl)
    have hwf : ({ FN.zero 5 with s := x_s, c := x_c } : FN).wf := wf_set (wf_zero 5 (by omega) (by omega)) x_s 0 0 x_c 0 0 0 false (by first | exact z62 | assumption) (by first | exact z62 | assumption) (by first | exact z62 | assumption) (by first | exact z62 | assumption) (by first | exact z62 | assumption) (by first | exact z62 | assumption) (by first | exact z62 | assumption)
    have hFit := hS.fits (P := fun b => w.heap.size + 1 ≤ b) hwf (InD.nil_ _ _) (InR.nil_ _ _)
    clear hwf
    obtain ⟨m, hm⟩ : ∃ m, ({ FN.zero 5 with s := x_s, c := x_c } : FN) = m := ⟨_, rfl⟩
    rw [hm] at hS hFit
    have HD2 : Hid (rdK 5 (varN (bs, false)) = some (m, [], [], s3)) := Lib.hid (by rw [HD1.out, HD.out, hm])
    obtain ⟨LF, hLF⟩ : ∃ L, frL m .nil .nil = L := ⟨_, rfl⟩
    have HLl : Hid (LF.length = 19) := Lib.hid (by rw [← hLF]; rfl)
    have HO : Hid (LF.all (·.oneCell') = true) := Lib.hid (by rw [← hLF]; rfl)
    have HFV : Hid (frV m .nil .nil = .agg LF.toArray) := Lib.hid (by rw [← hLF]; rfl)
    rw [hLF] at hS
    clear hm hLF
    obtain ⟨dsF, hdsF⟩ : ∃ z : List Int, [] = z := ⟨_, rfl⟩
    rw [hdsF] at hFit HD2
    obtain ⟨rsF, hrsF⟩ : ∃ z : RS, [] = z := ⟨_, rfl⟩
    rw [hrsF] at hFit HD2
    clear hdsF hrsF
    obtain ⟨bsF, badF⟩ := s3
    have hbad := hS.rd.bad_cell
    simp only at hbad
  rotate_left
  focus
    have hby := varN_byt (bs, false) hr.2.1
    have hvl := varN_le (bs, false)
    simp only at hvl
    rw [hbn] at hvl
    clear hbn hr hA hcm
    have hd : rdK 16 (varN (bs, false)) = some (({ FN.zero 16 with l := (varR (varN (bs, false))) } : FN), [], [], (varN (varN (bs, false)))) := rfl
    have HK := Lib.hid hk
    obtain ⟨s1, e_s1⟩ : ∃ x, varN (bs, false) = x := ⟨_, rfl⟩
    rw [e_s1] at hd hby hvl
    have HD1 := Lib.hid e_s1
    have E_s1 := Lib.hid e_s1
    clear e_s1
    obtain ⟨x_l, e_x_l⟩ : ∃ x, varR s1 = x := ⟨_, rfl⟩
    rw [e_x_l] at hd
    have E_x_l := Lib.hid e_x_l
    clear e_x_l
    obtain ⟨s2, e_s2⟩ : ∃ x, varN s1 = x := ⟨_, rfl⟩
    rw [e_s2] at hd
    have E_s2 := Lib.hid e_s2
    clear e_s2
    have HD := Lib.hid hd
    clear hd hk
    have hb255 : bits BinOp.and IntKind.u64 16 255 = 16 := by decide
    go_enter Try.func37, Try.ntmps37
    go_wp2_with fail
    refine (rvar_any (w.heap.size + 1) 93 _ (bs, false) _ hrA hP').mono ?_
    rintro e w1 ⟨rfl, hr1, hk1⟩
    rw [HK.out]
    rw [E_s1.out] at hr1
    have hS := RdS.start (frL (FN.zero 16) .nil .nil) (hk1.below hB20 hB20.size (fun j hj => by omega)) (hA20.kept hk1 (by omega)) hr1
    clear hr1 hk1 hrA hA20 hB20
    have hg25 := hS.g25
    have hg5 := hS.g5w
    have hp5 := hS.p5
    have hlt5 : w1.heap.size < (w1.alloc (.cells (frL (FN.zero 16) .nil .nil).toArray 31)).heap.size := by simp
    go_wp2_with (first | ((with_reducible refine at_st (x := .tmp 6) ?_); refine st_top _ _ _ (by rfl) _ (by rfl) (by simp) (by rfl) (by rfl) (by rfl) (by rfl) ?_) | fail)
    refine (rvar_any (w.heap.size + 1) 93 _ s1 _ hS.rd hP').mono ?_
    rintro e w2 ⟨rfl, hr2, hk2⟩
    have b_l := hS.rd.byt2
    rw [E_x_l.out] at b_l
    rw [E_x_l.out]
    rw [E_s2.out] at hr2
    have vl2 := varN_le s1
    rw [E_s2.out] at vl2
    have hS := hS.step hr2 hk2
    clear hr2 hk2
    have c_5 := hS.a5.cell 5
    have f_5 := hS.a5.frozen 5
    simp only [frL, FN.zero, Sl.nil, withC, List.getElem?_cons_succ, List.getElem?_cons_zero, List.set_cons_zero, List.set_cons_succ] at c_5
    have hS := (hS).cell 5 (.int .u64 x_l)
    have hS := hS.cast (L6 := frL ({ FN.zero 16 with l := x_l } : FN) .nil .nil) (by rfl)
    have hwf : ({ FN.zero 16 with l := x_l } : FN).wf := wf_set (wf_zero 16 (by omega) (by omega)) 0 0 x_l 0 0 0 0 false (by first | exact z62 | assumption) (by first | exact z62 | assumption) (by first | exact z62 | assumption) (by first | exact z62 | assumption) (by first | exact z62 | assumption) (by first | exact z62 | assumption) (by first | exact z62 | assumption)
    have hFit := hS.fits (P := fun b => w.heap.size + 1 ≤ b) hwf (InD.nil_ _ _) (InR.nil_ _ _)
    clear hwf
    obtain ⟨m, hm⟩ : ∃ m, ({ FN.zero 16 with l := x_l } : FN) = m := ⟨_, rfl⟩
    rw [hm] at hS hFit
    have HD2 : Hid (rdK 16 (varN (bs, false)) = some (m, [], [], s2)) := Lib.hid (by rw [HD1.out, HD.out, hm])
    obtain ⟨LF, hLF⟩ : ∃ L, frL m .nil .nil = L := ⟨_, rfl⟩
    have HLl : Hid (LF.length = 19) := Lib.hid (by rw [← hLF]; rfl)
    have HO : Hid (LF.all (·.oneCell') = true) := Lib.hid (by rw [← hLF]; rfl)
    have HFV : Hid (frV m .nil .nil = .agg LF.toArray) := Lib.hid (by rw [← hLF]; rfl)
    rw [hLF] at hS
    clear hm hLF
    obtain ⟨dsF, hdsF⟩ : ∃ z : List Int, [] = z := ⟨_, rfl⟩
    rw [hdsF] at hFit HD2
    obtain ⟨rsF, hrsF⟩ : ∃ z : RS, [] = z := ⟨_, rfl⟩
    rw [hrsF] at hFit HD2
    clear hdsF hrsF
    obtain ⟨bsF, badF⟩ := s2
    have hbad := hS.rd.bad_cell
    simp only at hbad
  rotate_left
  focus
    have hby := varN_byt (bs, false) hr.2.1
    have hvl := varN_le (bs, false)
    simp only at hvl
    rw [hbn] at hvl
    clear hbn hr hA hcm
    have hd : rdK 18 (varN (bs, false)) = some (({ FN.zero 18 with l := (varR (varN (bs, false))) } : FN), [], [], (varN (varN (bs, false)))) := rfl
    have HK := Lib.hid hk
    obtain ⟨s1, e_s1⟩ : ∃ x, varN (bs, false) = x := ⟨_, rfl⟩
    rw [e_s1] at hd hby hvl
    have HD1 := Lib.hid e_s1
    have E_s1 := Lib.hid e_s1
    clear e_s1
    obtain ⟨x_l, e_x_l⟩ : ∃ x, varR s1 = x := ⟨_, rfl⟩
    rw [e_x_l] at hd
    have E_x_l := Lib.hid e_x_l
    clear e_x_l
    obtain ⟨s2, e_s2⟩ : ∃ x, varN s1 = x := ⟨_, rfl⟩
    rw [e_s2] at hd
    have E_s2 := Lib.hid e_s2
    clear e_s2
    have HD := Lib.hid hd
    clear hd hk
    have hb255 : bits BinOp.and IntKind.u64 18 255 = 18 := by decide
    go_enter Try.func37, Try.ntmps37
    go_wp2_with fail
    refine (rvar_any (w.heap.size + 1) 93 _ (bs, false) _ hrA hP').mono ?_
    rintro e w1 ⟨rfl, hr1, hk1⟩
    rw [HK.out]
    rw [E_s1.out] at hr1
    have hS := RdS.start (frL (FN.zero 18) .nil .nil) (hk1.below hB20 hB20.size (fun j hj => by omega)) (hA20.kept hk1 (by omega)) hr1
    clear hr1 hk1 hrA hA20 hB20
    have hg25 := hS.g25
    have hg5 := hS.g5w
    have hp5 := hS.p5
    have hlt5 : w1.heap.size < (w1.alloc (.cells (frL (FN.zero 18) .nil .nil).toArray 31)).heap.size := by simp
    go_wp2_with (first | ((with_reducible refine at_st (x := .tmp 6) ?_); refine st_top _ _ _ (by rfl) _ (by rfl) (by simp) (by rfl) (by rfl) (by rfl) (by rfl) ?_) | fail)
    refine (rvar_any (w.heap.size + 1) 93 _ s1 _ hS.rd hP').mono ?_
    rintro e w2 ⟨rfl, hr2, hk2⟩
    have b_l := hS.rd.byt2
    rw [E_x_l.out] at b_l
    rw [E_x_l.out]
    rw [E_s2.out] at hr2
    have vl2 := varN_le s1
    rw [E_s2.out] at vl2
    have hS := hS.step hr2 hk2
    clear hr2 hk2
    have c_5 := hS.a5.cell 5
    have f_5 := hS.a5.frozen 5
    simp only [frL, FN.zero, Sl.nil, withC, List.getElem?_cons_succ, List.getElem?_cons_zero, List.set_cons_zero, List.set_cons_succ] at c_5
    have hS := (hS).cell 5 (.int .u64 x_l)
    have hS := hS.cast (L6 := frL ({ FN.zero 18 with l := x_l } : FN) .nil .nil) (by rfl)
    have hwf : ({ FN.zero 18 with l := x_l } : FN).wf := wf_set (wf_zero 18 (by omega) (by omega)) 0 0 x_l 0 0 0 0 false (by first | exact z62 | assumption) (by first | exact z62 | assumption) (by first | exact z62 | assumption) (by first | exact z62 | assumption) (by first | exact z62 | assumption) (by first | exact z62 | assumption) (by first | exact z62 | assumption)
    have hFit := hS.fits (P := fun b => w.heap.size + 1 ≤ b) hwf (InD.nil_ _ _) (InR.nil_ _ _)
    clear hwf
    obtain ⟨m, hm⟩ : ∃ m, ({ FN.zero 18 with l := x_l } : FN) = m := ⟨_, rfl⟩
    rw [hm] at hS hFit
    have HD2 : Hid (rdK 18 (varN (bs, false)) = some (m, [], [], s2)) := Lib.hid (by rw [HD1.out, HD.out, hm])
    obtain ⟨LF, hLF⟩ : ∃ L, frL m .nil .nil = L := ⟨_, rfl⟩
    have HLl : Hid (LF.length = 19) := Lib.hid (by rw [← hLF]; rfl)
    have HO : Hid (LF.all (·.oneCell') = true) := Lib.hid (by rw [← hLF]; rfl)
    have HFV : Hid (frV m .nil .nil = .agg LF.toArray) := Lib.hid (by rw [← hLF]; rfl)
    rw [hLF] at hS
    clear hm hLF
    obtain ⟨dsF, hdsF⟩ : ∃ z : List Int, [] = z := ⟨_, rfl⟩
    rw [hdsF] at hFit HD2
    obtain ⟨rsF, hrsF⟩ : ∃ z : RS, [] = z := ⟨_, rfl⟩
    rw [hrsF] at hFit HD2
    clear hdsF hrsF
    obtain ⟨bsF, badF⟩ := s2
    have hbad := hS.rd.bad_cell
    simp only at hbad
  rotate_left
  focus
    have hby := varN_byt (bs, false) hr.2.1
    have hvl := varN_le (bs, false)
    simp only at hvl
    rw [hbn] at hvl
    clear hbn hr hA hcm
    have hd : rdK 20 (varN (bs, false)) = some (({ FN.zero 20 with l := (varR (varN (bs, false))) } : FN), [], [], (varN (varN (bs, false)))) := rfl
    have HK := Lib.hid hk
    obtain ⟨s1, e_s1⟩ : ∃ x, varN (bs, false) = x := ⟨_, rfl⟩
    rw [e_s1] at hd hby hvl
    have HD1 := Lib.hid e_s1
    have E_s1 := Lib.hid e_s1
    clear e_s1
    obtain ⟨x_l, e_x_l⟩ : ∃ x, varR s1 = x := ⟨_, rfl⟩
    rw [e_x_l] at hd
    have E_x_l := Lib.hid e_x_l
    clear e_x_l
    obtain ⟨s2, e_s2⟩ : ∃ x, varN s1 = x := ⟨_, rfl⟩
    rw [e_s2] at hd
    have E_s2 := Lib.hid e_s2
    clear e_s2
    have HD := Lib.hid hd
    clear hd hk
    have hb255 : bits BinOp.and IntKind.u64 20 255 = 20 := by decide
    go_enter Try.func37, Try.ntmps37
    go_wp2_with fail
    refine (rvar_any (w.heap.size + 1) 93 _ (bs, false) _ hrA hP').mono ?_
    rintro e w1 ⟨rfl, hr1, hk1⟩
    rw [HK.out]
    rw [E_s1.out] at hr1
    have hS := RdS.start (frL (FN.zero 20) .nil .nil) (hk1.below hB20 hB20.size (fun j hj => by omega)) (hA20.kept hk1 (by omega)) hr1
    clear hr1 hk1 hrA hA20 hB20
    have hg25 := hS.g25
    have hg5 := hS.g5w
    have hp5 := hS.p5
    have hlt5 : w1.heap.size < (w1.alloc (.cells (frL (FN.zero 20) .nil .nil).toArray 31)).heap.size := by simp
    go_wp2_with (first | ((with_reducible refine at_st (x := .tmp 6) ?_); refine st_top _ _ _ (by rfl) _ (by rfl) (by simp) (by rfl) (by rfl) (by rfl) (by rfl) ?_) | fail)
    refine (rvar_any (w.heap.size + 1) 93 _ s1 _ hS.rd hP').mono ?_
    rintro e w2 ⟨rfl, hr2, hk2⟩
    have b_l := hS.rd.byt2
    rw [E_x_l.out] at b_l
    rw [E_x_l.out]
    rw [E_s2.out] at hr2
    have vl2 := varN_le s1
    rw [E_s2.out] at vl2
    have hS := hS.step hr2 hk2
    clear hr2 hk2
    have c_5 := hS.a5.cell 5
    have f_5 := hS.a5.frozen 5
    simp only [frL, FN.zero, Sl.nil, withC, List.getElem?_cons_succ, List.getElem?_cons_zero, List.set_cons_zero, List.set_cons_succ] at c_5
    have hS := (hS).cell 5 (.int .u64 x_l)
    have hS := hS.cast (L6 := frL ({ FN.zero 20 with l := x_l } : FN) .nil .nil) (by rfl)
    have hwf : ({ FN.zero 20 with l := x_l } : FN).wf := wf_set (wf_zero 20 (by omega) (by omega)) 0 0 x_l 0 0 0 0 false (by first | exact z62 | assumption) (by first | exact z62 | assumption) (by first | exact z62 | assumption) (by first | exact z62 | assumption) (by first | exact z62 | assumption) (by first | exact z62 | assumption) (by first | exact z62 | assumption)
    have hFit := hS.fits (P := fun b => w.heap.size + 1 ≤ b) hwf (InD.nil_ _ _) (InR.nil_ _ _)
    clear hwf
    obtain ⟨m, hm⟩ : ∃ m, ({ FN.zero 20 with l := x_l } : FN) = m := ⟨_, rfl⟩
    rw [hm] at hS hFit
    have HD2 : Hid (rdK 20 (varN (bs, false)) = some (m, [], [], s2)) := Lib.hid (by rw [HD1.out, HD.out, hm])
    obtain ⟨LF, hLF⟩ : ∃ L, frL m .nil .nil = L := ⟨_, rfl⟩
    have HLl : Hid (LF.length = 19) := Lib.hid (by rw [← hLF]; rfl)
    have HO : Hid (LF.all (·.oneCell') = true) := Lib.hid (by rw [← hLF]; rfl)
    have HFV : Hid (frV m .nil .nil = .agg LF.toArray) := Lib.hid (by rw [← hLF]; rfl)
    rw [hLF] at hS
    clear hm hLF
    obtain ⟨dsF, hdsF⟩ : ∃ z : List Int, [] = z := ⟨_, rfl⟩
    rw [hdsF] at hFit HD2
    obtain ⟨rsF, hrsF⟩ : ∃ z : RS, [] = z := ⟨_, rfl⟩
    rw [hrsF] at hFit HD2
    clear hdsF hrsF
    obtain ⟨bsF, badF⟩ := s2
    have hbad := hS.rd.bad_cell
    simp only at hbad
  rotate_left
  all_goals
    cases badF with
    | true =>
      have HNO : Hid (readO (bs, false) = none) := Lib.hid (by rw [readO_of HK.out (by omega) HD2.out]; simp)
      go_wp2_with (first | ((with_reducible refine at_st (x := .tmp 6) ?_); refine st_top _ _ LF (by rfl) _ (by rfl) (by simp) HV.out (by rfl) HLl.out HO.out ?_) | ((with_reducible refine at_st (x := .tmp 2) ?_); refine st_at _ _ (frL (FN.zero 0) .nil .nil) (by rfl) (by rfl) hS.a2 (by rfl) (by rfl) (by rfl) ?_; intro w9 hA9 hk9) | fail)
      refine bodyPost_ret (results_cell_tmp 2 3 31 (by rfl) _ 31 _ _ _ (by rfl) (by rfl) hA9 Try.underlying31 rfl fr_info) rfl ?_
      exact RDPost.no HNO.out (hS.out hk9)
    | false =>
      have hplt := hS.plt
      obtain ⟨qA, qn, qc, hqrow, hql, hqc, hqm⟩ := hS.rd.row_cell
      simp only at hql
      have HQL := Lib.hid hql
      have hrt := rright_any _ m _ _ _ _ _ hFit
      rw [HFV.out] at hrt
      have HRT := Lib.hid hrt
      clear hrt
      have a5 := hS.a5
      go_wp2_with (first | ((with_reducible refine at_st (x := .tmp 6) ?_); refine st_top _ _ LF (by rfl) _ (by rfl) (by simp) HV.out (by rfl) HLl.out HO.out ?_) | ((with_reducible refine at_ld (x := .tmp 6) ?_); refine ld_fr_g _ _ (by rfl) (by rfl) a5 HLl.out ?_) | fail)
      refine HRT.out.mono ?_
      rintro e w8 ⟨rfl, hb8⟩
      clear HRT a5
      have hS := hS.below hb8
      have hFit := hFit.below hb8
      have hqrow : w8.cell? ⟨w.heap.size + 1, 0, none⟩ = some (.slice qA qn qc) := (hb8.cell (p := ⟨w.heap.size + 1, 0, none⟩) hplt).trans hqrow
      clear hb8 hql
      obtain ⟨rb, hrb⟩ : ∃ x, rightB m dsF rsF = x := ⟨_, rfl⟩
      rw [hrb]
      have HRO : Hid (readO (bs, false) = if (false : Bool) = false ∧ rb = true then some (m, dsF, rsF, (bsF, false)) else none) := Lib.hid (by rw [readO_of HK.out (by omega) HD2.out, hrb])
      clear hrb
      cases rb with
      | false =>
        have HNO : Hid (readO (bs, false) = none) := Lib.hid (by rw [HRO.out]; simp)
        go_wp2_with (first | ((with_reducible refine at_st (x := .tmp 2) ?_); refine st_at _ _ (frL (FN.zero 0) .nil .nil) (by rfl) (by rfl) hS.a2 (by rfl) (by rfl) (by rfl) ?_; intro w9 hA9 hk9) | fail)
        refine bodyPost_ret (results_cell_tmp 2 3 31 (by rfl) _ 31 _ _ _ (by rfl) (by rfl) hA9 Try.underlying31 rfl fr_info) rfl ?_
        exact RDPost.no HNO.out (hS.out hk9)
      | true =>
        have HYES : Hid (readO (bs, false) = some (m, dsF, rsF, (bsF, false))) := Lib.hid (by rw [HRO.out]; simp)
        have hqm' := hqm
        unfold maxLen at hqm'
        have hww : IntKind.i64.wrap ((n : Int) - (qn : Int)) = (n : Int) - (qn : Int) := IntWalk.i64_in _ (by omega)
        go_wp2_with fail
        have hS := hS.drew
        have hFit := hFit.below (below_drew (Below.refl _ _))
        have hqrow : w8.drew.cell? ⟨w.heap.size + 1, 0, none⟩ = some (.slice qA qn qc) := hqrow
        refine wp_region_held_drew (S := (fun W => At W w1.heap.size 31 LF ∧ W.cell? ⟨w.heap.size + 1, 0, none⟩ = some (.slice qA qn qc))) (by kernel_rfl) (⟨hS.a5, hqrow⟩) (fun hHeld => ?_)
        refine take_dst (i := 0) (dst := some 172) rfl rfl (by kernel_rfl) (by kernel_rfl) (by kernel_rfl) (fun _ _ _ h => h) (v := ?_) ?_ (by assumption) ?_
        rotate_left
        · refine yl_any 31 (.tmp 6) ?_ w1.heap.size 0 ?_ LF _ ?_ Try.underlying31 rfl ?_ ?_
          · rfl
          · rfl
          · intro w hSw; exact hSw.1.rangeAt
          · rw [HLl.out]; exact fr_info
          · rfl
        simp only [Act.put, List.setIfInBounds_toArray, List.set_cons_zero, List.set_cons_succ]
        refine tkp 1 (some 173) (v := ?_) rfl (Or.inl ⟨by rfl, ?_⟩) (by assumption) ?_
        rotate_left
        · intro w hSw; (try dsimp only at hSw); (have z0 := hSw.2); go_simp; first | done | (with_reducible rfl)
        simp only [Act.put, List.setIfInBounds_toArray, List.set_cons_zero, List.set_cons_succ]
        refine tkp 2 (some 174) (v := ?_) rfl (Or.inl ⟨by rfl, ?_⟩) (by assumption) ?_
        rotate_left
        · intro w hSw; (try dsimp only at hSw); (have z0 := hSw.2); go_simp; first | done | (with_reducible rfl)
        simp only [Act.put, List.setIfInBounds_toArray, List.set_cons_zero, List.set_cons_succ]
        refine tkp 3 (some 175) (v := ?_) rfl (Or.inl ⟨by rfl, ?_⟩) (by assumption) ?_
        rotate_left
        · intro w hSw; (try dsimp only at hSw); (have z0 := hSw.2); go_simp; first | done | (with_reducible rfl)
        simp only [Act.put, List.setIfInBounds_toArray, List.set_cons_zero, List.set_cons_succ]
        refine tkp 4 (some 176) (v := ?_) rfl (Or.inl ⟨by rfl, ?_⟩) (by assumption) ?_
        rotate_left
        · intro w hSw; (try dsimp only at hSw); (have z0 := hSw.2); go_simp; first | done | (with_reducible rfl)
        simp only [Act.put, List.setIfInBounds_toArray, List.set_cons_zero, List.set_cons_succ]
        refine tkp 5 (some 177) (v := ?_) rfl (Or.inl ⟨by rfl, ?_⟩) (by assumption) ?_
        rotate_left
        · intro w hSw; (try dsimp only at hSw); (have z0 := hSw.2); go_simp; first | done | (with_reducible rfl)
        simp only [Act.put, List.setIfInBounds_toArray, List.set_cons_zero, List.set_cons_succ]
        refine tkp 6 (some 178) (v := ?_) rfl (Or.inl ⟨by rfl, ?_⟩) (by assumption) ?_
        rotate_left
        · intro w hSw; (try dsimp only at hSw); (have z0 := hSw.2); go_simp; first | done | (with_reducible rfl)
        simp only [Act.put, List.setIfInBounds_toArray, List.set_cons_zero, List.set_cons_succ]
        refine tkp 7 (some 179) (v := ?_) rfl (Or.inl ⟨by rfl, ?_⟩) (by assumption) ?_
        rotate_left
        · intro w hSw; (try dsimp only at hSw); (have z0 := hSw.2); go_simp; first | done | (with_reducible rfl)
        simp only [Act.put, List.setIfInBounds_toArray, List.set_cons_zero, List.set_cons_succ]
        refine tkp 8 (some 180) (v := ?_) rfl (Or.inl ⟨by rfl, ?_⟩) (by assumption) ?_
        rotate_left
        · intro w hSw; (try dsimp only at hSw); (have z0 := hSw.2); go_simp; first | done | (with_reducible rfl)
        simp only [Act.put, List.setIfInBounds_toArray, List.set_cons_zero, List.set_cons_succ]
        obtain ⟨Y, hY⟩ : ∃ x, w8.drew = x := ⟨_, rfl⟩
        rw [hY] at hS hFit hqrow ⊢
        clear hY
        refine wpAnyH_ready (rs := [9]) (by kernel_rfl) (by simp) ?_
        refine AllReadyH.cons rfl (fun K hK => ?_) AllReadyH.nil
        refine step_st_any (by rfl) w.heap.size 31 (frL (FN.zero 0) .nil .nil) LF (by rfl) (by rfl) hS.a2 HLl.out.symm (by rw [HLl.out]; exact fr_info) HO.out ?_
        intro w9 hA9 hk9
        have h59 := hS.a5.kept hk9 (fun e => hg25 e.symm)
        have hq9 := (hk9.cell (p := ⟨w.heap.size + 1, 0, none⟩) (by obtain ⟨_, _, _, h, _⟩ := hS.rd; exact h.lt) (fun e => hS.p2 e)).trans hqrow
        refine hK.out _ _ ⟨h59, hq9⟩ (fun hHeld => ?_)
        clear hK K
        refine tkp 10 (some 3) (v := ?_) rfl (Or.inl ⟨by rfl, ?_⟩) (by assumption) ?_
        rotate_left
        · intro w hSw; (try dsimp only at hSw); go_simp; first | done | (with_reducible rfl)
        simp only [Act.put, List.setIfInBounds_toArray, List.set_cons_zero, List.set_cons_succ]
        refine wpAnyH_done (by kernel_rfl) ?_ _
        go_wp2_with fail
        refine bodyPost_ret (results_cell_tmp 2 3 31 (by rfl) _ 31 _ _ _ (by rfl) (by rfl) hA9 Try.underlying31 rfl (by rw [HLl.out]; exact fr_info)) rfl ?_
        have hfin := RDPost.yes HYES.out HBN.out HQL.out ((hFit.kept hk9 (fun b hb e => by omega)).mono (fun b _ hb => by omega)) (hS.out hk9)
        rw [HFV.out] at hfin
        exact hfin
end Go.Proofs.Ytkahndjflhgccaa
