/-
  ParamOrder: names may come in any order, with others between; one that comes twice is refused.
-/
import Derived.Test.YthpcfcnkpipmnaaPb
import Derived.Test.YthpcfcnkpipmnaaSlr
import Derived.Test.YthpcfcnkpipmnaaPg
namespace Go.Proofs.Ythpcfcnkpipmnaa
set_option linter.unusedVariables false
set_option linter.unusedSimpArgs false
open Go.RowKit Go.ChangeShapes Go.WideShapes Go.Deep
def qN (p : PN) (j : Nat) : PN := if j = 0 then ⟨p.i, 0, 0, 0, .zero⟩ else if j = 1 then ⟨0, p.d, 0, 0, .zero⟩ else if j = 2 then ⟨0, 0, p.s, 0, .zero⟩ else ⟨0, 0, 0, p.m, .zero⟩
def qL (p : PN) : List Value := [qN p 0, qN p 1, qN p 2, qN p 3].flatMap pmL
theorem qN_wf (p : PN) (h : p.wf) (j : Nat) : (qN p j).wf := by
  unfold qN
  have z := PN.wf_zero
  split
  · exact ⟨h.i0, h.i1, z.d0, z.d1, z.s0, z.s1, z.m0, z.m1, z.cb⟩
  · split
    · exact ⟨z.i0, z.i1, h.d0, h.d1, z.s0, z.s1, z.m0, z.m1, z.cb⟩
    · split
      · exact ⟨z.i0, z.i1, z.d0, z.d1, h.s0, h.s1, z.m0, z.m1, z.cb⟩
      · exact ⟨z.i0, z.i1, z.d0, z.d1, z.s0, z.s1, h.m0, h.m1, z.cb⟩
theorem qN_right (p : PN) (h : prightB p = true) (j : Nat) : prightB (qN p j) = true := by
  unfold prightB at h ⊢
  obtain ⟨r1, r2, r3, r4⟩ := of_decide_eq_true h
  have z1 : (0 : Int) ≤ 1073741824 := by decide
  have z2 : (0 : Int) ≤ 1048576 := by decide
  have z3 : (0 : Int) ≤ 1099511627776 := by decide
  apply decide_eq_true
  unfold qN
  split
  · exact ⟨r1, z2, z3, z3⟩
  · split
    · exact ⟨z1, z2, r3, z3⟩
    · split
      · exact ⟨z1, z2, z3, r4⟩
      · exact ⟨z1, r2, z3, z3⟩
theorem numB_z (id : Int) : numB id 0 = [] := by unfold numB; rw [if_pos rfl]
theorem q_enc (p : PN) (x : List Int) (j : Nat) (hj : j < 4) : pencS (qN p j) = rowS p x j ++ (putS 0 ++ textB N8.zero.l) := by
  have hjc : j = 0 ∨ j = 1 ∨ j = 2 ∨ j = 3 := by omega
  rcases hjc with rfl | rfl | rfl | rfl <;> simp [qN, pencS, rowS, numB_z]
theorem rowS_le (p : PN) (x : List Int) (hx : x.length ≤ 20) (j : Nat) : (rowS p x j).length ≤ 40 := by
  unfold rowS
  have n1 := numB_le 1 p.i
  have n2 := numB_le 4 p.d
  have n3 := numB_le 5 p.s
  have n4 := numB_le 8 p.m
  have t := textB_le x
  have e0 : (putS 0 ++ textB p.c.l).length = 10 := rfl
  have e1 : (putS 63).length = 1 := by decide
  split; omega
  split; omega
  split; omega
  split; omega
  split; omega
  rw [List.length_append]; omega
theorem qL_at (p : PN) (k : Nat) (hk : k < 4) (W : World) (g : Nat) (T : TypeId) (h : At W g T (qL p)) : W.rangeAt g (k * 12) (pmL (qN p k)) := by
  intro j v hj
  rw [h.cell]
  have hj12 : j < 12 := (List.getElem?_eq_some_iff.1 hj).1
  have hk8 : k = 0 ∨ k = 1 ∨ k = 2 ∨ k = 3 := by omega
  have hjc : j = 0 ∨ j = 1 ∨ j = 2 ∨ j = 3 ∨ j = 4 ∨ j = 5 ∨ j = 6 ∨ j = 7 ∨ j = 8 ∨ j = 9 ∨ j = 10 ∨ j = 11 := by omega
  rw [← hj]
  rcases hk8 with rfl | rfl | rfl | rfl <;> rcases hjc with rfl | rfl | rfl | rfl | rfl | rfl | rfl | rfl | rfl | rfl | rfl | rfl <;> rfl
def catS (p : PN) (x : List Int) (k : Nat) : Nat → List Int
  | 0 => []
  | j + 1 => catS p x k j ++ rowS p x ((j + k) % 6)
theorem catS_6 (p : PN) (x : List Int) (k : Nat) : catS p x k 6 = turnS p x k := by
  simp [catS, turnS, List.append_assoc]
theorem catS_le (p : PN) (x : List Int) (hx : x.length ≤ 20) (k : Nat) : ∀ j, (catS p x k j).length ≤ 40 * j
  | 0 => by simp [catS]
  | j + 1 => by
    have h1 := catS_le p x hx k j
    have h2 := rowS_le p x hx ((j + k) % 6)
    simp only [catS, List.length_append]
    omega
theorem map_snoc (Lr : List (Sl × List Int)) (f : Nat → List Int) (j : Nat) (d : Sl) (h : Lr.map (·.2) = (List.range j).map f) : (Lr ++ [(d, f j)]).map (·.2) = (List.range (j + 1)).map f := by
  rw [List.map_append, h, List.range_succ, List.map_append]; rfl
theorem putS_20 : ∀ n : Fin 21, putS (n.val : Int) = [(n.val : Int)] := by decide
theorem row4_eq (p : PN) (x : List Int) : rowS p x 4 = [0, 8] ++ p.c.l := by
  show putS 0 ++ (putS (((p.c.l).length : Nat) : Int) ++ p.c.l) = _
  rw [show (p.c.l).length = 8 from rfl, show putS 0 = [0] by decide, show putS ((8 : Nat) : Int) = [8] by decide]
  rfl
theorem row5_eq (p : PN) (x : List Int) (hx : x.length ≤ 20) : rowS p x 5 = [63, (x.length : Int)] ++ x := by
  show putS 63 ++ (putS (x.length : Int) ++ x) = _
  rw [putS_20 ⟨x.length, by omega⟩]
  rfl
def RQ (W : World) (g : Nat) (p : PN) (x : List Int) : Prop := ∀ q, q < 6 → ∃ d, W.cell? ⟨g, q, none⟩ = some (slV d) ∧ InD W (fun _ => True) d (rowS p x q)
theorem RQ.below {W W' : World} {g : Nat} {p : PN} {x : List Int} (h : RQ W g p x) (hg : g < W.heap.size) (hb : Below W.heap.size W W') : RQ W' g p x := by
  intro q hq
  obtain ⟨d, h1, h2⟩ := h q hq
  refine ⟨d, ?_, h2.below_ hb⟩
  rw [(Kept.of_below hb (fun _ => False)).cell (p := ⟨g, q, none⟩) hg (fun h => h)]
  exact h1
theorem RQ.of {W : World} {base : Nat} {v : Value} {L : List (Sl × List Int)} {p : PN} {x : List Int} (h : RowsAt W base v L) (hl : L.length = 6) (hm : L.map (·.2) = (List.range 6).map (rowS p x)) :
    ∃ g cap, v = .slice (some ⟨g, 0, none⟩) 6 cap ∧ g < W.heap.size ∧ 6 ≤ cap ∧ cap ≤ maxLen ∧ RQ W g p x := by
  obtain ⟨g, cap, h1, h2, h3, h4, h5⟩ := h.cell (by omega)
  rw [hl] at h1 h3
  refine ⟨g, cap, h1, h2, h3, h4, fun q hq => ?_⟩
  obtain ⟨r, hr⟩ : ∃ r, L[q]? = some r := ⟨_, List.getElem?_eq_getElem (by omega)⟩
  have e : r.2 = rowS p x q := by
    have h6 : (L.map (·.2))[q]? = some r.2 := by rw [List.getElem?_map, hr]; rfl
    rw [hm, List.getElem?_map, List.getElem?_range hq] at h6
    simpa using h6.symm
  refine ⟨r.1, h5 q r hr, ?_⟩
  rw [← e]
  exact (h.rows r (List.mem_of_getElem? hr)).mono (fun _ _ _ => trivial)
theorem InD.inRow {w : World} {P : Nat → Prop} {d : Sl} {ds : List Int} (h : InD w P d ds) : InRow w d.A d.n d.c ds := ⟨h.rd.1, h.lc, h.cm, h.nil⟩
set_option maxRecDepth 100000 in
set_option maxHeartbeats 8000000 in
theorem porder_walk (a b c d n turn : Int) (A6 : Option Addr) (n6 c6 : Nat) (bs6 : List Int) (w : World) (ba : 0 ≤ a ∧ a ≤ 18446744073709551615) (bb : 0 ≤ b ∧ b ≤ 18446744073709551615) (bc : 0 ≤ c ∧ c ≤ 18446744073709551615) (bd : 0 ≤ d ∧ d ≤ 18446744073709551615) (bn : -9223372036854775808 ≤ n ∧ n ≤ 9223372036854775807)
    (bt : -9223372036854775808 ≤ turn ∧ turn ≤ 9223372036854775807) (h6 : InRow w A6 n6 c6 bs6) :
    Calls Try.prog 6 #[.int .u64 a, .int .u64 b, .int .u64 c, .int .u64 d, .int .i64 n, .int .i64 turn, .slice A6 n6 c6] w fun e w'' => e = .returned (.bool true) ∧ Below w.heap.size w w'' := by
  obtain ⟨i0, hi, hz0, hz1, hz2⟩ := info_parts u8_info
  have hD0 := h6.inDl
  have hkp := Lib.hid (kparams_any a b c d n w (by omega) (by omega) (by omega) (by omega) bn.1 bn.2)
  have hwf := kpS_wf a b c d n
  have hrt := kpS_right a b c d n
  obtain ⟨p, hp⟩ : ∃ x, kpS a b c d n = x := ⟨_, rfl⟩
  rw [hp] at hkp hwf hrt
  have hqe := fun j W => penc_yes (qN p j) W (qN_wf p hwf j) (qN_right p hrt j)
  have hrf := fun W => run_pm W p
  obtain ⟨L, hL⟩ : ∃ L, pmL p = L := ⟨_, rfl⟩
  have hLl : L.length = 12 := by rw [← hL]; rfl
  have hLo : L.all (·.oneCell') = true := by rw [← hL]; rfl
  have hLv : pmV p = .agg L.toArray := by rw [← hL]; rfl
  have l0 : L[0]? = some (.int .u64 p.i) := by rw [← hL]; rfl
  have l1 : L[1]? = some (.int .u64 p.d) := by rw [← hL]; rfl
  have l2 : L[2]? = some (.int .u64 p.s) := by rw [← hL]; rfl
  have l3 : L[3]? = some (.int .u64 p.m) := by rw [← hL]; rfl
  have hcr : ∀ (W : World) (g : Nat), At W g 26 L → Rd W W.heap.size (some ⟨g, 4, none⟩) 8 p.c.l := fun W g hW => pm_rd p (by rw [hL]; exact hW) hwf.cb
  have hqv : ∀ j, pmV (qN p j) = .agg (pmL (qN p j)).toArray := fun j => rfl
  rw [hLv] at hkp hrf
  obtain ⟨pi, hpi⟩ : ∃ x, p.i = x := ⟨_, rfl⟩
  obtain ⟨pd, hpd⟩ : ∃ x, p.d = x := ⟨_, rfl⟩
  obtain ⟨ps, hps⟩ : ∃ x, p.s = x := ⟨_, rfl⟩
  obtain ⟨pm, hpm⟩ : ∃ x, p.m = x := ⟨_, rfl⟩
  rw [hpi] at l0
  rw [hpd] at l1
  rw [hps] at l2
  rw [hpm] at l3
  have hql : ∀ W : World, W.alloc (.cells #[.int .u64 pi, .int .u64 0, .int .u64 0, .int .u64 0, .int .u8 0, .int .u8 0, .int .u8 0, .int .u8 0, .int .u8 0, .int .u8 0, .int .u8 0, .int .u8 0, .int .u64 0, .int .u64 pd, .int .u64 0, .int .u64 0, .int .u8 0, .int .u8 0, .int .u8 0, .int .u8 0, .int .u8 0, .int .u8 0, .int .u8 0, .int .u8 0, .int .u64 0, .int .u64 0, .int .u64 ps, .int .u64 0, .int .u8 0, .int .u8 0, .int .u8 0, .int .u8 0, .int .u8 0, .int .u8 0, .int .u8 0, .int .u8 0, .int .u64 0, .int .u64 0, .int .u64 0, .int .u64 pm, .int .u8 0, .int .u8 0, .int .u8 0, .int .u8 0, .int .u8 0, .int .u8 0, .int .u8 0, .int .u8 0] 26) = W.alloc (.cells (qL p).toArray 26) := by
    intro W; rw [← hpi, ← hpd, ← hps, ← hpm]; rfl
  have HLV := Lib.hid hLv
  have HLl := Lib.hid hLl
  have HLo := Lib.hid hLo
  have HRF := Lib.hid hrf
  have HQE := Lib.hid hqe
  have HCR := Lib.hid hcr
  have HQL := Lib.hid hql
  have HWF := Lib.hid (And.intro hwf hrt)
  clear hp hL hLl hLo hLv hrf hqe hcr hqv hpi hpd hps hpm hql hwf hrt ba bb bc bd bn h6
  go_enter Try.func6, Try.ntmps6
  go_wp2_with fail
  refine (hkp.out).mono ?_
  rintro e w1 ⟨rfl, hb1⟩
  have hD1 := hD0.below_ hb1
  have hG2 := At.new w1 26 L
  have hb2 : Below w1.heap.size w1 (w1.alloc (.cells L.toArray 26)) := (Below.refl _ _).alloc (Nat.le_refl _) _
  obtain ⟨w2, hw2⟩ : ∃ x, w1.alloc (.cells L.toArray 26) = x := ⟨_, rfl⟩
  rw [hw2] at hG2 hb2
  have hD2 := hD1.below_ hb2
  have hB2 := hb1.trans (hb2.mono hb1.size)
  obtain ⟨g15, hg15⟩ : ∃ x, w1.heap.size = x := ⟨_, rfl⟩
  have hg15b : w.heap.size ≤ g15 := by rw [← hg15]; exact hb1.size
  rw [hg15] at hG2
  have hR3 := (rows_new w2).base_ hB2.size
  have hb3 : Below w2.heap.size w2 (w2.alloc (.cells #[] 29)) := (Below.refl _ _).alloc (Nat.le_refl _) _
  obtain ⟨w3, hw3⟩ : ∃ x, w2.alloc (.cells #[] 29) = x := ⟨_, rfl⟩
  rw [hw3] at hR3 hb3
  have hG3 := hG2.of_below hb3
  have hD3 := hD2.below_ hb3
  have hB3 := hB2.trans (hb3.mono hB2.size)
  have q0 := (hG3.cell 0).trans l0
  have q1 := (hG3.cell 1).trans l1
  have q2 := (hG3.cell 2).trans l2
  have q3 := (hG3.cell 3).trans l3
  obtain ⟨g16, hg16⟩ : ∃ x, w2.heap.size = x := ⟨_, rfl⟩
  rw [hg16] at hR3
  have hG2l := hG2.lt
  clear hb1 hkp hD0 hD1 hb2 hG2 hD2 hB2
  have hb4 : Below w3.heap.size w3 (w3.alloc (.cells (qL p).toArray 26)) := (Below.refl _ _).alloc (Nat.le_refl _) _
  have hq4 := At.new w3 26 (qL p)
  have hG4 := hG3.of_below hb4
  have hD4 := hD3.below_ hb4
  have hB4 := hB3.trans (hb4.mono hB3.size)
  have hR4 := hR3.below hb4
  rw [← HQL.out w3] at hq4 hG4 hD4 hB4 hR4
  obtain ⟨g47, hg47⟩ : ∃ x, w3.heap.size = x := ⟨_, rfl⟩
  have hgl : g15 < g16 ∧ g16 < g47 := ⟨by rw [← hg16]; exact hG2l, by rw [← hg47, ← hg16, ← hw3]; simp⟩
  have hw4b : g47 < w3.heap.size + 1 := by omega
  rw [hg47] at hq4
  obtain ⟨xs, hxs⟩ : ∃ x, bs6.take (min n6 20) = x := ⟨_, rfl⟩
  have HXS := Lib.hid hxs
  have HJ := Lib.hid (And.intro hB4 (And.intro hG4 (And.intro hD4 (And.intro hq4 hR4))))
  clear hb4 hq4 hG3 hG4 hD3 hD4 hB3 hB4 hR3 hR4 HQL hb3 hxs
  go_wp2_with (first | ((with_reducible refine at_stp (x := .tmp 15) ?_); refine wpList_store_top w1 26 (pmL .zero) L (by rfl) _ (by rfl) hg15.symm (by rfl) (by rw [HLl.out]; rfl) (by rw [HLl.out]; exact pm_info) HLo.out ?_; rw [hw2]; clear hw2) | fail)
  generalize (Value.agg #[.int .u64 pi, .int .u64 0, .int .u64 0, .int .u64 0, .int .u8 0, .int .u8 0, .int .u8 0, .int .u8 0, .int .u8 0, .int .u8 0, .int .u8 0, .int .u8 0]) = z0
  generalize (Value.agg #[.int .u64 0, .int .u64 pd, .int .u64 0, .int .u64 0, .int .u8 0, .int .u8 0, .int .u8 0, .int .u8 0, .int .u8 0, .int .u8 0, .int .u8 0, .int .u8 0]) = z1
  generalize (Value.agg #[.int .u64 0, .int .u64 0, .int .u64 ps, .int .u64 0, .int .u8 0, .int .u8 0, .int .u8 0, .int .u8 0, .int .u8 0, .int .u8 0, .int .u8 0, .int .u8 0]) = z2
  generalize (Value.agg #[.int .u64 0, .int .u64 0, .int .u64 0, .int .u64 pm, .int .u8 0, .int .u8 0, .int .u8 0, .int .u8 0, .int .u8 0, .int .u8 0, .int .u8 0, .int .u8 0]) = z3
  clear q0 q1 q2 q3 l0 l1 l2 l3
  go_loopw [16, 49] (fun v i wr => ∃ (j : Nat) (Lr : List (Sl × List Int)), j ≤ 4 ∧ i = .int .i64 j ∧ (∃ A n c, v = .slice A n c) ∧ Lr.length = j ∧ Hid ((Below w.heap.size w wr ∧ At wr g15 26 L ∧ InD wr (fun b => b < w.heap.size) ⟨A6, n6, c6⟩ bs6 ∧ At wr g47 26 (qL p) ∧ RowsAt wr w.heap.size v Lr) ∧ Lr.map (·.2) = (List.range j).map (rowS p xs) ∧ (∀ q, v.ownBlock = some q → q ≠ g15 ∧ q ≠ g47))) (fun _ i _ => 4 - (intOf i).toNat)
  case atStart => exact ⟨0, [], by omega, rfl, ⟨_, _, _, rfl⟩, rfl, Lib.hid ⟨HJ.out, rfl, fun q hq => by simp [Value.ownBlock] at hq; omega⟩⟩
  case round =>
    obtain ⟨j, Lr, hj, rfl, ⟨vA, vn, vc, rfl⟩, hLr, hst⟩ := hrel
    obtain ⟨wi, rfl⟩ : ∃ wi : World, wi = wr := ⟨_, rfl⟩
    obtain ⟨⟨hB, hG, hD, hq, hR⟩, hmp, hne⟩ := hst.out
    clear hst HJ
    by_cases hj4 : j < 4
    · have hjI : (j : Int) < 4 := by omega
      have hrg := qL_at p j hj4 wi g47 _ hq
      have hen := HQE.out j
      have hE0 := q_enc p xs j hj4
      obtain ⟨M, hM⟩ : ∃ M, pmL (qN p j) = M := ⟨_, rfl⟩
      have hMl : M.length = 12 := by rw [← hM]; rfl
      have hMo : M.all (·.oneCell') = true := by rw [← hM]; rfl
      have hMv : pmV (qN p j) = .agg M.toArray := by rw [← hM]; rfl
      rw [hMv] at hen
      rw [hM] at hrg
      have l2' := (penc_len (qN p j)).2
      obtain ⟨E, hE⟩ : ∃ x, pencS (qN p j) = x := ⟨_, rfl⟩
      rw [hE] at hen hE0 l2'
      obtain ⟨K, hK⟩ : ∃ x, (rowS p xs j).length = x := ⟨_, rfl⟩
      have hN : E.length = K + 10 := by rw [hE0, List.length_append, hK]; rfl
      have htk : E.take K = rowS p xs j := by rw [hE0, ← hK]; simp
      have HMl := Lib.hid hMl
      have HMo := Lib.hid hMo
      have HEN := Lib.hid hen
      have HNN := Lib.hid hN
      have HTK := Lib.hid htk
      have HMP := Lib.hid hmp
      rw [hN] at l2'
      have hA2 := At.new wi 26 M
      have hbA : Below wi.heap.size wi (wi.alloc (.cells M.toArray 26)) := (Below.refl _ _).alloc (Nat.le_refl _) _
      obtain ⟨x2, hx2⟩ : ∃ x, wi.alloc (.cells M.toArray 26) = x := ⟨_, rfl⟩
      rw [hx2] at hA2 hbA
      obtain ⟨g18, hg18⟩ : ∃ x, wi.heap.size = x := ⟨_, rfl⟩
      rw [hg18] at hA2
      clear hM hMl hMo hMv hE0 hE hK hN htk hen hmp
      go_wp2_with (first | ((with_reducible refine at_ldp (x := .tmp 51) ?_); refine ld_pm_g (by rfl) g47 (j * 12) M (by rfl) hrg HMl.out ?_) | ((with_reducible refine at_stp (x := .tmp 18) ?_); refine wpList_store_top wi 26 (pmL .zero) M (by rfl) _ (by rfl) hg18.symm (by rfl) (by rw [HMl.out]; rfl) (by rw [HMl.out]; exact pm_info) HMo.out ?_; rw [hx2]; clear hx2) | ((with_reducible refine at_ldp (x := .tmp 18) ?_); refine ld_pm_g (by rfl) g18 0 M (by rfl) hA2.rangeAt HMl.out ?_) | fail)
      refine (HEN.out x2).mono ?_
      rintro e x3 ⟨v3, rfl, hown3, hb3⟩
      have hb13 := hbA.trans (hb3.mono hbA.size)
      have hlt := ownsRow_lt hR.own
      have hs13 := hb13.size
      obtain ⟨A3, c3, rfl, hc3, hm3, hr3⟩ := hown3.open_n (K + 10) HNN.out
      obtain ⟨bk, off, rfl, _, _⟩ := hr3.2.2 (by omega)
      have hm3' := hm3
      unfold maxLen at hm3'
      have hin3 := hown3.inD_ HNN.out
      have hmin : min (K + 10) K = K := by omega
      have hcut := hin3.cutTo_ K
      rw [hmin, HTK.out] at hcut
      have hsub : IntKind.i64.wrap (((K + 10 : Nat) : Int) - 10) = (K : Int) := by rw [IntKind.wrap_i64]; omega
      have hB3 := hB.trans (hb13.mono hB.size)
      have hG3 := hG.of_below hb13
      have hD3 := hD.below_ hb13
      have hq3 := hq.of_below hb13
      have hR3 := hR.below hb13
      have hx2s := hbA.size
      have hnew : InD x3 (fun b => (Value.slice vA vn vc).ownBlock ≠ some b) ⟨some ⟨bk, off, none⟩, K, c3⟩ (rowS p xs j) := hcut.mono (fun b _ hb e => by have := (hlt b e).2; omega)
      clear hB hG hD hq hR hrg hA2 hbA hb3 hown3 hr3 hin3 hcut hmin HEN HTK HNN HMl HMo
      have hA4 := At.new x3 29 ([(⟨some ⟨bk, off, none⟩, K, c3⟩, rowS p xs j)].map fun r : Sl × List Int => slV r.1)
      have hb4 : Below x3.heap.size x3 (x3.alloc (.cells #[.slice (some ⟨bk, off, none⟩) K c3] 29)) := (Below.refl _ _).alloc (Nat.le_refl _) _
      have hA4 : At (x3.alloc (.cells #[.slice (some ⟨bk, off, none⟩) K c3] 29)) x3.heap.size 29 ([(⟨some ⟨bk, off, none⟩, K, c3⟩, rowS p xs j)].map fun r : Sl × List Int => slV r.1) := hA4
      obtain ⟨x4, hx4⟩ : ∃ x, x3.alloc (.cells #[.slice (some ⟨bk, off, none⟩) K c3] 29) = x := ⟨_, rfl⟩
      rw [hx4] at hA4 hb4
      have hB4 := hB3.trans (hb4.mono hB3.size)
      have hG4 := hG3.of_below hb4
      have hD4 := hD3.below_ hb4
      have hq4 := hq3.of_below hb4
      have hR4 := hR3.below hb4
      have hnew4 := hnew.below_ hb4
      have hlt4 := ownsRow_lt hR4.own
      have hM4 : ∀ r ∈ [((⟨some ⟨bk, off, none⟩, K, c3⟩, rowS p xs j) : Sl × List Int)], InD x4 (fun b => (Value.slice vA vn vc).ownBlock ≠ some b) r.1 r.2 := by
        intro r hr
        rw [List.mem_singleton] at hr
        rw [hr]; exact hnew4
      have hll : Lr.length + [((⟨some ⟨bk, off, none⟩, K, c3⟩, rowS p xs j) : Sl × List Int)].length ≤ 1000 := by simp only [List.length_cons, List.length_nil]; omega
      have hs4 := hB4.size
      have hx34 := hb4.size
      obtain ⟨g71, hg71⟩ : ∃ x, x3.heap.size = x := ⟨_, rfl⟩
      rw [hg71] at hA4
      clear hB3 hG3 hD3 hq3 hR3 hnew hnew4 hb4 hlt
      go_wp2_with (first | (at_builtin; refine wpList_append_rows rfl (.tmp 65) (.tmp 71) rfl w.heap.size _ Lr _ rfl hR4 g71 1 29 rfl rfl (by decide) hA4 hM4 hll hs4 ?_; intro v5 x5 hR5 hg5 hv5 ho5) | fail)
      have hk5 : Kept (fun q => (Value.slice vA vn vc).ownBlock = some q) x4 x5 := Kept.of_grown hg5 (fun k hk => .inl hk)
      have hB5 := hk5.below hB4 hB4.size (fun q hq' => (hlt4 q hq').1)
      have hG5 := hG4.kept hk5 (fun e => (hne _ e).1 rfl)
      have hq5 := hq4.kept hk5 (fun e => (hne _ e).2 rfl)
      have hD5 := hD4.kept hk5 (fun b hb e => by have := (hlt4 b e).1; omega)
      have hgg := hG4.lt
      have hgq := hq4.lt
      obtain ⟨A5, c5, rfl⟩ := hv5
      go_roundw
      case rel => exact ⟨j + 1, Lr ++ [(⟨some ⟨bk, off, none⟩, K, c3⟩, rowS p xs j)], by omega, by go_num, ⟨_, _, _, rfl⟩, by rw [List.length_append, hLr]; rfl, Lib.hid ⟨⟨hB5, hG5, hD5, hq5, hR5⟩, map_snoc Lr _ j _ HMP.out, fun q hq' => by
        rcases ho5 q hq' with h | h
        · exact hne q h
        · omega⟩⟩
      case measure => simp [intOf]; omega
    · obtain rfl : j = 4 := by omega
      rw [show ((4 : Nat) : Int) = 4 from rfl]
      have hO1 : Own (wi.alloc (.cells #[.int .u8 0, .int .u8 8] 5)) wi.heap.size 5 (.slice (some ⟨wi.heap.size, 0, none⟩) 2 2) [0, 8] := Own.of_block (n := 2) (cap := 2) (fun y hy => by simp at hy; omega) rfl (heap_alloc_new wi _) (Nat.le_refl _) (Nat.le_refl _) (by unfold maxLen; omega) rfl rfl
      have hb1 : Below wi.heap.size wi (wi.alloc (.cells #[.int .u8 0, .int .u8 8] 5)) := (Below.refl _ _).alloc (Nat.le_refl _) _
      obtain ⟨y1, hy1⟩ : ∃ x, wi.alloc (.cells #[.int .u8 0, .int .u8 8] 5) = x := ⟨_, rfl⟩
      rw [hy1] at hO1 hb1
      have hs1 := hb1.size
      have hc1 := HCR.out y1 g15 (hG.of_below hb1)
      have hl1 : ([0, 8] : List Int).length + 8 ≤ 140737488355328 := by simp only [List.length_cons, List.length_nil]; omega
      have hvlt := ownsRow_lt hR.own
      go_wp2_with (first | (at_builtin; refine wpList_append_at rfl (.tmp 75) (.tmp 77) 29 rfl wi.heap.size 5 i0 Try.underlying29 hi hz0 hz1 hz2 _ [0, 8] rfl hO1 _ (some ⟨g15, 4, none⟩) 8 8 p.c.l rfl hc1 hl1 hs1 ?_; intro v2 y2 hO2 hg2 _; have hb2 := grown_below hO1 hg2 hb1 hs1; obtain ⟨A78, c78, rfl, hl78, hm78, hr78⟩ := hO2.open_n 10 rfl) | fail)
      have hD2 := hD.below_ hb2
      have hr4 := hO2.inD_ rfl
      have hs2 := hb2.size
      clear hO1 hg2 hb1 hs1 hc1 hl1 hr78 hO2
      refine (cut_any A6 n6 c6 20 y2 hD2.lc hD2.cm (by decide) (fun h e => by have h1 : n6 ≤ c6 := hD2.lc; have h2 : c6 = 0 := hD2.nil e; omega)).mono ?_
      rintro e w' ⟨rfl, rfl⟩
      have hm20 : min n6 20 ≤ 20 := Nat.min_le_right _ _
      have hcutE := HXS.out
      obtain ⟨sn, hsn⟩ : ∃ x, min n6 20 = x := ⟨_, rfl⟩
      rw [hsn] at hm20 hcutE ⊢
      have HSN := Lib.hid hsn
      have hxl : xs.length = sn := by rw [← hcutE]; have := (hD2.cutTo_ 20).rd.1.1; rw [hsn] at this; exact this
      have hux : IntKind.u8.wrap (sn : Int) = (sn : Int) := by rw [IntKind.wrap_u8]; omega
      have hO3 : Own (y2.alloc (.cells #[.int .u8 63, .int .u8 (sn : Int)] 5)) y2.heap.size 5 (.slice (some ⟨y2.heap.size, 0, none⟩) 2 2) [63, (sn : Int)] := Own.of_block (n := 2) (cap := 2) (fun y hy => by simp at hy; omega) rfl (heap_alloc_new y2 _) (Nat.le_refl _) (Nat.le_refl _) (by unfold maxLen; omega) rfl rfl
      have hb3 : Below y2.heap.size y2 (y2.alloc (.cells #[.int .u8 63, .int .u8 (sn : Int)] 5)) := (Below.refl _ _).alloc (Nat.le_refl _) _
      obtain ⟨y3, hy3⟩ : ∃ x, y2.alloc (.cells #[.int .u8 63, .int .u8 (sn : Int)] 5) = x := ⟨_, rfl⟩
      rw [hy3] at hO3 hb3
      have hs3 := hb3.size
      have hD3 := hD2.below_ hb3
      clear hsn hy1
      go_wp2_with fail
      refine (cut_any A6 n6 c6 20 y3 hD3.lc hD3.cm (by decide) (fun h e => by have h1 : n6 ≤ c6 := hD3.lc; have h2 : c6 = 0 := hD3.nil e; omega)).mono ?_
      rintro e w' ⟨rfl, rfl⟩
      rw [HSN.out]
      have hcut : Rd y3 y3.heap.size A6 sn xs := by have := (hD3.cutTo_ 20).rd.1; rw [HSN.out, hcutE] at this; exact this
      have hl3 : ([63, (sn : Int)] : List Int).length + sn ≤ 140737488355328 := by simp only [List.length_cons, List.length_nil]; omega
      have hn86 : ([63, (sn : Int)] ++ xs).length = sn + 2 := by rw [List.length_append, hxl]; simp only [List.length_cons, List.length_nil]; omega
      have HN86 := Lib.hid hn86
      clear hn86 hy3
      have hv74 : ∀ q, (Value.slice vA vn vc).ownBlock = some q → w.heap.size ≤ q ∧ q < wi.heap.size := hvlt
      have hl88 : Lr.length + 2 ≤ 1000 := by omega
      have hw42 := row4_eq p xs
      have hw52 := row5_eq p xs (by omega)
      rw [hxl] at hw52
      rw [← hw42] at hr4
      have HW5 := Lib.hid hw52
      clear hw42 hw52
      go_wp2_with (first | (at_builtin; refine wpList_append_at rfl (.tmp 83) (.tmp 85) 29 rfl y2.heap.size 5 i0 Try.underlying29 hi hz0 hz1 hz2 _ [63, (sn : Int)] rfl hO3 _ A6 sn c6 xs rfl hcut hl3 hs3 ?_; intro v4 y4 hO4 hg4 _; have hb4 := grown_below hO3 hg4 hb3 hs3; obtain ⟨A86, c86, rfl, hl86, hm86, hr86⟩ := hO4.open_n (sn + 2) HN86.out; have hr5 := hO4.inD_ HN86.out; rw [← HW5.out] at hr5; have hbz : Below y4.heap.size y4 (y4.alloc (.cells #[.slice A78 10 c78, .slice A86 (sn + 2) c86] 29)) := (Below.refl _ _).alloc (Nat.le_refl _) _; have hA5 : At (y4.alloc (.cells #[.slice A78 10 c78, .slice A86 (sn + 2) c86] 29)) y4.heap.size 29 ([(⟨A78, 10, c78⟩, rowS p xs 4), (⟨A86, sn + 2, c86⟩, rowS p xs 5)].map fun r : Sl × List Int => slV r.1) := At.new y4 _ _; obtain ⟨y5, hy5⟩ : ∃ x, y4.alloc (.cells #[.slice A78 10 c78, .slice A86 (sn + 2) c86] 29) = x := ⟨_, rfl⟩; rw [hy5] at hbz hA5; have hb25 := hb4.trans (hbz.mono hb4.size); have hbT := hb2.trans (hb25.mono hs2); have hR5 := hR.below hbT; have hM5 : ∀ r ∈ [((⟨A78, 10, c78⟩, rowS p xs 4) : Sl × List Int), ((⟨A86, sn + 2, c86⟩, rowS p xs 5) : Sl × List Int)], InD y5 (fun b => (Value.slice vA vn vc).ownBlock ≠ some b) r.1 r.2 := (fun r hr => by
          rcases List.mem_cons.1 hr with rfl | hr
          · exact (hr4.below_ hb25).mono (fun b _ hb e => by have := (hv74 b e).2; omega)
          · rw [List.mem_singleton] at hr
            subst hr
            exact (hr5.below_ hbz).mono (fun b _ hb e => by have := (hv74 b e).2; omega)); have hB5 := hB.trans (hbT.mono hB.size); have hG5 := hG.of_below hbT; have hs5 := hB5.size) | (at_builtin; refine wpList_append_rows rfl (.tmp 74) (.tmp 87) rfl w.heap.size _ Lr _ rfl hR5 y4.heap.size 2 29 rfl rfl (by decide) hA5 hM5 hl88 hs5 ?_; intro v6 y6 hR6 hg6 hv6 ho6) | fail)
      have hk6 : Kept (fun q => (Value.slice vA vn vc).ownBlock = some q) y5 y6 := Kept.of_grown hg6 (fun k hk => .inl hk)
      have hB6 := hk6.below hB5 hB5.size (fun q hq' => (hv74 q hq').1)
      have hG6 := hG5.kept hk6 (fun e => (hne _ e).1 rfl)
      have hmp6 : (Lr ++ [((⟨A78, 10, c78⟩, rowS p xs 4) : Sl × List Int), ((⟨A86, sn + 2, c86⟩, rowS p xs 5) : Sl × List Int)]).map (·.2) = (List.range 6).map (rowS p xs) := by
        rw [List.map_append, hmp]; rfl
      obtain ⟨gR, cR, rfl, hgR, hcR, hcmR, hRQ⟩ := RQ.of hR6 (by rw [List.length_append, hLr]; rfl) hmp6
      have hcmR' := hcmR
      unfold maxLen at hcmR'
      clear hR6 hg6 hk6 hmp6 hv6 ho6 hR5 hM5 hA5 hbT hb25 hbz hr5 hr4 hB5 hG5 hy5 hO4 hg4 hb4 hr86 hO3 hb3 hcut hB hG hD hq hR hmp hne hv74 hvlt hD2 hD3 hb2
      refine (within_any turn 0 5 y6 bt.1 bt.2 (by decide) (by decide) (by decide)).mono ?_
      rintro e w' ⟨rfl, rfl⟩
      have hkb := withinS_bd turn 0 5 (by decide)
      obtain ⟨kq, hkq⟩ : ∃ k, withinS turn 0 5 = k := ⟨_, rfl⟩
      rw [hkq] at hkb ⊢
      obtain ⟨kk, rfl⟩ := Int.eq_ofNat_of_zero_le hkb.1
      have hkk : kk < 6 := by omega
      have hkkI : (kk : Int) < 6 := by omega
      clear hkq hkb
      have hx20 : xs.length ≤ 20 := by omega
      have HJ2 := Lib.hid (And.intro (Below.refl y6.heap.size y6) (Own.none_ y6 y6.heap.size 5))
      go_wp2_with fail
      go_loopw [22, 23] (fun v i wr => ∃ j : Nat, j ≤ 6 ∧ i = .int .i64 j ∧ (∃ A n c, v = .slice A n c) ∧ Hid (Below y6.heap.size y6 wr ∧ Own wr y6.heap.size 5 v (catS p xs kk j))) (fun _ i _ => 6 - (intOf i).toNat)
      case atStart => exact ⟨0, by omega, rfl, ⟨_, _, _, rfl⟩, HJ2⟩
      case round =>
        obtain ⟨j, hj, rfl, ⟨aA, an, ac, rfl⟩, hst⟩ := hrel
        obtain ⟨wl, rfl⟩ : ∃ wl : World, wl = wr := ⟨_, rfl⟩
        obtain ⟨hbl, hown⟩ := hst.out
        clear hst HJ2
        have hcl := catS_le p xs hx20 kk j
        have hsl := hbl.size
        by_cases hj6 : j < 6
        · have hjI : (j : Int) < 6 := by omega
          obtain ⟨q, hq⟩ : ∃ q, (j + kk) % 6 = q := ⟨_, rfl⟩
          have hq6 : q < 6 := by omega
          have hq6I : (q : Int) < 6 := by omega
          have htm : ((j : Int) + (kk : Int)).tmod 6 = (q : Int) := by rw [Int.tmod_eq_emod_of_nonneg (by omega)]; omega
          obtain ⟨⟨dA, dn, dc⟩, hcell, hin⟩ := (hRQ.below hgR hbl) q hq6
          simp only [slV] at hcell
          have hdl : (rowS p xs q).length = dn := hin.rd.1.1
          have hrl := rowS_le p xs hx20 q
          have hlen : (catS p xs kk j).length + dn ≤ 140737488355328 := by omega
          have HQ := Lib.hid hq
          clear hcl hdl hrl hq
          go_wp2_with (first | (at_builtin; refine wpList_append_at rfl (.tmp 95) (.tmp 102) 29 rfl y6.heap.size 5 i0 Try.underlying29 hi hz0 hz1 hz2 _ _ rfl hown _ dA dn dc _ rfl hin.rd.1 hlen hsl ?_; intro v2 x2 hO2 hg2 _; have hb2 := grown_below hown hg2 hbl hsl; obtain ⟨a2, m2, c2, rfl⟩ := hO2.shape) | fail)
          go_roundw
          case rel => exact ⟨j + 1, by omega, by go_num, ⟨_, _, _, rfl⟩, Lib.hid ⟨hb2, by show Own _ _ _ _ (catS p xs kk j ++ rowS p xs ((j + kk) % 6)); rw [HQ.out]; exact hO2⟩⟩
          case measure => simp [intOf]; omega
        · obtain rfl : j = 6 := by omega
          rw [show ((6 : Nat) : Int) = 6 from rfl]
          rw [catS_6] at hown hcl
          obtain ⟨NT, hNT⟩ : ∃ x, (turnS p xs kk).length = x := ⟨_, rfl⟩
          rw [hNT] at hcl
          obtain ⟨A7, c7, hv7, hl7, hm7, hr7⟩ := hown.open_n NT hNT
          have hnil7 := hown.nil_cap
          injection hv7 with e1 e2 e3
          subst e1; subst e2; subst e3
          have hDY := dec_turn_yes p HWF.out.1 HWF.out.2 xs (by omega) kk hkk
          have hDN := dec_turn_no p HWF.out.1 HWF.out.2 xs (by omega) kk hkk
          have HPD := Lib.hid (pdec_any aA an ac (turnS p xs kk) wl hr7 (by omega) hnil7)
          have hG7 := hG6.of_below (hbl)
          have hB7 := hB6.trans (hbl.mono hB6.size)
          have hR7 := hRQ.below hgR hbl
          have hgR7 : gR < wl.heap.size := by omega
          have HDY := Lib.hid hDY
          have HDN := Lib.hid hDN
          have HNT := Lib.hid hNT
          clear hNT hDY hDN hown
          go_wp2_with fail
          refine HPD.out.mono ?_
          intro e w5 h
          unfold PdecPost at h
          rw [HDY.out] at h
          simp only at h
          rw [HLV.out] at h
          obtain ⟨rfl, hb5⟩ := h
          have hG8 := hG7.of_below hb5
          have hB8 := hB7.trans (hb5.mono hB7.size)
          have hR8 := hR7.below hgR7 hb5
          have hr8 := (hr7.below hb5).more hb5.size
          have hgR8 : gR < w5.heap.size := Nat.lt_of_lt_of_le hgR7 hb5.size
          have hb9 : Below w5.heap.size w5 (w5.alloc (.cells L.toArray 26)) := (Below.refl _ _).alloc (Nat.le_refl _) _
          have hC9 := At.new w5 26 L
          obtain ⟨w9, hw9⟩ : ∃ x, w5.alloc (.cells L.toArray 26) = x := ⟨_, rfl⟩
          rw [hw9] at hb9 hC9
          obtain ⟨g24, hg24⟩ : ∃ x, w5.heap.size = x := ⟨_, rfl⟩
          rw [hg24] at hC9
          have hG9 := hG8.of_below hb9
          have hB9 := hB8.trans (hb9.mono hB8.size)
          have hR9 := hR8.below hgR8 hb9
          have hr9 := (hr8.below hb9).more hb9.size
          have hgR9 : gR < w9.heap.size := Nat.lt_of_lt_of_le hgR8 hb9.size
          have hrun := Lib.hid (HRF.out w9)
          clear hG7 hB7 hR7 hr7 hb5 hG8 hB8 hR8 hr8 hb9 HPD hbl hB6 hG6
          go_wp2_with (first | ((with_reducible refine at_stp (x := .tmp 24) ?_); refine wpList_store_top w5 26 (pmL .zero) L (by rfl) _ (by rfl) hg24.symm (by rfl) (by rw [HLl.out]; rfl) (by rw [HLl.out]; exact pm_info) HLo.out ?_; rw [hw9]; clear hw9) | ((with_reducible refine at_ldp (x := .tmp 24) ?_); refine ld_pm_g (by rfl) g24 0 L (by rfl) hC9.rangeAt HLl.out ?_) | ((with_reducible refine at_ldp (x := .tmp 15) ?_); refine ld_pm_g (by rfl) g15 0 L (by rfl) hG9.rangeAt HLl.out ?_) | ((with_reducible refine at_nep ?_); refine wpList_neq_agg (by rfl) _ _ _ _ rfl L.toArray L.toArray (by rfl) (by rfl) pm_guard true hrun.out ?_) | fail)
          have hBz : Below w.heap.size w w9.drew := belowN hB9 1
          have hrz := hr9.drew
          obtain ⟨⟨dA, dn, dc⟩, hcell4, hin4⟩ := hR9 4 (by decide)
          simp only [slV] at hcell4
          have hcellz : w9.drew.cell? ⟨gR, 4, none⟩ = some (.slice dA dn dc) := hcell4
          have hinz := hin4.rd.1.drew
          have hgz : gR < w9.drew.heap.size := hgR9
          have hdl : (rowS p xs 4).length = dn := hin4.rd.1.1
          have hrl := rowS_le p xs hx20 4
          have hlen1 : ([] : List Int).length + an ≤ 140737488355328 := by simp only [List.length_nil]; omega
          have hlen2 : (turnS p xs kk).length + dn ≤ 140737488355328 := by rw [HNT.out]; omega
          obtain ⟨n2, hn2⟩ : ∃ x, (turnS p xs kk ++ rowS p xs 4).length = x := ⟨_, rfl⟩
          have hn2b : n2 ≤ 1000000 := by rw [← hn2, List.length_append, HNT.out]; omega
          have hn2 := Lib.hid hn2
          have HDN : Hid (decodeS (turnS p xs kk ++ rowS p xs 4) = none) := HDN
          have hrz : Rd w9.drew w9.drew.heap.size aA an (turnS p xs kk) := hrz
          have hinz : Rd w9.drew w9.drew.heap.size dA dn (rowS p xs 4) := hinz
          refine wp_region_held_drew (S := fun W => W.cell? ⟨gR, 4, none⟩ = some (.slice dA dn dc)) (by kernel_rfl) hcellz (fun hHeld => ?_)
          obtain ⟨wz, hwz⟩ : ∃ x, w9.drew = x := ⟨_, rfl⟩
          rw [hwz] at hBz hrz hcellz hinz hgz hHeld ⊢
          have hBx : Below wz.heap.size wz wz := Below.refl _ _
          have HSK := Lib.hid (fun (X : World) (h : Below wz.heap.size wz X) => (((Kept.of_below h (fun _ => False)).cell (p := ⟨gR, 4, none⟩) hgz (fun h => h)).trans hcellz : X.cell? ⟨gR, 4, none⟩ = some (.slice dA dn dc)))
          clear hwz hB9 hr9 hR9 hcell4 hin4 hdl hrl hG9 hC9 hrun hcellz hgR9 hgR8 hgR7
          refine tk_dst (i := 1) (dst := some 118) rfl rfl (by kernel_rfl) (by kernel_rfl) (by kernel_rfl) (fun _ _ _ h => h) (v := ?_) (Or.inl ⟨by rfl, ?_⟩) (by assumption) ?_
          rotate_left
          · intro w hSw; (try dsimp only at hSw); go_simp; first | done | (with_reducible rfl)
          simp only [Act.put, List.setIfInBounds_toArray, List.set_cons_zero, List.set_cons_succ]
          refine tk_dst (i := 3) (dst := some 120) rfl rfl (by kernel_rfl) (by kernel_rfl) (by kernel_rfl) (fun _ _ _ h => h) (v := ?_) (Or.inl ⟨by rfl, ?_⟩) (by assumption) ?_
          rotate_left
          · intro w hSw; (try dsimp only at hSw); go_simp; first | done | (with_reducible rfl)
          simp only [Act.put, List.setIfInBounds_toArray, List.set_cons_zero, List.set_cons_succ]
          refine tk_dst (i := 4) (dst := some 121) rfl rfl (by kernel_rfl) (by kernel_rfl) (by kernel_rfl) (fun _ _ _ h => h) (v := ?_) (Or.inl ⟨by rfl, ?_⟩) (by assumption) ?_
          rotate_left
          · intro w hSw; (try dsimp only at hSw); go_simp; first | done | (with_reducible rfl)
          simp only [Act.put, List.setIfInBounds_toArray, List.set_cons_zero, List.set_cons_succ]
          refine tk_dst (i := 5) (dst := some 122) rfl rfl (by kernel_rfl) (by kernel_rfl) (by kernel_rfl) (fun _ _ _ h => h) (v := ?_) (Or.inl ⟨by rfl, ?_⟩) (by assumption) ?_
          rotate_left
          · intro w hSw; (try dsimp only at hSw); go_simp; first | done | (with_reducible rfl)
          simp only [Act.put, List.setIfInBounds_toArray, List.set_cons_zero, List.set_cons_succ]
          refine wpAnyH_ready (rs := [0, 11]) (by kernel_rfl) (by simp) ?_
          refine AllReadyH.cons rfl (fun K hK => ?_) (AllReadyH.cons rfl (fun K hK => ?_) AllReadyH.nil)
          · go_simp
            have hBn : Below wz.heap.size wz (wz.alloc (.cells #[] 5)) := hBx.alloc hBx.size _
            refine hK.out _ _ (HSK.out _ hBn) (fun hHeld => ?_)
            clear hK K
            have hO : Own (wz.alloc (.cells #[] 5)) wz.heap.size 5 (.slice (some ⟨wz.heap.size, 0, none⟩) 0 0) [] := (Own.of_block (n := 0) (cap := 0) Byt.nil rfl (heap_alloc_new wz _) (Nat.le_refl _) (Nat.le_refl _) (Nat.zero_le _) rfl rfl).base_ hBx.size
            obtain ⟨t1, hY⟩ : ∃ x, wz.alloc (.cells #[] 5) = x := ⟨_, rfl⟩
            rw [hY] at hO
            rw [hY] at hBn
            have hBx := hBn
            rw [hY]
            clear hY hBn
            refine wpAnyH_ready (rs := [2, 11]) (by kernel_rfl) (by simp) ?_
            refine AllReadyH.cons rfl (fun K hK => ?_) (AllReadyH.cons rfl (fun K hK => ?_) AllReadyH.nil)
            · refine step_append_at (by rfl) (.tmp 117) (.tmp 118) 29 rfl wz.heap.size 5 i0 Try.underlying29 hi hz0 hz1 hz2 _ [] (by rfl) hO _ aA an ac (turnS p xs kk) (by rfl) ((hrz.below hBx).more hBx.size) hlen1 hBx.size ?_
              intro v2 t2 hOn hgn hvn
              have hBn := grown_below hO hgn hBx hBx.size
              refine hK.out _ _ (HSK.out _ hBn) (fun hHeld => ?_)
              clear hK K
              have hO := hOn
              have hBx := hBn
              clear hOn hBn hgn hvn
              rw [List.nil_append] at hO
              refine wpAnyH_ready (rs := [6, 11]) (by kernel_rfl) (by simp) ?_
              refine AllReadyH.cons rfl (fun K hK => ?_) (AllReadyH.cons rfl (fun K hK => ?_) AllReadyH.nil)
              · refine step_append_at (by rfl) (.tmp 119) (.tmp 122) 29 rfl wz.heap.size 5 i0 Try.underlying29 hi hz0 hz1 hz2 _ (turnS p xs kk) (by rfl) hO _ dA dn dc (rowS p xs 4) (by rfl) ((hinz.below hBx).more hBx.size) hlen2 hBx.size ?_
                intro v3 t3 hOn hgn hvn
                have hBn := grown_below hO hgn hBx hBx.size
                refine hK.out _ _ (HSK.out _ hBn) (fun hHeld => ?_)
                clear hK K
                have hO := hOn
                have hBx := hBn
                clear hOn hBn hgn hvn
                obtain ⟨A2, c2, rfl, hl2, hm2, hr2⟩ := hO.open_n n2 hn2.out
                have hnil2 := hO.nil_cap
                refine wpAnyH_ready (rs := [7, 11]) (by kernel_rfl) (by simp) ?_
                refine AllReadyH.cons rfl (fun K hK => ?_) (AllReadyH.cons rfl (fun K hK => ?_) AllReadyH.nil)
                · go_simp
                  go_wp2_with (go_at_call 16; refine (pdec_any A2 n2 c2 _ _ hr2 hn2b hnil2).mono ?_; intro e t4 hpost; unfold PdecPost at hpost; rw [HDN.out] at hpost; obtain ⟨rfl, hbn⟩ := hpost)
                  have hBn := hBx.trans (hbn.mono hBx.size)
                  refine hK.out _ _ (HSK.out _ hBn) (fun hHeld => ?_)
                  clear hK K
                  have hBx := hBn
                  clear hO hBn hbn hr2 hnil2
                  have hHeldN := HSK.out _ hBx
                  refine tk_dst (i := 8) (dst := some 116) rfl rfl (by kernel_rfl) (by kernel_rfl) (by kernel_rfl) (fun _ _ _ h => h) (v := ?_) (Or.inl ⟨by rfl, ?_⟩) (by assumption) ?_
                  rotate_left
                  · intro w hSw; (try dsimp only at hSw); go_simp; first | done | (with_reducible rfl)
                  simp only [Act.put, List.setIfInBounds_toArray, List.set_cons_zero, List.set_cons_succ]
                  refine tk_dst (i := 9) (dst := some 125) rfl rfl (by kernel_rfl) (by kernel_rfl) (by kernel_rfl) (fun _ _ _ h => h) (v := ?_) (Or.inl ⟨by rfl, ?_⟩) (by assumption) ?_
                  rotate_left
                  · intro w hSw; (try dsimp only at hSw); go_simp; first | done | (with_reducible rfl)
                  simp only [Act.put, List.setIfInBounds_toArray, List.set_cons_zero, List.set_cons_succ]
                  refine tk_dst (i := 10) (dst := some 126) rfl rfl (by kernel_rfl) (by kernel_rfl) (by kernel_rfl) (fun _ _ _ h => h) (v := ?_) (Or.inl ⟨by rfl, ?_⟩) (by assumption) ?_
                  rotate_left
                  · intro w hSw; (try dsimp only at hSw); go_simp; first | done | (with_reducible rfl)
                  simp only [Act.put, List.setIfInBounds_toArray, List.set_cons_zero, List.set_cons_succ]
                  refine wpAnyH_ready (rs := [11]) (by kernel_rfl) (by simp) ?_
                  refine AllReadyH.cons rfl (fun K hK => ?_) AllReadyH.nil
                  go_simp
                  have hBn : Below wz.heap.size wz (t4.alloc (.cells (pmL .zero).toArray 26)) := hBx.alloc hBx.size _
                  refine hK.out _ _ (HSK.out _ hBn) (fun hHeld => ?_)
                  clear hK K
                  have hAx := At.new t4 26 (pmL .zero)
                  obtain ⟨ga, hga⟩ : ∃ x, t4.heap.size = x := ⟨_, rfl⟩
                  obtain ⟨t5, hY⟩ : ∃ x, t4.alloc (.cells (pmL .zero).toArray 26) = x := ⟨_, rfl⟩
                  rw [hY, hga] at hAx
                  have hgaz : wz.heap.size ≤ ga := by rw [← hga]; exact hBx.size
                  rw [hY] at hBn
                  have hBx := hBn
                  change wpAnyH _ _ _ _ _ _ _ _ (t4.alloc (.cells (pmL .zero).toArray 26))
                  rw [hY, hga]
                  clear hY hga hBn
                  refine wpAnyH_ready (rs := [12]) (by kernel_rfl) (by simp) ?_
                  refine AllReadyH.cons rfl (fun K hK => ?_) AllReadyH.nil
                  refine step_st_any (by rfl) ga 26 (pmL .zero) (pmL .zero) (by rfl) (by rfl) hAx (by rfl) pm_info (by rfl) ?_
                  intro u1 hAs hks
                  have hBs := hks.below hBx hBx.size (fun q hq => by omega)
                  refine hK.out _ _ (HSK.out _ hBs) (fun hHeld => ?_)
                  clear hK K
                  have hHeldM := HSK.out _ hBs
                  refine tk_dst (i := 13) (dst := some 27) rfl rfl (by kernel_rfl) (by kernel_rfl) (by kernel_rfl) (fun _ _ _ h => h) (v := ?_) (Or.inl ⟨by rfl, ?_⟩) (by assumption) ?_
                  rotate_left
                  · intro w hSw; (try dsimp only at hSw); go_simp; first | done | (with_reducible rfl)
                  simp only [Act.put, List.setIfInBounds_toArray, List.set_cons_zero, List.set_cons_succ]
                  refine wpAnyH_done (by kernel_rfl) ?_ _
                  have hBe := hBz.trans (hBs.mono hBz.size)
                  clear HSK hAx hBx hAs hks hBs HDN HDY
                  go_wp2_with fail
                  refine (paknown_any _).mono ?_
                  rintro e u2 ⟨rfl, hbu⟩
                  go_wp2_with fail
                  go_ret
                  exact ⟨rfl, hBe.trans (hbu.mono hBe.size)⟩
                · go_simp
                  have hBn : Below wz.heap.size wz (t3.alloc (.cells (pmL .zero).toArray 26)) := hBx.alloc hBx.size _
                  refine hK.out _ _ (HSK.out _ hBn) (fun hHeld => ?_)
                  clear hK K
                  have hne : ∀ q, (Value.slice A2 n2 c2).ownBlock = some q → q ≠ t3.heap.size := fun q hq => by have := (hO.block_lt q hq).2; omega
                  have hO := hO.alloc (.cells (pmL .zero).toArray 26)
                  have hr2 := (hr2.alloc (Nat.le_refl _) (.cells (pmL .zero).toArray 26)).more (show t3.heap.size ≤ (t3.alloc (.cells (pmL .zero).toArray 26)).heap.size by simp)
                  have hAx := At.new t3 26 (pmL .zero)
                  obtain ⟨ga, hga⟩ : ∃ x, t3.heap.size = x := ⟨_, rfl⟩
                  obtain ⟨t4, hY⟩ : ∃ x, t3.alloc (.cells (pmL .zero).toArray 26) = x := ⟨_, rfl⟩
                  rw [hY, hga] at hAx
                  have hgaz : wz.heap.size ≤ ga := by rw [← hga]; exact hBx.size
                  rw [hY] at hBn
                  rw [hY] at hO
                  rw [hga] at hne
                  rw [hY] at hr2
                  have hBx := hBn
                  change wpAnyH _ _ _ _ _ _ _ _ (t3.alloc (.cells (pmL .zero).toArray 26))
                  rw [hY, hga]
                  clear hY hga hBn
                  refine wpAnyH_ready (rs := [7]) (by kernel_rfl) (by simp) ?_
                  refine AllReadyH.cons rfl (fun K hK => ?_) AllReadyH.nil
                  go_simp
                  go_wp2_with (go_at_call 16; refine (pdec_any A2 n2 c2 _ _ hr2 hn2b hnil2).mono ?_; intro e t5 hpost; unfold PdecPost at hpost; rw [HDN.out] at hpost; obtain ⟨rfl, hbn⟩ := hpost)
                  have hBn := hBx.trans (hbn.mono hBx.size)
                  refine hK.out _ _ (HSK.out _ hBn) (fun hHeld => ?_)
                  clear hK K
                  have hAx := hAx.of_below hbn
                  have hBx := hBn
                  clear hO hBn hbn hr2 hnil2
                  have hHeldN := HSK.out _ hBx
                  refine tk_dst (i := 8) (dst := some 116) rfl rfl (by kernel_rfl) (by kernel_rfl) (by kernel_rfl) (fun _ _ _ h => h) (v := ?_) (Or.inl ⟨by rfl, ?_⟩) (by assumption) ?_
                  rotate_left
                  · intro w hSw; (try dsimp only at hSw); go_simp; first | done | (with_reducible rfl)
                  simp only [Act.put, List.setIfInBounds_toArray, List.set_cons_zero, List.set_cons_succ]
                  refine tk_dst (i := 9) (dst := some 125) rfl rfl (by kernel_rfl) (by kernel_rfl) (by kernel_rfl) (fun _ _ _ h => h) (v := ?_) (Or.inl ⟨by rfl, ?_⟩) (by assumption) ?_
                  rotate_left
                  · intro w hSw; (try dsimp only at hSw); go_simp; first | done | (with_reducible rfl)
                  simp only [Act.put, List.setIfInBounds_toArray, List.set_cons_zero, List.set_cons_succ]
                  refine tk_dst (i := 10) (dst := some 126) rfl rfl (by kernel_rfl) (by kernel_rfl) (by kernel_rfl) (fun _ _ _ h => h) (v := ?_) (Or.inl ⟨by rfl, ?_⟩) (by assumption) ?_
                  rotate_left
                  · intro w hSw; (try dsimp only at hSw); go_simp; first | done | (with_reducible rfl)
                  simp only [Act.put, List.setIfInBounds_toArray, List.set_cons_zero, List.set_cons_succ]
                  refine wpAnyH_ready (rs := [12]) (by kernel_rfl) (by simp) ?_
                  refine AllReadyH.cons rfl (fun K hK => ?_) AllReadyH.nil
                  refine step_st_any (by rfl) ga 26 (pmL .zero) (pmL .zero) (by rfl) (by rfl) hAx (by rfl) pm_info (by rfl) ?_
                  intro u1 hAs hks
                  have hBs := hks.below hBx hBx.size (fun q hq => by omega)
                  refine hK.out _ _ (HSK.out _ hBs) (fun hHeld => ?_)
                  clear hK K
                  have hHeldM := HSK.out _ hBs
                  refine tk_dst (i := 13) (dst := some 27) rfl rfl (by kernel_rfl) (by kernel_rfl) (by kernel_rfl) (fun _ _ _ h => h) (v := ?_) (Or.inl ⟨by rfl, ?_⟩) (by assumption) ?_
                  rotate_left
                  · intro w hSw; (try dsimp only at hSw); go_simp; first | done | (with_reducible rfl)
                  simp only [Act.put, List.setIfInBounds_toArray, List.set_cons_zero, List.set_cons_succ]
                  refine wpAnyH_done (by kernel_rfl) ?_ _
                  have hBe := hBz.trans (hBs.mono hBz.size)
                  clear HSK hAx hBx hAs hks hBs HDN HDY
                  go_wp2_with fail
                  refine (paknown_any _).mono ?_
                  rintro e u2 ⟨rfl, hbu⟩
                  go_wp2_with fail
                  go_ret
                  exact ⟨rfl, hBe.trans (hbu.mono hBe.size)⟩
              · go_simp
                have hBn : Below wz.heap.size wz (t2.alloc (.cells (pmL .zero).toArray 26)) := hBx.alloc hBx.size _
                refine hK.out _ _ (HSK.out _ hBn) (fun hHeld => ?_)
                clear hK K
                have hne : ∀ q, v2.ownBlock = some q → q ≠ t2.heap.size := fun q hq => by have := (hO.block_lt q hq).2; omega
                have hO := hO.alloc (.cells (pmL .zero).toArray 26)
                have hAx := At.new t2 26 (pmL .zero)
                obtain ⟨ga, hga⟩ : ∃ x, t2.heap.size = x := ⟨_, rfl⟩
                obtain ⟨t3, hY⟩ : ∃ x, t2.alloc (.cells (pmL .zero).toArray 26) = x := ⟨_, rfl⟩
                rw [hY, hga] at hAx
                have hgaz : wz.heap.size ≤ ga := by rw [← hga]; exact hBx.size
                rw [hY] at hBn
                rw [hY] at hO
                rw [hga] at hne
                have hBx := hBn
                change wpAnyH _ _ _ _ _ _ _ _ (t2.alloc (.cells (pmL .zero).toArray 26))
                rw [hY, hga]
                clear hY hga hBn
                refine wpAnyH_ready (rs := [6]) (by kernel_rfl) (by simp) ?_
                refine AllReadyH.cons rfl (fun K hK => ?_) AllReadyH.nil
                refine step_append_at (by rfl) (.tmp 119) (.tmp 122) 29 rfl wz.heap.size 5 i0 Try.underlying29 hi hz0 hz1 hz2 _ (turnS p xs kk) (by rfl) hO _ dA dn dc (rowS p xs 4) (by rfl) ((hinz.below hBx).more hBx.size) hlen2 hBx.size ?_
                intro v4 t4 hOn hgn hvn
                have hBn := grown_below hO hgn hBx hBx.size
                refine hK.out _ _ (HSK.out _ hBn) (fun hHeld => ?_)
                clear hK K
                have hAn := hAx.kept (Kept.of_grown (S := fun q => v2.ownBlock = some q) hgn (fun k hk => .inl hk)) (fun e => hne _ e rfl)
                have hnn : ∀ q, v4.ownBlock = some q → q ≠ ga := fun q hq => by
                  rcases hvn with h | h
                  · rw [h] at hq; exact hne q hq
                  · rw [h] at hq; injection hq with hq; have := hAx.lt; omega
                have hAx := hAn
                have hne := hnn
                clear hAn hnn
                have hO := hOn
                have hBx := hBn
                clear hOn hBn hgn hvn
                obtain ⟨A2, c2, rfl, hl2, hm2, hr2⟩ := hO.open_n n2 hn2.out
                have hnil2 := hO.nil_cap
                refine wpAnyH_ready (rs := [7]) (by kernel_rfl) (by simp) ?_
                refine AllReadyH.cons rfl (fun K hK => ?_) AllReadyH.nil
                go_simp
                go_wp2_with (go_at_call 16; refine (pdec_any A2 n2 c2 _ _ hr2 hn2b hnil2).mono ?_; intro e t5 hpost; unfold PdecPost at hpost; rw [HDN.out] at hpost; obtain ⟨rfl, hbn⟩ := hpost)
                have hBn := hBx.trans (hbn.mono hBx.size)
                refine hK.out _ _ (HSK.out _ hBn) (fun hHeld => ?_)
                clear hK K
                have hAx := hAx.of_below hbn
                have hBx := hBn
                clear hO hBn hbn hr2 hnil2
                have hHeldN := HSK.out _ hBx
                refine tk_dst (i := 8) (dst := some 116) rfl rfl (by kernel_rfl) (by kernel_rfl) (by kernel_rfl) (fun _ _ _ h => h) (v := ?_) (Or.inl ⟨by rfl, ?_⟩) (by assumption) ?_
                rotate_left
                · intro w hSw; (try dsimp only at hSw); go_simp; first | done | (with_reducible rfl)
                simp only [Act.put, List.setIfInBounds_toArray, List.set_cons_zero, List.set_cons_succ]
                refine tk_dst (i := 9) (dst := some 125) rfl rfl (by kernel_rfl) (by kernel_rfl) (by kernel_rfl) (fun _ _ _ h => h) (v := ?_) (Or.inl ⟨by rfl, ?_⟩) (by assumption) ?_
                rotate_left
                · intro w hSw; (try dsimp only at hSw); go_simp; first | done | (with_reducible rfl)
                simp only [Act.put, List.setIfInBounds_toArray, List.set_cons_zero, List.set_cons_succ]
                refine tk_dst (i := 10) (dst := some 126) rfl rfl (by kernel_rfl) (by kernel_rfl) (by kernel_rfl) (fun _ _ _ h => h) (v := ?_) (Or.inl ⟨by rfl, ?_⟩) (by assumption) ?_
                rotate_left
                · intro w hSw; (try dsimp only at hSw); go_simp; first | done | (with_reducible rfl)
                simp only [Act.put, List.setIfInBounds_toArray, List.set_cons_zero, List.set_cons_succ]
                refine wpAnyH_ready (rs := [12]) (by kernel_rfl) (by simp) ?_
                refine AllReadyH.cons rfl (fun K hK => ?_) AllReadyH.nil
                refine step_st_any (by rfl) ga 26 (pmL .zero) (pmL .zero) (by rfl) (by rfl) hAx (by rfl) pm_info (by rfl) ?_
                intro u1 hAs hks
                have hBs := hks.below hBx hBx.size (fun q hq => by omega)
                refine hK.out _ _ (HSK.out _ hBs) (fun hHeld => ?_)
                clear hK K
                have hHeldM := HSK.out _ hBs
                refine tk_dst (i := 13) (dst := some 27) rfl rfl (by kernel_rfl) (by kernel_rfl) (by kernel_rfl) (fun _ _ _ h => h) (v := ?_) (Or.inl ⟨by rfl, ?_⟩) (by assumption) ?_
                rotate_left
                · intro w hSw; (try dsimp only at hSw); go_simp; first | done | (with_reducible rfl)
                simp only [Act.put, List.setIfInBounds_toArray, List.set_cons_zero, List.set_cons_succ]
                refine wpAnyH_done (by kernel_rfl) ?_ _
                have hBe := hBz.trans (hBs.mono hBz.size)
                clear HSK hAx hBx hAs hks hBs HDN HDY
                go_wp2_with fail
                refine (paknown_any _).mono ?_
                rintro e u2 ⟨rfl, hbu⟩
                go_wp2_with fail
                go_ret
                exact ⟨rfl, hBe.trans (hbu.mono hBe.size)⟩
            · go_simp
              have hBn : Below wz.heap.size wz (t1.alloc (.cells (pmL .zero).toArray 26)) := hBx.alloc hBx.size _
              refine hK.out _ _ (HSK.out _ hBn) (fun hHeld => ?_)
              clear hK K
              have hne : ∀ q, (Value.slice (some ⟨wz.heap.size, 0, none⟩) 0 0).ownBlock = some q → q ≠ t1.heap.size := fun q hq => by have := (hO.block_lt q hq).2; omega
              have hO := hO.alloc (.cells (pmL .zero).toArray 26)
              have hAx := At.new t1 26 (pmL .zero)
              obtain ⟨ga, hga⟩ : ∃ x, t1.heap.size = x := ⟨_, rfl⟩
              obtain ⟨t2, hY⟩ : ∃ x, t1.alloc (.cells (pmL .zero).toArray 26) = x := ⟨_, rfl⟩
              rw [hY, hga] at hAx
              have hgaz : wz.heap.size ≤ ga := by rw [← hga]; exact hBx.size
              rw [hY] at hBn
              rw [hY] at hO
              rw [hga] at hne
              have hBx := hBn
              change wpAnyH _ _ _ _ _ _ _ _ (t1.alloc (.cells (pmL .zero).toArray 26))
              rw [hY, hga]
              clear hY hga hBn
              refine wpAnyH_ready (rs := [2]) (by kernel_rfl) (by simp) ?_
              refine AllReadyH.cons rfl (fun K hK => ?_) AllReadyH.nil
              refine step_append_at (by rfl) (.tmp 117) (.tmp 118) 29 rfl wz.heap.size 5 i0 Try.underlying29 hi hz0 hz1 hz2 _ [] (by rfl) hO _ aA an ac (turnS p xs kk) (by rfl) ((hrz.below hBx).more hBx.size) hlen1 hBx.size ?_
              intro v3 t3 hOn hgn hvn
              have hBn := grown_below hO hgn hBx hBx.size
              refine hK.out _ _ (HSK.out _ hBn) (fun hHeld => ?_)
              clear hK K
              have hAn := hAx.kept (Kept.of_grown (S := fun q => (Value.slice (some ⟨wz.heap.size, 0, none⟩) 0 0).ownBlock = some q) hgn (fun k hk => .inl hk)) (fun e => hne _ e rfl)
              have hnn : ∀ q, v3.ownBlock = some q → q ≠ ga := fun q hq => by
                rcases hvn with h | h
                · rw [h] at hq; exact hne q hq
                · rw [h] at hq; injection hq with hq; have := hAx.lt; omega
              have hAx := hAn
              have hne := hnn
              clear hAn hnn
              have hO := hOn
              have hBx := hBn
              clear hOn hBn hgn hvn
              rw [List.nil_append] at hO
              refine wpAnyH_ready (rs := [6]) (by kernel_rfl) (by simp) ?_
              refine AllReadyH.cons rfl (fun K hK => ?_) AllReadyH.nil
              refine step_append_at (by rfl) (.tmp 119) (.tmp 122) 29 rfl wz.heap.size 5 i0 Try.underlying29 hi hz0 hz1 hz2 _ (turnS p xs kk) (by rfl) hO _ dA dn dc (rowS p xs 4) (by rfl) ((hinz.below hBx).more hBx.size) hlen2 hBx.size ?_
              intro v4 t4 hOn hgn hvn
              have hBn := grown_below hO hgn hBx hBx.size
              refine hK.out _ _ (HSK.out _ hBn) (fun hHeld => ?_)
              clear hK K
              have hAn := hAx.kept (Kept.of_grown (S := fun q => v3.ownBlock = some q) hgn (fun k hk => .inl hk)) (fun e => hne _ e rfl)
              have hnn : ∀ q, v4.ownBlock = some q → q ≠ ga := fun q hq => by
                rcases hvn with h | h
                · rw [h] at hq; exact hne q hq
                · rw [h] at hq; injection hq with hq; have := hAx.lt; omega
              have hAx := hAn
              have hne := hnn
              clear hAn hnn
              have hO := hOn
              have hBx := hBn
              clear hOn hBn hgn hvn
              obtain ⟨A2, c2, rfl, hl2, hm2, hr2⟩ := hO.open_n n2 hn2.out
              have hnil2 := hO.nil_cap
              refine wpAnyH_ready (rs := [7]) (by kernel_rfl) (by simp) ?_
              refine AllReadyH.cons rfl (fun K hK => ?_) AllReadyH.nil
              go_simp
              go_wp2_with (go_at_call 16; refine (pdec_any A2 n2 c2 _ _ hr2 hn2b hnil2).mono ?_; intro e t5 hpost; unfold PdecPost at hpost; rw [HDN.out] at hpost; obtain ⟨rfl, hbn⟩ := hpost)
              have hBn := hBx.trans (hbn.mono hBx.size)
              refine hK.out _ _ (HSK.out _ hBn) (fun hHeld => ?_)
              clear hK K
              have hAx := hAx.of_below hbn
              have hBx := hBn
              clear hO hBn hbn hr2 hnil2
              have hHeldN := HSK.out _ hBx
              refine tk_dst (i := 8) (dst := some 116) rfl rfl (by kernel_rfl) (by kernel_rfl) (by kernel_rfl) (fun _ _ _ h => h) (v := ?_) (Or.inl ⟨by rfl, ?_⟩) (by assumption) ?_
              rotate_left
              · intro w hSw; (try dsimp only at hSw); go_simp; first | done | (with_reducible rfl)
              simp only [Act.put, List.setIfInBounds_toArray, List.set_cons_zero, List.set_cons_succ]
              refine tk_dst (i := 9) (dst := some 125) rfl rfl (by kernel_rfl) (by kernel_rfl) (by kernel_rfl) (fun _ _ _ h => h) (v := ?_) (Or.inl ⟨by rfl, ?_⟩) (by assumption) ?_
              rotate_left
              · intro w hSw; (try dsimp only at hSw); go_simp; first | done | (with_reducible rfl)
              simp only [Act.put, List.setIfInBounds_toArray, List.set_cons_zero, List.set_cons_succ]
              refine tk_dst (i := 10) (dst := some 126) rfl rfl (by kernel_rfl) (by kernel_rfl) (by kernel_rfl) (fun _ _ _ h => h) (v := ?_) (Or.inl ⟨by rfl, ?_⟩) (by assumption) ?_
              rotate_left
              · intro w hSw; (try dsimp only at hSw); go_simp; first | done | (with_reducible rfl)
              simp only [Act.put, List.setIfInBounds_toArray, List.set_cons_zero, List.set_cons_succ]
              refine wpAnyH_ready (rs := [12]) (by kernel_rfl) (by simp) ?_
              refine AllReadyH.cons rfl (fun K hK => ?_) AllReadyH.nil
              refine step_st_any (by rfl) ga 26 (pmL .zero) (pmL .zero) (by rfl) (by rfl) hAx (by rfl) pm_info (by rfl) ?_
              intro u1 hAs hks
              have hBs := hks.below hBx hBx.size (fun q hq => by omega)
              refine hK.out _ _ (HSK.out _ hBs) (fun hHeld => ?_)
              clear hK K
              have hHeldM := HSK.out _ hBs
              refine tk_dst (i := 13) (dst := some 27) rfl rfl (by kernel_rfl) (by kernel_rfl) (by kernel_rfl) (fun _ _ _ h => h) (v := ?_) (Or.inl ⟨by rfl, ?_⟩) (by assumption) ?_
              rotate_left
              · intro w hSw; (try dsimp only at hSw); go_simp; first | done | (with_reducible rfl)
              simp only [Act.put, List.setIfInBounds_toArray, List.set_cons_zero, List.set_cons_succ]
              refine wpAnyH_done (by kernel_rfl) ?_ _
              have hBe := hBz.trans (hBs.mono hBz.size)
              clear HSK hAx hBx hAs hks hBs HDN HDY
              go_wp2_with fail
              refine (paknown_any _).mono ?_
              rintro e u2 ⟨rfl, hbu⟩
              go_wp2_with fail
              go_ret
              exact ⟨rfl, hBe.trans (hbu.mono hBe.size)⟩
          · go_simp
            have hBn : Below wz.heap.size wz (wz.alloc (.cells (pmL .zero).toArray 26)) := hBx.alloc hBx.size _
            refine hK.out _ _ (HSK.out _ hBn) (fun hHeld => ?_)
            clear hK K
            have hAx := At.new wz 26 (pmL .zero)
            obtain ⟨ga, hga⟩ : ∃ x, wz.heap.size = x := ⟨_, rfl⟩
            obtain ⟨t1, hY⟩ : ∃ x, wz.alloc (.cells (pmL .zero).toArray 26) = x := ⟨_, rfl⟩
            rw [hY, hga] at hAx
            have hgaz : wz.heap.size ≤ ga := by rw [← hga]; exact hBx.size
            rw [hY] at hBn
            have hBx := hBn
            change wpAnyH _ _ _ _ _ _ _ _ (wz.alloc (.cells (pmL .zero).toArray 26))
            rw [hY, hga]
            clear hY hga hBn
            refine wpAnyH_ready (rs := [0]) (by kernel_rfl) (by simp) ?_
            refine AllReadyH.cons rfl (fun K hK => ?_) AllReadyH.nil
            go_simp
            have hBn : Below wz.heap.size wz (t1.alloc (.cells #[] 5)) := hBx.alloc hBx.size _
            refine hK.out _ _ (HSK.out _ hBn) (fun hHeld => ?_)
            clear hK K
            have hO : Own (t1.alloc (.cells #[] 5)) wz.heap.size 5 (.slice (some ⟨t1.heap.size, 0, none⟩) 0 0) [] := (Own.of_block (n := 0) (cap := 0) Byt.nil rfl (heap_alloc_new t1 _) (Nat.le_refl _) (Nat.le_refl _) (Nat.zero_le _) rfl rfl).base_ hBx.size
            have hne : ∀ q, (Value.slice (some ⟨t1.heap.size, 0, none⟩) 0 0).ownBlock = some q → q ≠ ga := fun q hq => by have := hAx.lt; simp [Value.ownBlock] at hq; omega
            have hAx := hAx.alloc (.cells #[] 5)
            obtain ⟨t2, hY⟩ : ∃ x, t1.alloc (.cells #[] 5) = x := ⟨_, rfl⟩
            rw [hY] at hO
            rw [hY] at hBn
            rw [hY] at hAx
            have hBx := hBn
            rw [hY]
            clear hY hBn
            refine wpAnyH_ready (rs := [2]) (by kernel_rfl) (by simp) ?_
            refine AllReadyH.cons rfl (fun K hK => ?_) AllReadyH.nil
            refine step_append_at (by rfl) (.tmp 117) (.tmp 118) 29 rfl wz.heap.size 5 i0 Try.underlying29 hi hz0 hz1 hz2 _ [] (by rfl) hO _ aA an ac (turnS p xs kk) (by rfl) ((hrz.below hBx).more hBx.size) hlen1 hBx.size ?_
            intro v3 t3 hOn hgn hvn
            have hBn := grown_below hO hgn hBx hBx.size
            refine hK.out _ _ (HSK.out _ hBn) (fun hHeld => ?_)
            clear hK K
            have hAn := hAx.kept (Kept.of_grown (S := fun q => (Value.slice (some ⟨t1.heap.size, 0, none⟩) 0 0).ownBlock = some q) hgn (fun k hk => .inl hk)) (fun e => hne _ e rfl)
            have hnn : ∀ q, v3.ownBlock = some q → q ≠ ga := fun q hq => by
              rcases hvn with h | h
              · rw [h] at hq; exact hne q hq
              · rw [h] at hq; injection hq with hq; have := hAx.lt; omega
            have hAx := hAn
            have hne := hnn
            clear hAn hnn
            have hO := hOn
            have hBx := hBn
            clear hOn hBn hgn hvn
            rw [List.nil_append] at hO
            refine wpAnyH_ready (rs := [6]) (by kernel_rfl) (by simp) ?_
            refine AllReadyH.cons rfl (fun K hK => ?_) AllReadyH.nil
            refine step_append_at (by rfl) (.tmp 119) (.tmp 122) 29 rfl wz.heap.size 5 i0 Try.underlying29 hi hz0 hz1 hz2 _ (turnS p xs kk) (by rfl) hO _ dA dn dc (rowS p xs 4) (by rfl) ((hinz.below hBx).more hBx.size) hlen2 hBx.size ?_
            intro v4 t4 hOn hgn hvn
            have hBn := grown_below hO hgn hBx hBx.size
            refine hK.out _ _ (HSK.out _ hBn) (fun hHeld => ?_)
            clear hK K
            have hAn := hAx.kept (Kept.of_grown (S := fun q => v3.ownBlock = some q) hgn (fun k hk => .inl hk)) (fun e => hne _ e rfl)
            have hnn : ∀ q, v4.ownBlock = some q → q ≠ ga := fun q hq => by
              rcases hvn with h | h
              · rw [h] at hq; exact hne q hq
              · rw [h] at hq; injection hq with hq; have := hAx.lt; omega
            have hAx := hAn
            have hne := hnn
            clear hAn hnn
            have hO := hOn
            have hBx := hBn
            clear hOn hBn hgn hvn
            obtain ⟨A2, c2, rfl, hl2, hm2, hr2⟩ := hO.open_n n2 hn2.out
            have hnil2 := hO.nil_cap
            refine wpAnyH_ready (rs := [7]) (by kernel_rfl) (by simp) ?_
            refine AllReadyH.cons rfl (fun K hK => ?_) AllReadyH.nil
            go_simp
            go_wp2_with (go_at_call 16; refine (pdec_any A2 n2 c2 _ _ hr2 hn2b hnil2).mono ?_; intro e t5 hpost; unfold PdecPost at hpost; rw [HDN.out] at hpost; obtain ⟨rfl, hbn⟩ := hpost)
            have hBn := hBx.trans (hbn.mono hBx.size)
            refine hK.out _ _ (HSK.out _ hBn) (fun hHeld => ?_)
            clear hK K
            have hAx := hAx.of_below hbn
            have hBx := hBn
            clear hO hBn hbn hr2 hnil2
            have hHeldN := HSK.out _ hBx
            refine tk_dst (i := 8) (dst := some 116) rfl rfl (by kernel_rfl) (by kernel_rfl) (by kernel_rfl) (fun _ _ _ h => h) (v := ?_) (Or.inl ⟨by rfl, ?_⟩) (by assumption) ?_
            rotate_left
            · intro w hSw; (try dsimp only at hSw); go_simp; first | done | (with_reducible rfl)
            simp only [Act.put, List.setIfInBounds_toArray, List.set_cons_zero, List.set_cons_succ]
            refine tk_dst (i := 9) (dst := some 125) rfl rfl (by kernel_rfl) (by kernel_rfl) (by kernel_rfl) (fun _ _ _ h => h) (v := ?_) (Or.inl ⟨by rfl, ?_⟩) (by assumption) ?_
            rotate_left
            · intro w hSw; (try dsimp only at hSw); go_simp; first | done | (with_reducible rfl)
            simp only [Act.put, List.setIfInBounds_toArray, List.set_cons_zero, List.set_cons_succ]
            refine tk_dst (i := 10) (dst := some 126) rfl rfl (by kernel_rfl) (by kernel_rfl) (by kernel_rfl) (fun _ _ _ h => h) (v := ?_) (Or.inl ⟨by rfl, ?_⟩) (by assumption) ?_
            rotate_left
            · intro w hSw; (try dsimp only at hSw); go_simp; first | done | (with_reducible rfl)
            simp only [Act.put, List.setIfInBounds_toArray, List.set_cons_zero, List.set_cons_succ]
            refine wpAnyH_ready (rs := [12]) (by kernel_rfl) (by simp) ?_
            refine AllReadyH.cons rfl (fun K hK => ?_) AllReadyH.nil
            refine step_st_any (by rfl) ga 26 (pmL .zero) (pmL .zero) (by rfl) (by rfl) hAx (by rfl) pm_info (by rfl) ?_
            intro u1 hAs hks
            have hBs := hks.below hBx hBx.size (fun q hq => by omega)
            refine hK.out _ _ (HSK.out _ hBs) (fun hHeld => ?_)
            clear hK K
            have hHeldM := HSK.out _ hBs
            refine tk_dst (i := 13) (dst := some 27) rfl rfl (by kernel_rfl) (by kernel_rfl) (by kernel_rfl) (fun _ _ _ h => h) (v := ?_) (Or.inl ⟨by rfl, ?_⟩) (by assumption) ?_
            rotate_left
            · intro w hSw; (try dsimp only at hSw); go_simp; first | done | (with_reducible rfl)
            simp only [Act.put, List.setIfInBounds_toArray, List.set_cons_zero, List.set_cons_succ]
            refine wpAnyH_done (by kernel_rfl) ?_ _
            have hBe := hBz.trans (hBs.mono hBz.size)
            clear HSK hAx hBx hAs hks hBs HDN HDY
            go_wp2_with fail
            refine (paknown_any _).mono ?_
            rintro e u2 ⟨rfl, hbu⟩
            go_wp2_with fail
            go_ret
            exact ⟨rfl, hBe.trans (hbu.mono hBe.size)⟩
theorem porder_law (a b c d n turn : Int) (A6 : Option Addr) (n6 c6 : Nat) (bs6 : List Int) (w : World) (ha : (Lit.int .u64 a).wf = true) (hb : (Lit.int .u64 b).wf = true) (hc : (Lit.int .u64 c).wf = true) (hd : (Lit.int .u64 d).wf = true) (hn : (Lit.int .i64 n).wf = true) (ht : (Lit.int .i64 turn).wf = true)
    (h6 : InRow w A6 n6 c6 bs6) :
    Calls Try.prog 6 #[.int .u64 a, .int .u64 b, .int .u64 c, .int .u64 d, .int .i64 n, .int .i64 turn, .slice A6 n6 c6] w fun e w'' => e = .returned (.bool true) ∧ Below w.heap.size w w'' :=
  porder_walk a b c d n turn A6 n6 c6 bs6 w (bounds_u64 ha) (bounds_u64 hb) (bounds_u64 hc) (bounds_u64 hd) (bounds_i64 hn) (bounds_i64 ht) h6
end Go.Proofs.Ythpcfcnkpipmnaa
