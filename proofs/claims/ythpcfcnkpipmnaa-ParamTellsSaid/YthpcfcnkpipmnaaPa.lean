/-
  ParamTells: params are written and read as the document says, for any; their own bytes with one turned, any bytes.
-/
import Derived.Test.YthpcfcnkpipmnaaPb
import Derived.Test.YthpcfcnkpipmnaaPlace
namespace Go.Proofs.Ythpcfcnkpipmnaa
set_option linter.unusedVariables false
set_option linter.unusedSimpArgs false
open Go.RowKit Go.ChangeShapes Go.WideShapes Go.Deep
set_option maxRecDepth 100000 in
set_option maxHeartbeats 4000000 in
theorem ptells_walk (a b c d n : Int) (raw : PN) (A6 : Option Addr) (n6 c6 : Nat) (bs6 : List Int) (aat turn : Int) (w : World) (ba : 0 ≤ a ∧ a ≤ 18446744073709551615) (bb : 0 ≤ b ∧ b ≤ 18446744073709551615) (bc : 0 ≤ c ∧ c ≤ 18446744073709551615) (bd : 0 ≤ d ∧ d ≤ 18446744073709551615) (bn : -9223372036854775808 ≤ n ∧ n ≤ 9223372036854775807)
    (hraw : raw.wf) (h6 : InRow w A6 n6 c6 bs6) (bt : -9223372036854775808 ≤ aat ∧ aat ≤ 9223372036854775807) (htu : 0 ≤ turn ∧ turn < 256) :
    Calls Try.prog 4 #[.int .u64 a, .int .u64 b, .int .u64 c, .int .u64 d, .int .i64 n, pmV raw, .slice A6 n6 c6, .int .i64 aat, .int .u8 turn] w fun e w'' => e = .returned (.bool true) ∧ Below w.heap.size w w'' := by
  obtain ⟨i0, hi, hz0, hz1, hz2⟩ := info_parts u8_info
  have hB0 : Below w.heap.size w (w.alloc (.cells (pmL raw).toArray 26)) := (Below.refl _ _).alloc (Nat.le_refl _) _
  have hX : At (w.alloc (.cells (pmL raw).toArray 26)) w.heap.size 26 (pmL raw) := At.new w _ _
  have hD := h6.inDl.below_ hB0
  have hkp := Lib.hid (kparams_any a b c d n (w.alloc (.cells (pmL raw).toArray 26)) (by omega) (by omega) (by omega) (by omega) bn.1 bn.2)
  have hwf := kpS_wf a b c d n
  have hrt := kpS_right a b c d n
  obtain ⟨p, hp⟩ : ∃ x, kpS a b c d n = x := ⟨_, rfl⟩
  rw [hp] at hkp hwf hrt
  obtain ⟨l1, l2⟩ := penc_len p
  have hen := fun W => rpenc_any p W hwf hrt
  have hes := fun W => pencs_any p W hwf
  have her := fun W => pencs_any raw W hraw
  obtain ⟨E, hE⟩ : ∃ x, pencS p = x := ⟨_, rfl⟩
  rw [hE] at l1 l2 hen
  obtain ⟨N, hN⟩ : ∃ x, E.length = x := ⟨_, rfl⟩
  rw [hN] at l1 l2
  obtain ⟨L, hL⟩ : ∃ L, pmL p = L := ⟨_, rfl⟩
  have hLl : L.length = 12 := by rw [← hL]; rfl
  have hLo : L.all (·.oneCell') = true := by rw [← hL]; rfl
  have hLv : pmV p = .agg L.toArray := by rw [← hL]; rfl
  obtain ⟨M, hM⟩ : ∃ M, pmL raw = M := ⟨_, rfl⟩
  have hMl : M.length = 12 := by rw [← hM]; rfl
  have hMv : pmV raw = .agg M.toArray := by rw [← hM]; rfl
  rw [hLv] at hkp hen hes
  rw [hMv] at her ⊢
  rw [hM] at hB0 hX hD hkp
  have HCW := Lib.hid (fun (hi : Int) (h0 : 0 ≤ hi) (h1 : hi ≤ 4611686018427387902) W' => within_any aat 0 hi W' bt.1 bt.2 (by decide) h0 h1)
  have HLl := Lib.hid hLl
  have HLo := Lib.hid hLo
  have HMl := Lib.hid hMl
  have HEN := Lib.hid hen
  have HES := Lib.hid hes
  have HER := Lib.hid her
  have HN := Lib.hid hN
  have KN := Lib.hid paknown_any
  have hwin := withinS_bd aat 0 ((N : Int) - 1) (by omega)
  obtain ⟨qq, hqq⟩ : ∃ q, withinS aat 0 ((N : Int) - 1) = q := ⟨_, rfl⟩
  have HC2 := Lib.hid (fun W' => HCW.out ((N : Int) - 1) (by omega) (by omega) W')
  rw [hqq] at HC2 hwin
  obtain ⟨q, rfl⟩ := Int.eq_ofNat_of_zero_le (show 0 ≤ qq by omega)
  have hq : q < N := by omega
  clear hp hE hN hL hLl hLo hLv hM hMl hMv hen hes her hwf hrt ba bb bc bd bn bt hraw h6 hqq HCW
  go_enter Try.func4, Try.ntmps4
  go_wp2_with fail
  refine (hkp.out).mono ?_
  rintro e w1 ⟨rfl, hb1⟩
  have hX1 := hX.of_below hb1
  have hD1 := hD.below_ hb1
  have hB1 := hB0.trans (hb1.mono hB0.size)
  have hG2 := At.new w1 26 L
  have hb2 : Below w1.heap.size w1 (w1.alloc (.cells L.toArray 26)) := (Below.refl _ _).alloc (Nat.le_refl _) _
  obtain ⟨w2, hw2⟩ : ∃ x, w1.alloc (.cells L.toArray 26) = x := ⟨_, rfl⟩
  rw [hw2] at hG2 hb2
  have hX2 := hX1.of_below hb2
  have hD2 := hD1.below_ hb2
  have hB2 := hB1.trans (hb2.mono hB1.size)
  obtain ⟨g1, hg1⟩ : ∃ x, w1.heap.size = x := ⟨_, rfl⟩
  have hg1b : w.heap.size < g1 := by rw [← hg1]; exact hX1.lt
  rw [hg1] at hG2
  have hzl2 := hG2.lt
  clear hb1 hkp hX hD hB0 hX1 hD1 hB1 hb2
  go_wp2_with (first | ((with_reducible refine at_stp (x := .tmp 19) ?_); refine wpList_store_top w1 26 (pmL .zero) L (by rfl) _ (by rfl) hg1.symm (by rfl) (by rw [HLl.out]; rfl) (by rw [HLl.out]; exact pm_info) HLo.out ?_; rw [hw2]; clear hw2) | ((with_reducible refine at_ldp (x := .tmp 19) ?_); refine ld_pm_g (by rfl) g1 0 L (by rfl) hG2.rangeAt HLl.out ?_) | fail)
  refine (HEN.out _).mono ?_
  rintro e w5 ⟨v5, rfl, hown5, hb5⟩
  have hl5 : E.length = N := HN.out
  obtain ⟨g15, c15, l15, rfl, hA15, hl15, htk15, hbg15, hnc15, hcm15⟩ := hown5.place (by rw [hl5]; exact l1)
  rw [hl5] at hnc15 ⊢
  have hc15 := hcm15
  unfold maxLen at hc15
  have hG5 := hG2.of_below hb5
  have hX5 := hX2.of_below hb5
  have hD5 := hD2.below_ hb5
  have hB5 := hB2.trans (hb5.mono hB2.size)
  have hX2l := hX2.lt
  have hby := hown5.byt
  obtain ⟨xq, hxq⟩ : ∃ x, E[q]? = some x := ⟨_, List.getElem?_eq_getElem (by rw [hl5]; exact hq)⟩
  have hxb := hby xq (List.mem_of_getElem? hxq)
  obtain ⟨z0, z1⟩ := b_xor xq turn hxb.1 hxb.2 htu.1 htu.2
  obtain ⟨Z, hZ⟩ : ∃ z, bits BinOp.xor IntKind.u8 xq turn = z := ⟨_, rfl⟩
  rw [hZ] at z0 z1
  have y0 := place_cell hA15 htk15 q xq hxq
  have fy := hA15.frozen q
  have hwrap : IntKind.i64.wrap ((N : Int) - 1) = (N : Int) - 1 := IntWalk.i64_in _ (by omega)
  have hYo := place_set hA15 hl15 htk15 hby hbg15 (by rw [hl5]; exact hnc15) hcm15 q Z ⟨z0, z1⟩
  have hk6 : Kept (· = g15) w5 (w5.setCell ⟨g15, q, none⟩ (.int .u8 Z)) := (Kept.refl _ _).setAt _ _
  have hB5s := hB5.size
  have hG6 := hG5.kept hk6 (by omega)
  have hX6 := hX5.kept hk6 (by omega)
  have hD6 := hD5.kept hk6 (fun b hb e => by omega)
  have hB6 := hk6.below hB5 hB5.size (fun j hj => by omega)
  clear hwin hG2 hX2 hD2 hB2 hG5 hX5 hD5 hB5 hb5 hk6 hown5
  go_wp2_with fail
  refine (HC2.out _).mono ?_
  rintro e w' ⟨rfl, rfl⟩
  obtain ⟨w6, hw6⟩ : ∃ x, w5.setCell ⟨g15, q, none⟩ (.int .u8 Z) = x := ⟨_, rfl⟩
  rw [hw6] at hYo hG6 hX6 hD6 hB6
  obtain ⟨_, _, ey, _, _, hry⟩ := hYo.open_n N (by rw [List.length_set]; exact hl5)
  injection ey with eya eyb eyc
  subst eya; subst eyc
  clear hYo
  go_wp2_with (first | ((with_reducible refine at_ldp (x := .tmp 19) ?_); refine ld_pm_g (by rfl) g1 0 L (by rfl) hG6.rangeAt HLl.out ?_) | fail)
  refine (HES.out w6).mono ?_
  rintro e w7 ⟨rfl, hb7⟩
  have hB7 := hB6.trans (hb7.mono hB6.size)
  have hG7 := hG6.of_below hb7
  have hX7 := hX6.of_below hb7
  have hD7 := hD6.below_ hb7
  have hry7 := (hry.below hb7).more hb7.size
  clear hB6 hG6 hX6 hD6 hb7 hry
  go_wp2_with (first | ((with_reducible refine at_ldp (x := .tmp 14) ?_); refine ld_pm_g (by rfl) w.heap.size 0 M (by rfl) hX7.rangeAt HMl.out ?_) | fail)
  refine (HER.out w7).mono ?_
  rintro e w8 ⟨rfl, hb8⟩
  have hB8 := hB7.trans (hb8.mono hB7.size)
  have hG8 := hG7.of_below hb8
  have hD8 := hD7.below_ hb8
  have hry8 := (hry7.below hb8).more hb8.size
  clear hB7 hG7 hX7 hD7 hb8 hry7
  go_wp2_with fail
  refine (pdecs_any _ N _ _ w8 ⟨hry8, by omega, hcm15, (fun h => by cases h)⟩ (by omega)).mono ?_
  rintro e w9 ⟨rfl, hb9⟩
  have hB9 := hB8.trans (hb9.mono hB8.size)
  have hG9 := hG8.of_below hb9
  have hD9 := hD8.below_ hb9
  clear hB8 hG8 hD8 hb9 hry8
  go_wp2_with fail
  refine (cut_any A6 n6 c6 60 w9 hD9.lc hD9.cm (by decide) (fun h e => by have h1 : n6 ≤ c6 := hD9.lc; have h2 : c6 = 0 := hD9.nil e; omega)).mono ?_
  rintro e w' ⟨rfl, rfl⟩
  have hcut := hD9.cutTo_ 60
  have hm80 : min n6 60 ≤ 60 := Nat.min_le_right _ _
  obtain ⟨rn, hrn⟩ : ∃ x, min n6 60 = x := ⟨_, rfl⟩
  rw [hrn] at hcut hm80 ⊢
  clear hrn
  go_wp2_with fail
  refine (pdecs_any A6 rn c6 _ w9 ⟨hcut.rd.1, hcut.lc, hcut.cm, hcut.nil⟩ (by omega)).mono ?_
  rintro e w10 ⟨rfl, hb10⟩
  have hB10 := hB9.trans (hb10.mono hB9.size)
  have hG10 := hG9.of_below hb10
  have hD10 := hD9.below_ hb10
  clear hB9 hG9 hD9 hb10 hcut hm80
  go_wp2_with (first | ((with_reducible refine at_ldp (x := .tmp 19) ?_); refine ld_pm_g (by rfl) g1 0 L (by rfl) hG10.rangeAt HLl.out ?_) | fail)
  refine (HEN.out w10).mono ?_
  rintro e w11 ⟨v11, rfl, hown11, hb11⟩
  have hB11 := hB10.trans (hb11.mono hB10.size)
  have hD11 := hD10.below_ hb11
  have hs11 := hb11.size
  have hs10 := hB10.size
  clear hB10 hG10 hD10
  go_wp2_with fail
  refine (cut_any A6 n6 c6 9 w11 hD11.lc hD11.cm (by decide) (fun h e => by have h1 : n6 ≤ c6 := hD11.lc; have h2 : c6 = 0 := hD11.nil e; omega)).mono ?_
  rintro e w' ⟨rfl, rfl⟩
  have hcut := hD11.cutTo_ 9
  have hm9 : min n6 9 ≤ 9 := Nat.min_le_right _ _
  obtain ⟨sn, hsn⟩ : ∃ x, min n6 9 = x := ⟨_, rfl⟩
  rw [hsn] at hcut hm9 ⊢
  have hln : (bs6.take sn).length = sn := hcut.rd.1.1
  clear hsn
  go_wp2_with (first | (at_builtin; refine wpList_append_at_g (by rfl) (.tmp 57) (.tmp 59) 29 rfl w10.heap.size 5 i0 Try.underlying29 hi hz0 hz1 hz2 _ E rfl hown11 _ A6 sn c6 _ rfl hcut.rd.1 (by rw [HN.out]; omega) hs11 ?_; intro v12 w12 hown12 hgr12 hv12) | fail)
  have hb12 : Below w.heap.size w w12 := (Kept.of_grown (S := fun j => w10.heap.size ≤ j) hgr12 (fun k hk => .inl (hown11.block_lt k hk).1)).below hB11 hB11.size (fun j hj => by omega)
  obtain ⟨nq, hnq⟩ : ∃ k, (E ++ bs6.take sn).length = k := ⟨_, rfl⟩
  have hnqb : nq ≤ 1000 := by rw [← hnq, List.length_append, HN.out, hln]; omega
  obtain ⟨A12, c12, rfl, hl12, hm12, hr12⟩ := hown12.open_n nq hnq
  have hnil12 := hown12.nil_cap
  clear hnq
  go_wp2_with fail
  refine (pdecs_any A12 nq c12 _ w12 ⟨hr12, hl12, hm12, hnil12⟩ (by omega)).mono ?_
  rintro e w13 ⟨rfl, hb13⟩
  have hB13 := hb12.trans (hb13.mono hb12.size)
  go_wp2_with fail
  refine (KN.out _).mono ?_
  rintro e w14 ⟨rfl, hb14⟩
  go_wp2_with fail
  go_ret
  exact ⟨rfl, hB13.trans (hb14.mono hB13.size)⟩
theorem ptells_law (a b c d n : Int) (raw : PN) (A6 : Option Addr) (n6 c6 : Nat) (bs6 : List Int) (aat turn : Int) (w : World) (ha : (Lit.int .u64 a).wf = true) (hb : (Lit.int .u64 b).wf = true) (hc : (Lit.int .u64 c).wf = true) (hd : (Lit.int .u64 d).wf = true) (hn : (Lit.int .i64 n).wf = true)
    (hraw : raw.wf) (h6 : InRow w A6 n6 c6 bs6) (ht : (Lit.int .i64 aat).wf = true) (htu : (Lit.int .u8 turn).wf = true) :
    Calls Try.prog 4 #[.int .u64 a, .int .u64 b, .int .u64 c, .int .u64 d, .int .i64 n, pmV raw, .slice A6 n6 c6, .int .i64 aat, .int .u8 turn] w fun e w'' => e = .returned (.bool true) ∧ Below w.heap.size w w'' :=
  ptells_walk a b c d n raw A6 n6 c6 bs6 aat turn w (bounds_u64 ha) (bounds_u64 hb) (bounds_u64 hc) (bounds_u64 hd) (bounds_i64 hn) hraw h6 (bounds_i64 ht) (by have := bounds_u8 htu; omega)
section
variable {H : Type} {enc : TypeId × Value → H} {w : World}
theorem pm_of_trod {fuel : Nat} {cs : List Value} {x : DataW H × List MemPlace} (h : DataW.trod enc Try.prog w 0 (fun _ => true) true fuel 26 cs = some x) (hl : cs.length = 12) :
    ∃ m : PN, cs = pmL m ∧ m.wf := by
  have c1 : Try.prog.cellsOf 22 = 1 := by kernel_rfl
  have c8 : Try.prog.cellsOf 24 = 8 := by kernel_rfl
  obtain ⟨ys, n', _, _, hlen, hyl, hf⟩ := DataW.trod_struct Try.underlying26 h
  match cs, hl with
  | [u0, u1, u2, u3, a0, a1, a2, a3, a4, a5, a6, a7], _ =>
    match ys, hyl with
    | [y0, y1, y2, y3, y4], _ =>
      have h0 : DataW.trod enc Try.prog w 0 (fun _ => true) true n' 22 (([u0, u1, u2, u3, a0, a1, a2, a3, a4, a5, a6, a7].drop 0).take (Try.prog.cellsOf 22)) = some y0 := hf 0 _ rfl
      have h1 : DataW.trod enc Try.prog w 0 (fun _ => true) true n' 22 (([u0, u1, u2, u3, a0, a1, a2, a3, a4, a5, a6, a7].drop 1).take (Try.prog.cellsOf 22)) = some y1 := hf 1 _ rfl
      have h2 : DataW.trod enc Try.prog w 0 (fun _ => true) true n' 22 (([u0, u1, u2, u3, a0, a1, a2, a3, a4, a5, a6, a7].drop 2).take (Try.prog.cellsOf 22)) = some y2 := hf 2 _ rfl
      have h3 : DataW.trod enc Try.prog w 0 (fun _ => true) true n' 22 (([u0, u1, u2, u3, a0, a1, a2, a3, a4, a5, a6, a7].drop 3).take (Try.prog.cellsOf 22)) = some y3 := hf 3 _ rfl
      have h4 : DataW.trod enc Try.prog w 0 (fun _ => true) true n' 24 (([u0, u1, u2, u3, a0, a1, a2, a3, a4, a5, a6, a7].drop 4).take (Try.prog.cellsOf 24)) = some y4 := hf 4 _ rfl
      rw [c1] at h0 h1 h2 h3
      rw [c8] at h4
      obtain ⟨k0, e0, _, w0⟩ := DataW.trod_int Try.underlying22 h0
      obtain ⟨k1, e1, _, w1⟩ := DataW.trod_int Try.underlying22 h1
      obtain ⟨k2, e2, _, w2⟩ := DataW.trod_int Try.underlying22 h2
      obtain ⟨k3, e3, _, w3⟩ := DataW.trod_int Try.underlying22 h3
      obtain ⟨f, e4, bf⟩ := cid_of_trod h4 rfl
      obtain rfl : u0 = .int .u64 k0 := by simpa using e0
      obtain rfl : u1 = .int .u64 k1 := by simpa using e1
      obtain rfl : u2 = .int .u64 k2 := by simpa using e2
      obtain rfl : u3 = .int .u64 k3 := by simpa using e3
      have e4' : [a0, a1, a2, a3, a4, a5, a6, a7] = f.l.map (Value.int .u8) := e4
      simp only [N8.l, List.map_cons, List.map_nil, List.cons.injEq] at e4'
      obtain ⟨rfl, rfl, rfl, rfl, rfl, rfl, rfl, rfl, _⟩ := e4'
      have q0 := bounds_u64 w0
      have q1 := bounds_u64 w1
      have q2 := bounds_u64 w2
      have q3 := bounds_u64 w3
      exact ⟨⟨k0, k1, k2, k3, f⟩, rfl, ⟨q0.1, by show k0 < _; omega, q1.1, by show k1 < _; omega, q2.1, by show k2 < _; omega, q3.1, by show k3 < _; omega, bf⟩⟩
end
end Go.Proofs.Ythpcfcnkpipmnaa
