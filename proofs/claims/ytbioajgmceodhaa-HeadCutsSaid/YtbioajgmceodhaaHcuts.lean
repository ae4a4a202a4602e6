/-
  HeadCuts: a head that is cut off is none; with another first bit, or another version, neither.
-/
import Derived.Test.YtbioajgmceodhaaHcutm
namespace Go.Proofs.Ytbioajgmceodhaa
set_option linter.unusedVariables false
set_option linter.unusedSimpArgs false
open Go.RowKit
set_option maxRecDepth 100000 in
theorem nat_andnot64 : ∀ n : Fin 256, n.val / 64 % 2 = 1 → bits BinOp.andNot IntKind.u8 (n.val : Int) 64 = (n.val : Int) - 64 := by decide
theorem b_andnot64 (x : Int) (h0 : 0 ≤ x) (h1 : x < 256) (h : x / 64 % 2 = 1) : bits BinOp.andNot IntKind.u8 x 64 = x - 64 := by
  obtain ⟨n, rfl⟩ := Int.eq_ofNat_of_zero_le h0
  exact nat_andnot64 ⟨n, by omega⟩ (by show n / 64 % 2 = 1; omega)
set_option maxRecDepth 100000 in
set_option maxHeartbeats 4000000 in
theorem hcuts_walk (S T F W : Int) (tA : Option Addr) (tn tc : Nat) (bs0 : List Int) (ph : Bool) (n cut v : Int) (w : World)
    (hS : -9223372036854775808 ≤ S ∧ S ≤ 9223372036854775807) (hT : -9223372036854775808 ≤ T ∧ T ≤ 9223372036854775807) (hF : -9223372036854775808 ≤ F ∧ F ≤ 9223372036854775807) (hW : -9223372036854775808 ≤ W ∧ W ≤ 9223372036854775807) (ht : InRow w tA tn tc bs0)
    (hn : -9223372036854775808 ≤ n ∧ n ≤ 9223372036854775807) (hcu : -9223372036854775808 ≤ cut ∧ cut ≤ 9223372036854775807) (hv : 0 ≤ v ∧ v < 256) :
    Calls Try.prog 5 #[.agg (xL S T F W ⟨tA, tn, tc⟩ ph).toArray, .int .i64 n, .int .i64 cut, .int .u8 v] w fun e w'' => e = .returned (.bool true) ∧ Below w.heap.size w w'' := by
  obtain ⟨i0, hi, hz0, hz1, hz2⟩ := info_parts u8_info
  have HKH := Lib.hid (fun W' h => khead_any (fun _ => True) S T F W ⟨tA, tn, tc⟩ ph bs0 W' h hS hT hF hW)
  have HWI := Lib.hid (fun W' => within_any n 12 100 W' hn.1 hn.2 (by decide) (by decide) (by decide))
  have hkb := withinS_bd n 12 100 (by decide)
  obtain ⟨kk, hkk⟩ : ∃ k, withinS n 12 100 = k := ⟨_, rfl⟩
  rw [hkk] at HWI hkb
  obtain ⟨k, rfl⟩ := Int.eq_ofNat_of_zero_le (show 0 ≤ kk by omega)
  have hk12 : 12 ≤ k := by omega
  have hk300 : k ≤ 100 := by omega
  have hX := At.new w 24 (xL S T F W ⟨tA, tn, tc⟩ ph)
  have hB0 : Below w.heap.size w (w.alloc (.cells (xL S T F W ⟨tA, tn, tc⟩ ph).toArray 24)) := (Below.refl _ _).alloc (Nat.le_refl _) _
  have HT0 := Lib.hid (ht.inD.below_ hB0)
  have HCW := Lib.hid (fun (hi : Int) (h0 : 0 ≤ hi) (h1 : hi ≤ 4611686018427387902) W' => within_any cut 0 hi W' hcu.1 hcu.2 (by decide) h0 h1)
  clear hkk hkb hS hT hF hW hn ht hcu
  have KN := Lib.hid hknown_any
  go_enter Try.func5, Try.ntmps5
  go_wp2_with (first | ((with_reducible refine at_ldx ?_); refine wpList_load_at w.heap.size _ (xL S T F W ⟨tA, tn, tc⟩ ph) _ (by rfl) hX Try.underlying24 rfl x_info ?_) | fail)
  refine (HKH.out _ HT0.out).mono ?_
  rintro e w1 ⟨m, d, tok, rfl, hfit, hrt, hb1⟩
  have hB1 := hB0.trans (hb1.mono hB0.size)
  clear hb1 hB0 hX HT0 HKH
  have hG1 := At.new w1 28 (hdL m d)
  have hB2 := hB1.alloc hB1.size (.cells (hdL m d).toArray 28)
  have hf2 := hfit.below ((Below.refl w1.heap.size w1).alloc (Nat.le_refl _) (.cells (hdL m d).toArray 28))
  obtain ⟨w2, hw2⟩ : ∃ x, w1.alloc (.cells (hdL m d).toArray 28) = x := ⟨_, rfl⟩
  rw [hw2] at hG1 hB2 hf2
  have hs12 : w1.heap.size < w2.heap.size := hG1.lt
  have hB1s := hB1.size
  obtain ⟨sp, ⟨t0, t1, t2, t3, t4, t5, t6, t7⟩, ff, wd, hph⟩ := m
  have hsp : sp = 2 ∨ ((sp == 2) = false ∧ ¬ sp = 2) := by simp only [beq_eq_false_iff_ne]; omega
  obtain ⟨r1, r2, r3, r4, r5, r6, r7, r8⟩ := hright_parts _ _ hrt
  simp only at r1 r2 r3 r4 r6 r7
  have a0 : w2.cell? ⟨w1.heap.size, 0, none⟩ = some (.int .i64 sp) := hG1.cell 0
  have a18 : w2.cell? ⟨w1.heap.size, 18, none⟩ = some (.int .i64 wd) := hG1.cell 18
  have hto : w2.rangeAt w1.heap.size 1 [.int .u8 t0, .int .u8 t1, .int .u8 t2, .int .u8 t3, .int .u8 t4, .int .u8 t5, .int .u8 t6, .int .u8 t7] := hd_to hG1
  rcases hsp with rfl | ⟨e2, hsn⟩
  · have hto' := hto
    have hG2 : ∀ w3, At w3 w1.heap.size 28 (hdL ⟨1, ⟨t0, t1, t2, t3, t4, t5, t6, t7⟩, .zero, wd, false⟩ Sl.nil) → Kept (· = w1.heap.size) w2 w3 → Below w.heap.size w w3 := fun w3 _ hk => hk.below hB2 (by omega) (fun j hj => by omega)
    have hwf : HN.wf ⟨1, ⟨t0, t1, t2, t3, t4, t5, t6, t7⟩, .zero, wd, false⟩ := by
      constructor
      · show (-9223372036854775808 : Int) ≤ 1; decide
      · show (1 : Int) ≤ 9223372036854775807; decide
      · show (-9223372036854775808 : Int) ≤ wd; omega
      · show (wd : Int) ≤ 9223372036854775807; omega
      · exact hf2.wf.tb
      · exact wf_zero8.fb
    have hrt1 : hrightB ⟨1, ⟨t0, t1, t2, t3, t4, t5, t6, t7⟩, .zero, wd, false⟩ ([] : List Int).length = true := by
      unfold hrightB
      simp only [decide_eq_true_eq]
      refine ⟨by decide, by decide, r3, r4, by decide, ?_, ?_, fun h => absurd h (by decide)⟩ <;> simp
    obtain ⟨mm, hmm⟩ : ∃ m : HN, (⟨1, ⟨t0, t1, t2, t3, t4, t5, t6, t7⟩, .zero, wd, false⟩ : HN) = m := ⟨_, rfl⟩
    obtain ⟨dd, hdd⟩ : ∃ d : Sl, Sl.nil = d := ⟨_, rfl⟩
    obtain ⟨tk, htk⟩ : ∃ l : List Int, [] = l := ⟨_, rfl⟩
    have HMS : Hid (mm.s ≤ 1) := Lib.hid (by rw [← hmm]; show (1 : Int) ≤ 1; decide)
    have HFI : Hid (∀ W, HFits W (fun _ => True) mm dd tk) := Lib.hid (fun W => by rw [← hmm, ← hdd, ← htk]; exact ⟨hwf, InD.nil_ _ _⟩)
    have HRT : Hid (hrightB mm tk.length = true) := Lib.hid (by rw [← hmm, ← htk]; exact hrt1)
    have HLL : Hid (hdL ⟨1, ⟨t0, t1, t2, t3, t4, t5, t6, t7⟩, .zero, wd, false⟩ Sl.nil = hdL mm dd) := Lib.hid (by rw [hmm, hdd])
    clear hmm hdd htk hwf hrt1 hfit hrt hf2 hto' r1 r2 r5 r6 r7 r8
    go_wp2_with (first
      | ((with_reducible refine at_sth (x := .tmp 9) (y := .tmp 29) ?_); refine wpList_store_top w1 28 (hdL HN.zero Sl.nil) (hdL ⟨2, ⟨t0, t1, t2, t3, t4, t5, t6, t7⟩, ff, wd, hph⟩ d) (by rfl) _ (by rfl) (by rfl) (by rfl) (by rfl) hd_info (by rfl) ?_; rw [hw2]; clear hw2)
      | ((with_reducible refine at_ldc (x := .tmp 33) ?_); refine ld_off_g w1.heap.size 1 [.int .u8 t0, .int .u8 t1, .int .u8 t2, .int .u8 t3, .int .u8 t4, .int .u8 t5, .int .u8 t6, .int .u8 t7] _ (by rfl) (by rfl) hto Try.underlying26 rfl cid_info ?_)
      | ((with_reducible refine at_sth (x := .tmp 9) (y := .tmp 37) ?_); refine st_hd _ _ (hdL ⟨1, ⟨t0, t1, t2, t3, t4, t5, t6, t7⟩, .zero, wd, false⟩ Sl.nil) (by rfl) (by rfl) hG1 (by rfl) (by rfl) (by rfl) ?_; intro w3 hG3 hk3; have hB3 := hG2 w3 hG3 hk3; rw [HLL.out] at hG3)
      | fail)
    have hf3 := HFI.out w3
    clear hG2 hto a0 a18 hG1 hB2 hB1 hk3 HFI HLL
    have hHR : hrightB mm tk.length = true := HRT.out
    obtain ⟨r1, r2, r3, r4, r5, r6, r7, r8⟩ := hright_parts _ _ hHR
    have hms := HMS.out
    have hcn := fun q hq => cut_none mm tk k r1 (by omega) r3 r4 r5 (fun h => by rcases r6 with h6 | h6; exact absurd h6 h; exact List.eq_nil_of_length_eq_zero h6) (by omega) (by omega) q hq
    obtain ⟨rr, hrr⟩ := henc_open mm tk k (by omega)
    have hfb := hfirst_bd mm r1 r2 r3 r4
    have hne := henc_bd mm tk k r5
    refine (HWI.out _).mono ?_
    rintro e w' ⟨rfl, rfl⟩
    go_wp2_with (first | ((with_reducible refine at_ldh ?_); refine ld_hd _ (hdL mm dd) (by rfl) hG3 (by rfl) ?_) | fail)
    refine (henc_yes _ mm dd tk k _ hf3 hHR (by omega) (by omega)).mono ?_
    rintro e w4 ⟨v4, rfl, hown4, hb4⟩
    have hB4 := hB3.trans (hb4.mono hB3.size)
    clear hb4 hG3 hf3 hB3 HRT HMS
    obtain ⟨E, hE⟩ : ∃ E, hencS mm tk k = E := ⟨_, rfl⟩
    rw [hE] at hcn hrr hne hown4
    obtain ⟨x, hxx⟩ : ∃ x, hfirst mm = x := ⟨_, rfl⟩
    rw [hxx] at hrr hfb
    have hx1 := hfb.2.2.2.2 (by omega)
    obtain ⟨hx0, hx256, hx64, _, _⟩ := hfb
    have hAN := b_andnot64 x hx0 hx256 hx64
    obtain ⟨nE, hnE⟩ : ∃ x, E.length = x := ⟨_, rfl⟩
    obtain ⟨A4, c4, rfl, p1, p2, hr4⟩ := hown4.open_n nE hnE
    rw [hnE] at hne
    have hE6 : 6 ≤ nE := by rw [← hnE, hrr]; simp only [List.length_cons]; omega
    have HNE := Lib.hid hnE
    have HCN := Lib.hid hcn
    have HRR := Lib.hid hrr
    clear hE hown4 hnE hcn hrr hxx r1 r2 r3 r4 r5 r6 r7 r8 hms hHR
    have hlE : ([] ++ E).length = nE := by rw [List.nil_append]; exact HNE.out
    go_wp2_with (first
      | (at_builtin; refine wpList_append_rd rfl (.tmp 53) (.tmp 54) 22 rfl w4.heap.size 5 i0 Try.underlying22 hi hz0 hz1 hz2 _ [] rfl (Own.of_block (n := 0) (cap := 0) Byt.nil rfl (heap_alloc_new w4 _) (Nat.le_refl _) (Nat.le_refl _) (Nat.zero_le _) rfl rfl) _ A4 nE c4 E rfl (hr4.alloc (Nat.le_refl _) _) (by simp; omega) w4 ((Below.refl _ _).alloc (Nat.le_refl _) _) (by simp) ?_; intro v5 w5 hown5 hb5 hgr5; have hs5 := hb5.size; have HO5 := Lib.hid hown5; clear hown5 hgr5)
      | (at_builtin; refine wpList_append_zeros_own rfl (.tmp 55) (.tmp 56) 22 3 rfl w4.heap.size 5 i0 .i64 .i64 Try.underlying22 Try.underlying3 hi hz0 hz1 hz2 _ k _ rfl HO5.out (by rw [hlE]; omega) rfl (by omega) (by rw [hlE]; omega) w4 hb5 hs5 ?_; intro v6 w6 hown6 hb6; have hs6 := hb6.size; have hl6 : ([] ++ E ++ List.replicate k 0).length = nE + k := (by rw [List.length_append, hlE, List.length_replicate]); obtain ⟨g6, c6, l6, rfl, hA6, hll6, htk6, hbg6, hnc6, hcm6⟩ := hown6.place (by rw [hl6]; omega); rw [hl6] at hnc6 ⊢; have hc6' := hcm6; unfold maxLen at hc6')
      | fail)
    have hfull : [] ++ E ++ List.replicate k 0 = E ++ List.replicate k 0 := by simp
    rw [hfull] at hl6 hown6 htk6
    obtain ⟨full, hfu⟩ : ∃ x, E ++ List.replicate k 0 = x := ⟨_, rfl⟩
    have hcn := HCN.out
    rw [hfu] at hcn hown6 htk6 hl6
    have hfo : ∃ r, full = x :: 0 :: 0 :: 0 :: 1 :: 8 :: r := ⟨rr ++ List.replicate k 0, by rw [← hfu, HRR.out]; simp⟩
    obtain ⟨r, hfo⟩ := hfo
    have hwin := withinS_bd cut 0 ((nE + k : Nat) - 1 : Int) (by omega)
    obtain ⟨qq, hqq⟩ : ∃ q, withinS cut 0 ((nE + k : Nat) - 1 : Int) = q := ⟨_, rfl⟩
    have HC2 := Lib.hid (fun W' => HCW.out ((nE + k : Nat) - 1 : Int) (by omega) (by omega) W')
    rw [hqq] at HC2 hwin
    obtain ⟨q, rfl⟩ := Int.eq_ofNat_of_zero_le (show 0 ≤ qq by omega)
    have hq : q < nE + k := by omega
    have hpq := hcn q (by rw [hl6]; exact hq)
    have hB6 := hB4.trans (hb6.mono hB4.size)
    have hown6' := hown6
    obtain ⟨_, _, e6, _, _, hr6⟩ := hown6'.open_n (nE + k) hl6
    injection e6 with e6a e6b e6c
    subst e6a; subst e6c
    have hrq := hr6.cut (Nat.le_of_lt hq)
    have hby6 := hown6.byt
    have HPQ := Lib.hid hpq
    clear hfull hfu hcn hwin hqq HCN HCW HRR HO5 hb5 hb6 hr4 hB4 hpq hown6'
    have hwrap : IntKind.i64.wrap (((nE + k : Nat) : Int) - 1) = ((nE + k : Nat) : Int) - 1 := IntWalk.i64_in _ (by omega)
    go_wp2_with fail
    refine (HC2.out _).mono ?_
    rintro e w' ⟨rfl, rfl⟩
    go_wp2_with fail
    refine (hparse_any _ q _ (full.take q) w6 hrq (by omega) (fun h => by cases h)).mono ?_
    intro e w7 hpost
    unfold HPPost at hpost
    rw [HPQ.out] at hpost
    obtain ⟨rfl, hb7⟩ := hpost
    have hB7 := hB6.trans (hb7.mono hB6.size)
    have hA7 := hA6.of_below hb7
    have hr7 := (hr6.below hb7).more hb7.size
    clear hb7 hA6 hr6 hB6 hrq
    have hb8 : Below w7.heap.size w7 (w7.alloc (.cells (hdL HN.zero Sl.nil).toArray 28)) := (Below.refl _ _).alloc (Nat.le_refl _) _
    obtain ⟨w8, hw8⟩ : ∃ x, w7.alloc (.cells (hdL HN.zero Sl.nil).toArray 28) = x := ⟨_, rfl⟩
    rw [hw8] at hb8
    have hB8 := hB7.trans (hb8.mono hB7.size)
    have hA8 := hA7.of_below hb8
    have hr8 := (hr7.below hb8).more hb8.size
    clear hb8 hA7 hr7 hB7
    have hlf : ([] ++ full).length = nE + k := by rw [List.nil_append]; exact hl6
    go_wp2_with (first
      | ((with_reducible refine at_sth ?_); refine wpList_store_top w7 28 (hdL HN.zero Sl.nil) (hdL HN.zero Sl.nil) (by rfl) _ (by rfl) (by rfl) (by rfl) (by rfl) hd_info (by rfl) ?_; rw [hw8]; clear hw8)
      | (at_builtin; refine wpList_append_rd rfl (.tmp 71) (.tmp 72) 22 rfl w8.heap.size 5 i0 Try.underlying22 hi hz0 hz1 hz2 _ [] rfl (Own.of_block (n := 0) (cap := 0) Byt.nil rfl (heap_alloc_new w8 _) (Nat.le_refl _) (Nat.le_refl _) (Nat.zero_le _) rfl rfl) _ _ (nE + k) _ full rfl (hr8.alloc (Nat.le_refl _) _) (by simp; omega) w8 ((Below.refl _ _).alloc (Nat.le_refl _) _) (by simp) ?_; intro v9 w9 hown9 hb9 hgr9; have hs9 := hb9.size; obtain ⟨gy, cy, ly, rfl, hY9, hly, hty, hbgy, hncy, hcmy⟩ := hown9.place (by rw [hlf]; omega); rw [hlf] at hncy ⊢; have hb9' := hb9.mono (Nat.le_refl _); have hr9 := (hr8.below hb9).more hb9.size; clear hown9 hgr9)
      | (at_builtin; refine wpList_append_rd rfl (.tmp 74) (.tmp 75) 22 rfl w9.heap.size 5 i0 Try.underlying22 hi hz0 hz1 hz2 _ [] rfl (Own.of_block (n := 0) (cap := 0) Byt.nil rfl (heap_alloc_new w9 _) (Nat.le_refl _) (Nat.le_refl _) (Nat.zero_le _) rfl rfl) _ _ (nE + k) _ full rfl (hr9.alloc (Nat.le_refl _) _) (by simp; omega) w9 ((Below.refl _ _).alloc (Nat.le_refl _) _) (by simp) ?_; intro v10 w10 hown10 hb10 hgr10; have hs10 := hb10.size; obtain ⟨gz, cz, lz, rfl, hZ10, hlz, htz, hbgz, hncz, hcmz⟩ := hown10.place (by rw [hlf]; omega); rw [hlf] at hncz ⊢; have hY10 := hY9.of_below hb10; clear hown10 hgr10; rw [List.nil_append] at hty htz; have y0 := place_cell hY10 hty 0 x (by rw [hfo]; rfl); have fy := hY10.frozen 0; have hY11 := hY10.set 0 (.int .u8 (x - 64)); have hZ11 := hZ10.kept (S := (· = gy)) ((Kept.refl _ _).setAt 0 (.int .u8 (x - 64))) (by have := hY9.lt; omega); have z4 := place_cell hZ11 htz 4 1 (by rw [hfo]; rfl); have fz := hZ11.frozen 4; have hcy' := hcmy; unfold maxLen at hcy'; have hcz' := hcmz; unfold maxLen at hcz')
      | fail)
    obtain ⟨hz128, hz256⟩ := b_or128 ((1 + v) % 256) (by omega) (by omega)
    obtain ⟨Z, hZ⟩ : ∃ z, bits BinOp.or IntKind.u8 ((1 + v) % 256) 128 = z := ⟨_, rfl⟩
    rw [hZ] at hz128 hz256 ⊢
    clear hZ
    have hgyl := hY9.lt
    have hYo := place_set hY10 hly hty hby6 hbgy (by rw [hl6]; exact hncy) hcmy 0 (x - 64) (by omega)
    have hZo := place_set hZ11 hlz htz hby6 hbgz (by rw [hl6]; exact hncz) hcmz 4 Z (by omega)
    have hYo := hYo.kept (S := (· = gz)) ((Kept.refl _ _).setAt 4 (.int .u8 Z)) (fun j hj e => by injection hj with hj; have e1 : j = gz := e; have e2 : gy = j := hj; omega)
    have hB10 := hB8.trans ((hb9.trans (hb10.mono hs9)).mono hB8.size)
    have hB8s := hB8.size
    have hk11 : Kept (fun j => j = gy ∨ j = gz) w10 ((w10.setCell ⟨gy, 0, none⟩ (.int .u8 (x - 64))).setCell ⟨gz, 4, none⟩ (.int .u8 Z)) := ((Kept.refl _ _).setCell (.inl (.inl rfl)) _).setCell (.inl (.inr rfl)) _
    have hB11 := hk11.below hB10 hB10.size (fun j hj => by omega)
    obtain ⟨w11, hw11⟩ : ∃ y, (w10.setCell ⟨gy, 0, none⟩ (.int .u8 (x - 64))).setCell ⟨gz, 4, none⟩ (.int .u8 Z) = y := ⟨_, rfl⟩
    rw [hw11] at hYo hZo hB11 ⊢
    clear hw11 hk11 hB10 hY11 hZ11 y0 fy z4 fz hY10 hZ10 hY9 hb9 hb10 hb9' hr9 hr8 hB8
    obtain ⟨_, _, ey, _, _, hry⟩ := hYo.open_n (nE + k) (by rw [List.length_set]; exact hl6)
    injection ey with eya eyb eyc
    subst eya; subst eyc
    obtain ⟨_, _, ez, _, _, hrz⟩ := hZo.open_n (nE + k) (by rw [List.length_set]; exact hl6)
    injection ez with eza ezb ezc
    subst eza; subst ezc
    have hpy : parseS (full.set 0 (x - 64)) = none := by rw [hfo, List.set_cons_zero]; exact bit_none _ _ (by omega)
    have hpz : parseS (full.set 4 Z) = none := by
      rw [hfo]
      exact version_none x Z (8 :: r) (by omega) (by omega) (by omega)
    refine (hparse_any _ (nE + k) _ _ w11 hry (by omega) (fun h => by cases h)).mono ?_
    intro e w12 hpost
    unfold HPPost at hpost
    rw [hpy] at hpost
    obtain ⟨rfl, hb12⟩ := hpost
    have hB12 := hB11.trans (hb12.mono hB11.size)
    have hrz12 := (hrz.below hb12).more hb12.size
    clear hb12 hry hrz hYo hZo
    have hb13 : Below w12.heap.size w12 (w12.alloc (.cells (hdL HN.zero Sl.nil).toArray 28)) := (Below.refl _ _).alloc (Nat.le_refl _) _
    obtain ⟨w13, hw13⟩ : ∃ x, w12.alloc (.cells (hdL HN.zero Sl.nil).toArray 28) = x := ⟨_, rfl⟩
    rw [hw13] at hb13
    have hB13 := hB12.trans (hb13.mono hB12.size)
    have hrz13 := (hrz12.below hb13).more hb13.size
    clear hb13 hrz12
    go_wp2_with (first
      | ((with_reducible refine at_sth ?_); refine wpList_store_top w12 28 (hdL HN.zero Sl.nil) (hdL HN.zero Sl.nil) (by rfl) _ (by rfl) (by rfl) (by rfl) (by rfl) hd_info (by rfl) ?_; rw [hw13]; clear hw13)
      | fail)
    refine (hparse_any _ (nE + k) _ _ w13 hrz13 (by omega) (fun h => by cases h)).mono ?_
    intro e w14 hpost
    unfold HPPost at hpost
    rw [hpz] at hpost
    obtain ⟨rfl, hb14⟩ := hpost
    have hB14 := hB13.trans (hb14.mono hB13.size)
    have hb15 : Below w14.heap.size w14 (w14.alloc (.cells (hdL HN.zero Sl.nil).toArray 28)) := (Below.refl _ _).alloc (Nat.le_refl _) _
    obtain ⟨w15, hw15⟩ : ∃ x, w14.alloc (.cells (hdL HN.zero Sl.nil).toArray 28) = x := ⟨_, rfl⟩
    rw [hw15] at hb15
    have hB15 := hB14.trans (hb15.mono hB14.size)
    clear hb15 hb14 hrz13
    go_wp2_with (first
      | ((with_reducible refine at_sth ?_); refine wpList_store_top w14 28 (hdL HN.zero Sl.nil) (hdL HN.zero Sl.nil) (by rfl) _ (by rfl) (by rfl) (by rfl) (by rfl) hd_info (by rfl) ?_; rw [hw15]; clear hw15)
      | fail)
    refine (KN.out _).mono ?_
    rintro e w16 ⟨rfl, hb16⟩
    go_wp2_with fail
    go_ret
    exact ⟨rfl, hB15.trans (hb16.mono hB15.size)⟩
  · have hG3 := hG1
    have hf3 := hf2
    have hB3 := hB2
    obtain ⟨mm, hmm⟩ : ∃ m : HN, (⟨sp, ⟨t0, t1, t2, t3, t4, t5, t6, t7⟩, ff, wd, hph⟩ : HN) = m := ⟨_, rfl⟩
    have HMS : Hid (mm.s ≤ 1) := Lib.hid (by rw [← hmm]; show sp ≤ 1; omega)
    have HRT : Hid (hrightB mm tok.length = true) := Lib.hid (by rw [← hmm]; exact hrt)
    rw [hmm] at hG3 hf3
    rw [hmm] at hw2 ⊢
    obtain ⟨dd, hdd⟩ : ∃ x, d = x := ⟨_, rfl⟩
    obtain ⟨tk, htk⟩ : ∃ x, tok = x := ⟨_, rfl⟩
    rw [hdd] at hG3 hf3 hw2 ⊢
    rw [htk] at HRT hf3
    clear hmm hdd htk hfit hrt hf2 hto r1 r2 r5 r6 r7 r8 hG1 hB2 hB1
    go_wp2_with (first
      | ((with_reducible refine at_sth (x := .tmp 9) (y := .tmp 29) ?_); refine wpList_store_top w1 28 (hdL HN.zero Sl.nil) (hdL mm dd) (by rfl) _ (by rfl) (by rfl) (by rfl) (by rfl) hd_info (by rfl) ?_; rw [hw2]; clear hw2)
      | fail)
    obtain ⟨w3, hw3⟩ : ∃ x, w2 = x := ⟨_, rfl⟩
    rw [hw3] at hG3 hf3 hB3 ⊢
    clear hw3 a0 a18
    have hHR : hrightB mm tk.length = true := HRT.out
    obtain ⟨r1, r2, r3, r4, r5, r6, r7, r8⟩ := hright_parts _ _ hHR
    have hms := HMS.out
    have hcn := fun q hq => cut_none mm tk k r1 (by omega) r3 r4 r5 (fun h => by rcases r6 with h6 | h6; exact absurd h6 h; exact List.eq_nil_of_length_eq_zero h6) (by omega) (by omega) q hq
    obtain ⟨rr, hrr⟩ := henc_open mm tk k (by omega)
    have hfb := hfirst_bd mm r1 r2 r3 r4
    have hne := henc_bd mm tk k r5
    refine (HWI.out _).mono ?_
    rintro e w' ⟨rfl, rfl⟩
    go_wp2_with (first | ((with_reducible refine at_ldh ?_); refine ld_hd _ (hdL mm dd) (by rfl) hG3 (by rfl) ?_) | fail)
    refine (henc_yes _ mm dd tk k _ hf3 hHR (by omega) (by omega)).mono ?_
    rintro e w4 ⟨v4, rfl, hown4, hb4⟩
    have hB4 := hB3.trans (hb4.mono hB3.size)
    clear hb4 hG3 hf3 hB3 HRT HMS
    obtain ⟨E, hE⟩ : ∃ E, hencS mm tk k = E := ⟨_, rfl⟩
    rw [hE] at hcn hrr hne hown4
    obtain ⟨x, hxx⟩ : ∃ x, hfirst mm = x := ⟨_, rfl⟩
    rw [hxx] at hrr hfb
    have hx1 := hfb.2.2.2.2 (by omega)
    obtain ⟨hx0, hx256, hx64, _, _⟩ := hfb
    have hAN := b_andnot64 x hx0 hx256 hx64
    obtain ⟨nE, hnE⟩ : ∃ x, E.length = x := ⟨_, rfl⟩
    obtain ⟨A4, c4, rfl, p1, p2, hr4⟩ := hown4.open_n nE hnE
    rw [hnE] at hne
    have hE6 : 6 ≤ nE := by rw [← hnE, hrr]; simp only [List.length_cons]; omega
    have HNE := Lib.hid hnE
    have HCN := Lib.hid hcn
    have HRR := Lib.hid hrr
    clear hE hown4 hnE hcn hrr hxx r1 r2 r3 r4 r5 r6 r7 r8 hms hHR
    have hlE : ([] ++ E).length = nE := by rw [List.nil_append]; exact HNE.out
    go_wp2_with (first
      | (at_builtin; refine wpList_append_rd rfl (.tmp 53) (.tmp 54) 22 rfl w4.heap.size 5 i0 Try.underlying22 hi hz0 hz1 hz2 _ [] rfl (Own.of_block (n := 0) (cap := 0) Byt.nil rfl (heap_alloc_new w4 _) (Nat.le_refl _) (Nat.le_refl _) (Nat.zero_le _) rfl rfl) _ A4 nE c4 E rfl (hr4.alloc (Nat.le_refl _) _) (by simp; omega) w4 ((Below.refl _ _).alloc (Nat.le_refl _) _) (by simp) ?_; intro v5 w5 hown5 hb5 hgr5; have hs5 := hb5.size; have HO5 := Lib.hid hown5; clear hown5 hgr5)
      | (at_builtin; refine wpList_append_zeros_own rfl (.tmp 55) (.tmp 56) 22 3 rfl w4.heap.size 5 i0 .i64 .i64 Try.underlying22 Try.underlying3 hi hz0 hz1 hz2 _ k _ rfl HO5.out (by rw [hlE]; omega) rfl (by omega) (by rw [hlE]; omega) w4 hb5 hs5 ?_; intro v6 w6 hown6 hb6; have hs6 := hb6.size; have hl6 : ([] ++ E ++ List.replicate k 0).length = nE + k := (by rw [List.length_append, hlE, List.length_replicate]); obtain ⟨g6, c6, l6, rfl, hA6, hll6, htk6, hbg6, hnc6, hcm6⟩ := hown6.place (by rw [hl6]; omega); rw [hl6] at hnc6 ⊢; have hc6' := hcm6; unfold maxLen at hc6')
      | fail)
    have hfull : [] ++ E ++ List.replicate k 0 = E ++ List.replicate k 0 := by simp
    rw [hfull] at hl6 hown6 htk6
    obtain ⟨full, hfu⟩ : ∃ x, E ++ List.replicate k 0 = x := ⟨_, rfl⟩
    have hcn := HCN.out
    rw [hfu] at hcn hown6 htk6 hl6
    have hfo : ∃ r, full = x :: 0 :: 0 :: 0 :: 1 :: 8 :: r := ⟨rr ++ List.replicate k 0, by rw [← hfu, HRR.out]; simp⟩
    obtain ⟨r, hfo⟩ := hfo
    have hwin := withinS_bd cut 0 ((nE + k : Nat) - 1 : Int) (by omega)
    obtain ⟨qq, hqq⟩ : ∃ q, withinS cut 0 ((nE + k : Nat) - 1 : Int) = q := ⟨_, rfl⟩
    have HC2 := Lib.hid (fun W' => HCW.out ((nE + k : Nat) - 1 : Int) (by omega) (by omega) W')
    rw [hqq] at HC2 hwin
    obtain ⟨q, rfl⟩ := Int.eq_ofNat_of_zero_le (show 0 ≤ qq by omega)
    have hq : q < nE + k := by omega
    have hpq := hcn q (by rw [hl6]; exact hq)
    have hB6 := hB4.trans (hb6.mono hB4.size)
    have hown6' := hown6
    obtain ⟨_, _, e6, _, _, hr6⟩ := hown6'.open_n (nE + k) hl6
    injection e6 with e6a e6b e6c
    subst e6a; subst e6c
    have hrq := hr6.cut (Nat.le_of_lt hq)
    have hby6 := hown6.byt
    have HPQ := Lib.hid hpq
    clear hfull hfu hcn hwin hqq HCN HCW HRR HO5 hb5 hb6 hr4 hB4 hpq hown6'
    have hwrap : IntKind.i64.wrap (((nE + k : Nat) : Int) - 1) = ((nE + k : Nat) : Int) - 1 := IntWalk.i64_in _ (by omega)
    go_wp2_with fail
    refine (HC2.out _).mono ?_
    rintro e w' ⟨rfl, rfl⟩
    go_wp2_with fail
    refine (hparse_any _ q _ (full.take q) w6 hrq (by omega) (fun h => by cases h)).mono ?_
    intro e w7 hpost
    unfold HPPost at hpost
    rw [HPQ.out] at hpost
    obtain ⟨rfl, hb7⟩ := hpost
    have hB7 := hB6.trans (hb7.mono hB6.size)
    have hA7 := hA6.of_below hb7
    have hr7 := (hr6.below hb7).more hb7.size
    clear hb7 hA6 hr6 hB6 hrq
    have hb8 : Below w7.heap.size w7 (w7.alloc (.cells (hdL HN.zero Sl.nil).toArray 28)) := (Below.refl _ _).alloc (Nat.le_refl _) _
    obtain ⟨w8, hw8⟩ : ∃ x, w7.alloc (.cells (hdL HN.zero Sl.nil).toArray 28) = x := ⟨_, rfl⟩
    rw [hw8] at hb8
    have hB8 := hB7.trans (hb8.mono hB7.size)
    have hA8 := hA7.of_below hb8
    have hr8 := (hr7.below hb8).more hb8.size
    clear hb8 hA7 hr7 hB7
    have hlf : ([] ++ full).length = nE + k := by rw [List.nil_append]; exact hl6
    go_wp2_with (first
      | ((with_reducible refine at_sth ?_); refine wpList_store_top w7 28 (hdL HN.zero Sl.nil) (hdL HN.zero Sl.nil) (by rfl) _ (by rfl) (by rfl) (by rfl) (by rfl) hd_info (by rfl) ?_; rw [hw8]; clear hw8)
      | (at_builtin; refine wpList_append_rd rfl (.tmp 71) (.tmp 72) 22 rfl w8.heap.size 5 i0 Try.underlying22 hi hz0 hz1 hz2 _ [] rfl (Own.of_block (n := 0) (cap := 0) Byt.nil rfl (heap_alloc_new w8 _) (Nat.le_refl _) (Nat.le_refl _) (Nat.zero_le _) rfl rfl) _ _ (nE + k) _ full rfl (hr8.alloc (Nat.le_refl _) _) (by simp; omega) w8 ((Below.refl _ _).alloc (Nat.le_refl _) _) (by simp) ?_; intro v9 w9 hown9 hb9 hgr9; have hs9 := hb9.size; obtain ⟨gy, cy, ly, rfl, hY9, hly, hty, hbgy, hncy, hcmy⟩ := hown9.place (by rw [hlf]; omega); rw [hlf] at hncy ⊢; have hb9' := hb9.mono (Nat.le_refl _); have hr9 := (hr8.below hb9).more hb9.size; clear hown9 hgr9)
      | (at_builtin; refine wpList_append_rd rfl (.tmp 74) (.tmp 75) 22 rfl w9.heap.size 5 i0 Try.underlying22 hi hz0 hz1 hz2 _ [] rfl (Own.of_block (n := 0) (cap := 0) Byt.nil rfl (heap_alloc_new w9 _) (Nat.le_refl _) (Nat.le_refl _) (Nat.zero_le _) rfl rfl) _ _ (nE + k) _ full rfl (hr9.alloc (Nat.le_refl _) _) (by simp; omega) w9 ((Below.refl _ _).alloc (Nat.le_refl _) _) (by simp) ?_; intro v10 w10 hown10 hb10 hgr10; have hs10 := hb10.size; obtain ⟨gz, cz, lz, rfl, hZ10, hlz, htz, hbgz, hncz, hcmz⟩ := hown10.place (by rw [hlf]; omega); rw [hlf] at hncz ⊢; have hY10 := hY9.of_below hb10; clear hown10 hgr10; rw [List.nil_append] at hty htz; have y0 := place_cell hY10 hty 0 x (by rw [hfo]; rfl); have fy := hY10.frozen 0; have hY11 := hY10.set 0 (.int .u8 (x - 64)); have hZ11 := hZ10.kept (S := (· = gy)) ((Kept.refl _ _).setAt 0 (.int .u8 (x - 64))) (by have := hY9.lt; omega); have z4 := place_cell hZ11 htz 4 1 (by rw [hfo]; rfl); have fz := hZ11.frozen 4; have hcy' := hcmy; unfold maxLen at hcy'; have hcz' := hcmz; unfold maxLen at hcz')
      | fail)
    obtain ⟨hz128, hz256⟩ := b_or128 ((1 + v) % 256) (by omega) (by omega)
    obtain ⟨Z, hZ⟩ : ∃ z, bits BinOp.or IntKind.u8 ((1 + v) % 256) 128 = z := ⟨_, rfl⟩
    rw [hZ] at hz128 hz256 ⊢
    clear hZ
    have hgyl := hY9.lt
    have hYo := place_set hY10 hly hty hby6 hbgy (by rw [hl6]; exact hncy) hcmy 0 (x - 64) (by omega)
    have hZo := place_set hZ11 hlz htz hby6 hbgz (by rw [hl6]; exact hncz) hcmz 4 Z (by omega)
    have hYo := hYo.kept (S := (· = gz)) ((Kept.refl _ _).setAt 4 (.int .u8 Z)) (fun j hj e => by injection hj with hj; have e1 : j = gz := e; have e2 : gy = j := hj; omega)
    have hB10 := hB8.trans ((hb9.trans (hb10.mono hs9)).mono hB8.size)
    have hB8s := hB8.size
    have hk11 : Kept (fun j => j = gy ∨ j = gz) w10 ((w10.setCell ⟨gy, 0, none⟩ (.int .u8 (x - 64))).setCell ⟨gz, 4, none⟩ (.int .u8 Z)) := ((Kept.refl _ _).setCell (.inl (.inl rfl)) _).setCell (.inl (.inr rfl)) _
    have hB11 := hk11.below hB10 hB10.size (fun j hj => by omega)
    obtain ⟨w11, hw11⟩ : ∃ y, (w10.setCell ⟨gy, 0, none⟩ (.int .u8 (x - 64))).setCell ⟨gz, 4, none⟩ (.int .u8 Z) = y := ⟨_, rfl⟩
    rw [hw11] at hYo hZo hB11 ⊢
    clear hw11 hk11 hB10 hY11 hZ11 y0 fy z4 fz hY10 hZ10 hY9 hb9 hb10 hb9' hr9 hr8 hB8
    obtain ⟨_, _, ey, _, _, hry⟩ := hYo.open_n (nE + k) (by rw [List.length_set]; exact hl6)
    injection ey with eya eyb eyc
    subst eya; subst eyc
    obtain ⟨_, _, ez, _, _, hrz⟩ := hZo.open_n (nE + k) (by rw [List.length_set]; exact hl6)
    injection ez with eza ezb ezc
    subst eza; subst ezc
    have hpy : parseS (full.set 0 (x - 64)) = none := by rw [hfo, List.set_cons_zero]; exact bit_none _ _ (by omega)
    have hpz : parseS (full.set 4 Z) = none := by
      rw [hfo]
      exact version_none x Z (8 :: r) (by omega) (by omega) (by omega)
    refine (hparse_any _ (nE + k) _ _ w11 hry (by omega) (fun h => by cases h)).mono ?_
    intro e w12 hpost
    unfold HPPost at hpost
    rw [hpy] at hpost
    obtain ⟨rfl, hb12⟩ := hpost
    have hB12 := hB11.trans (hb12.mono hB11.size)
    have hrz12 := (hrz.below hb12).more hb12.size
    clear hb12 hry hrz hYo hZo
    have hb13 : Below w12.heap.size w12 (w12.alloc (.cells (hdL HN.zero Sl.nil).toArray 28)) := (Below.refl _ _).alloc (Nat.le_refl _) _
    obtain ⟨w13, hw13⟩ : ∃ x, w12.alloc (.cells (hdL HN.zero Sl.nil).toArray 28) = x := ⟨_, rfl⟩
    rw [hw13] at hb13
    have hB13 := hB12.trans (hb13.mono hB12.size)
    have hrz13 := (hrz12.below hb13).more hb13.size
    clear hb13 hrz12
    go_wp2_with (first
      | ((with_reducible refine at_sth ?_); refine wpList_store_top w12 28 (hdL HN.zero Sl.nil) (hdL HN.zero Sl.nil) (by rfl) _ (by rfl) (by rfl) (by rfl) (by rfl) hd_info (by rfl) ?_; rw [hw13]; clear hw13)
      | fail)
    refine (hparse_any _ (nE + k) _ _ w13 hrz13 (by omega) (fun h => by cases h)).mono ?_
    intro e w14 hpost
    unfold HPPost at hpost
    rw [hpz] at hpost
    obtain ⟨rfl, hb14⟩ := hpost
    have hB14 := hB13.trans (hb14.mono hB13.size)
    have hb15 : Below w14.heap.size w14 (w14.alloc (.cells (hdL HN.zero Sl.nil).toArray 28)) := (Below.refl _ _).alloc (Nat.le_refl _) _
    obtain ⟨w15, hw15⟩ : ∃ x, w14.alloc (.cells (hdL HN.zero Sl.nil).toArray 28) = x := ⟨_, rfl⟩
    rw [hw15] at hb15
    have hB15 := hB14.trans (hb15.mono hB14.size)
    clear hb15 hb14 hrz13
    go_wp2_with (first
      | ((with_reducible refine at_sth ?_); refine wpList_store_top w14 28 (hdL HN.zero Sl.nil) (hdL HN.zero Sl.nil) (by rfl) _ (by rfl) (by rfl) (by rfl) (by rfl) hd_info (by rfl) ?_; rw [hw15]; clear hw15)
      | fail)
    refine (KN.out _).mono ?_
    rintro e w16 ⟨rfl, hb16⟩
    go_wp2_with fail
    go_ret
    exact ⟨rfl, hB15.trans (hb16.mono hB15.size)⟩
theorem hcuts_law (S T F W : Int) (tA : Option Addr) (tn tc : Nat) (bs0 : List Int) (ph : Bool) (n cut v : Int) (w : World)
    (hx : XIn w S T F W tA tn tc bs0) (hn : (Lit.int .i64 n).wf = true) (hc : (Lit.int .i64 cut).wf = true) (hv : (Lit.int .u8 v).wf = true) :
    Calls Try.prog 5 #[.agg (xL S T F W ⟨tA, tn, tc⟩ ph).toArray, .int .i64 n, .int .i64 cut, .int .u8 v] w fun e w'' => e = .returned (.bool true) ∧ Below w.heap.size w w'' :=
  hcuts_walk S T F W tA tn tc bs0 ph n cut v w hx.sa hx.ta hx.fa hx.wa hx.row (bounds_i64 hn) (bounds_i64 hc) (by have := bounds_u8 hv; omega)
end Go.Proofs.Ytbioajgmceodhaa
