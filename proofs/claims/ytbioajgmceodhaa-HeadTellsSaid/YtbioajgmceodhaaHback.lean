/-
  The head that is drawn may be written.
-/
import Derived.Test.YtbioajgmceodhaaHk0
import Derived.Test.YtbioajgmceodhaaHk1
import Derived.Test.YtbioajgmceodhaaHk2
import Derived.Test.YtbioajgmceodhaaHkn
import Derived.Test.YtbioajgmceodhaaZown
import Derived.Test.YtbioajgmceodhaaHopen
namespace Go.Proofs.Ytbioajgmceodhaa
set_option linter.unusedVariables false
set_option linter.unusedSimpArgs false
open Go.RowKit
theorem khead_any (P : Nat → Prop) (S T F W : Int) (d : Sl) (ph : Bool) (bs : List Int) (w : World) (hd : InD w P d bs) (hS : -9223372036854775808 ≤ S ∧ S ≤ 9223372036854775807) (hT : -9223372036854775808 ≤ T ∧ T ≤ 9223372036854775807) (hF : -9223372036854775808 ≤ F ∧ F ≤ 9223372036854775807) (hW : -9223372036854775808 ≤ W ∧ W ≤ 9223372036854775807) :
    Calls Try.prog 6 #[.agg (xL S T F W d ph).toArray] w (KHPost w P) := by
  have h := withinS_bd S 0 2 (by decide)
  have h3 : withinS S 0 2 = 0 ∨ withinS S 0 2 = 1 ∨ withinS S 0 2 = 2 := by omega
  rcases h3 with h3 | h3 | h3
  · exact khead_0 P S T F W d ph bs w hd hS hT hF hW h3
  · exact khead_1 P S T F W d ph bs w hd hS hT hF hW h3
  · exact khead_2 P S T F W d ph bs w hd hS hT hF hW h3
section
variable {ops : Array Oper} {rest : List Oper} {a : Act} {w : World} {Q : Exit → Act → World → Prop} {dst : Option Tmp} {x y : Operand} {t : TypeId} {pos : String} {after : Array Edge} {g : Option (Nat × Bool)}
theorem at_ldx (h : wpList Try.prog ops Q (⟨dst, .load 24 x, t, pos, after, g⟩ :: rest) a w) : wpList Try.prog ops Q (⟨dst, .load 24 x, t, pos, after, g⟩ :: rest) a w := h
theorem at_ldc (h : wpList Try.prog ops Q (⟨dst, .load 26 x, t, pos, after, g⟩ :: rest) a w) : wpList Try.prog ops Q (⟨dst, .load 26 x, t, pos, after, g⟩ :: rest) a w := h
end
theorem x_info : (Try.prog.info? 24).map (·.size) = some 6 := by kernel_rfl
theorem InRow.inD {w : World} {A : Option Addr} {n c : Nat} {bs : List Int} (h : InRow w A n c bs) : InD w (fun _ => True) ⟨A, n, c⟩ bs := ⟨⟨h.1, fun _ _ _ _ => trivial⟩, h.2.1, h.2.2.1, h.2.2.2⟩
theorem InD.below_ {w w' : World} {P : Nat → Prop} {d : Sl} {ds : List Int} (h : InD w P d ds) (k : Below w.heap.size w w') : InD w' P d ds := h.kept (Kept.of_below k (fun _ => False)) (fun _ _ h => h)
theorem At.of_below {w w' : World} {p : Nat} {T : TypeId} {l : List Value} (h : At w p T l) (k : Below w.heap.size w w') : At w' p T l := h.below k h.lt
theorem henc_bd (m : HN) (tok : List Int) (n : Int) (h : tok.length ≤ 32) : 0 < (hencS m tok n).length ∧ (hencS m tok n).length ≤ 1000 := by
  unfold hencS
  split
  · have e : (m.t.l).length = 8 := rfl
    simp only [List.length_cons]; omega
  · have e1 : (m.t.l).length = 8 := rfl
    have e2 : (m.f.l).length = 8 := rfl
    have e3 := textB_le tok
    have e4 : (twoB (16384 + n)).length = 2 := rfl
    have e5 : (if m.s = 0 then textB tok else []).length ≤ 40 := by split; omega; simp
    simp only [List.length_append, List.length_cons, List.length_nil]; omega
set_option maxRecDepth 100000 in
set_option maxHeartbeats 4000000 in
theorem hback_walk (S T F W : Int) (tA : Option Addr) (tn tc : Nat) (bs0 : List Int) (ph : Bool) (n : Int) (A' : Option Addr) (n' c' : Nat) (ms : List Int) (w : World)
    (hS : -9223372036854775808 ≤ S ∧ S ≤ 9223372036854775807) (hT : -9223372036854775808 ≤ T ∧ T ≤ 9223372036854775807) (hF : -9223372036854775808 ≤ F ∧ F ≤ 9223372036854775807) (hW : -9223372036854775808 ≤ W ∧ W ≤ 9223372036854775807) (ht : InRow w tA tn tc bs0)
    (hn : -9223372036854775808 ≤ n ∧ n ≤ 9223372036854775807) (hm : InRow w A' n' c' ms) :
    Calls Try.prog 4 #[.agg (xL S T F W ⟨tA, tn, tc⟩ ph).toArray, .int .i64 n, .slice A' n' c'] w fun e w'' => e = .returned (.bool true) ∧ Below w.heap.size w w'' := by
  obtain ⟨i0, hi, hz0, hz1, hz2⟩ := info_parts u8_info
  have HKH := Lib.hid (fun W' h => khead_any (fun _ => True) S T F W ⟨tA, tn, tc⟩ ph bs0 W' h hS hT hF hW)
  have HWI := Lib.hid (fun W' => within_any n 12 300 W' hn.1 hn.2 (by decide) (by decide) (by decide))
  have hkb := withinS_bd n 12 300 (by decide)
  obtain ⟨kk, hkk⟩ : ∃ k, withinS n 12 300 = k := ⟨_, rfl⟩
  rw [hkk] at HWI hkb
  obtain ⟨k, rfl⟩ := Int.eq_ofNat_of_zero_le (show 0 ≤ kk by omega)
  have hk12 : 12 ≤ k := by omega
  have hk300 : k ≤ 300 := by omega
  have hX := At.new w 24 (xL S T F W ⟨tA, tn, tc⟩ ph)
  have hB0 : Below w.heap.size w (w.alloc (.cells (xL S T F W ⟨tA, tn, tc⟩ ph).toArray 24)) := (Below.refl _ _).alloc (Nat.le_refl _) _
  have HT0 := Lib.hid (ht.inD.below_ hB0)
  have HM := Lib.hid hm.inD
  clear hkk hkb hS hT hF hW hn ht hm
  go_enter Try.func4, Try.ntmps4
  go_wp2_with (first | ((with_reducible refine at_ldx ?_); refine wpList_load_at w.heap.size _ (xL S T F W ⟨tA, tn, tc⟩ ph) _ (by rfl) hX Try.underlying24 rfl x_info ?_) | fail)
  refine (HKH.out _ HT0.out).mono ?_
  rintro e w1 ⟨m, d, tok, rfl, hfit, hrt, hb1⟩
  have hB1 := hB0.trans (hb1.mono hB0.size)
  obtain ⟨r1, r2, r3, r4, r5, r6, r7, r8⟩ := hright_parts _ _ hrt
  have hpe := fun l hl => parse_enc m tok (k : Int) l r1 r2 r3 r4 r5 (fun h => by rcases r6 with h6 | h6; exact absurd h6 h; exact List.eq_nil_of_length_eq_zero h6) r8 (by omega) (by omega) hl
  have hne := henc_bd m tok k r5
  clear hb1 hB0 hX HT0 HKH
  have hG1 := At.new w1 28 (hdL m d)
  have hB2 := hB1.alloc hB1.size (.cells (hdL m d).toArray 28)
  have hf2 := hfit.below ((Below.refl w1.heap.size w1).alloc (Nat.le_refl _) (.cells (hdL m d).toArray 28))
  obtain ⟨w2, hw2⟩ : ∃ x, w1.alloc (.cells (hdL m d).toArray 28) = x := ⟨_, rfl⟩
  rw [hw2] at hG1 hB2 hf2
  go_wp2_with (first | ((with_reducible refine at_sth ?_); refine wpList_store_top w1 28 (hdL HN.zero Sl.nil) (hdL m d) (by rfl) _ (by rfl) (by rfl) (by rfl) (by rfl) hd_info (by rfl) ?_; rw [hw2]; clear hw2) | fail)
  obtain ⟨g7, hg7⟩ : ∃ g, w1.heap.size = g := ⟨_, rfl⟩
  rw [hg7] at hG1 ⊢
  clear hg7 hfit hB1
  refine (HWI.out _).mono ?_
  rintro e w' ⟨rfl, rfl⟩
  go_wp2_with (first | ((with_reducible refine at_ldh ?_); refine ld_hd _ (hdL m d) (by rfl) hG1 (by rfl) ?_) | fail)
  refine (henc_yes _ m d tok k w2 hf2 hrt (by omega) (by omega)).mono ?_
  rintro e w3 ⟨v3, rfl, hown3, hb3⟩
  have hB3 := hB2.trans (hb3.mono hB2.size)
  have hG3 := hG1.of_below hb3
  have hf3 := hf2.below hb3
  clear hb3 hG1 hf2 hB2
  obtain ⟨E, hE⟩ : ∃ E, hencS m tok k = E := ⟨_, rfl⟩
  rw [hE] at hpe hne hown3
  obtain ⟨nE, hnE⟩ : ∃ x, E.length = x := ⟨_, rfl⟩
  obtain ⟨A3, c3, rfl, p1, p2, hr3⟩ := hown3.open_n nE hnE
  rw [hnE] at hne
  have HNE := Lib.hid hnE
  have HPE := Lib.hid hpe
  clear hE hown3 hnE hpe
  have hlE : ([] ++ E).length = nE := by rw [List.nil_append]; exact HNE.out
  go_wp2_with (first
    | (at_builtin; refine wpList_append_rd rfl (.tmp 30) (.tmp 31) 22 rfl w3.heap.size 5 i0 Try.underlying22 hi hz0 hz1 hz2 _ [] rfl (Own.of_block (n := 0) (cap := 0) Byt.nil rfl (heap_alloc_new w3 _) (Nat.le_refl _) (Nat.le_refl _) (Nat.zero_le _) rfl rfl) _ A3 nE c3 E rfl (hr3.alloc (Nat.le_refl _) _) (by simp; omega) w3 ((Below.refl _ _).alloc (Nat.le_refl _) _) (by simp) ?_; intro v4 w4 hown4 hb4 hgr4; have hs4 := hb4.size; have HO4 := Lib.hid hown4; clear hown4 hgr4)
    | (at_builtin; refine wpList_append_zeros_own rfl (.tmp 32) (.tmp 33) 22 3 rfl w3.heap.size 5 i0 .i64 .i64 Try.underlying22 Try.underlying3 hi hz0 hz1 hz2 _ k _ rfl HO4.out (by rw [hlE]; omega) rfl (by omega) (by rw [hlE]; omega) w3 hb4 hs4 ?_; intro v5 w5 hown5 hb5; have hs5 := hb5.size; have HO5 := Lib.hid hown5; clear hown5)
    | fail)
  have hM5 := HM.out.below_ (hB3.trans (hb5.mono hB3.size))
  refine (cut_any A' n' c' 20 w5 hM5.lc hM5.cm (by decide) (fun h e => by have h1 : n' ≤ c' := hM5.lc; have h2 : c' = 0 := hM5.nil e; omega)).mono ?_
  rintro e w' ⟨rfl, rfl⟩
  have hrm := hM5.rd.1.cut (Nat.min_le_left n' 20)
  have hlm : (ms.take (min n' 20)).length ≤ 20 := by rw [List.length_take]; have := Nat.min_le_right n' 20; omega
  obtain ⟨mm, hmm⟩ : ∃ x, ms.take (min n' 20) = x := ⟨_, rfl⟩
  rw [hmm] at hrm hlm
  obtain ⟨qn, hqn⟩ : ∃ x, min n' 20 = x := ⟨_, rfl⟩
  rw [hqn] at hrm ⊢
  have hql : mm.length = qn := hrm.1
  clear hmm hqn hM5
  go_wp2_with (first
    | (at_builtin; refine wpList_append_rd rfl (.tmp 34) (.tmp 36) 22 rfl w3.heap.size 5 i0 Try.underlying22 hi hz0 hz1 hz2 _ _ rfl HO5.out _ A' qn c' mm rfl hrm (by rw [List.length_append, hlE, List.length_replicate]; omega) w3 hb5 hs5 ?_; intro v6 w6 hown6 hb6 hgr6; obtain ⟨A6, c6, rfl, q1, q2, hr6⟩ := hown6.open_n (nE + k + qn) (by rw [List.length_append, List.length_append, hlE, List.length_replicate, hql]); have hs6 := hb6.size; clear hgr6)
    | fail)
  have hfull : [] ++ E ++ List.replicate k 0 ++ mm = E ++ (List.replicate k 0 ++ mm) := by simp
  have hnil6 := hown6.nil_cap
  rw [hfull] at hr6
  have hB6 := hB3.trans (hb6.mono hB3.size)
  have hG6 := hG3.of_below hb6
  have hf6 := hf3.below hb6
  clear hown6 hfull hrm hb6 HO4 HO5 hb4 hb5 hG3 hf3 hB3 hr3
  have hpy := HPE.out (List.replicate k 0 ++ mm) (by simp only [List.length_append, List.length_replicate]; omega)
  obtain ⟨full, hfu⟩ : ∃ x, E ++ (List.replicate k 0 ++ mm) = x := ⟨_, rfl⟩
  have hfl : full.length = nE + k + qn := by rw [← hfu, List.length_append, List.length_append, List.length_replicate, HNE.out, hql]; omega
  rw [hfu] at hpy hr6
  rw [HNE.out, hfl] at hpy
  clear hfu HPE
  obtain ⟨sp, hsp⟩ : ∃ x, m.s = x := ⟨_, rfl⟩
  rw [hsp] at hpy
  obtain ⟨en, hen⟩ : ∃ x : Int, (if sp = 2 then (((nE + k + qn : Nat) : Int)) else (nE : Int) + k) = x := ⟨_, rfl⟩
  rw [hen] at hpy
  refine (hparse_any A6 _ c6 full w6 hr6 (by omega) hnil6).mono ?_
  intro e w7 hpost
  unfold HPPost at hpost
  rw [hpy] at hpost
  obtain ⟨⟨d', rfl, hin7, _⟩, hb7⟩ := hpost
  simp only at hin7 ⊢
  obtain ⟨m', hm'⟩ : ∃ x : HN, (⟨sp, m.t, m.f, 1, false⟩ : HN) = x := ⟨_, rfl⟩
  have hm's : m'.s = sp := by rw [← hm']
  have hm't : m'.t = m.t := by rw [← hm']
  have hm'f : m'.f = m.f := by rw [← hm']
  rw [hm'] at hpy ⊢
  have HPY := Lib.hid hpy
  clear hm' hpy
  have hB7 := hB6.trans (hb7.mono hB6.size)
  have hG7 := hG6.of_below hb7
  have hf7 := hf6.below hb7
  have hr7 := (hr6.below hb7).more hb7.size
  clear hb7 hG6 hf6 hB6 hr6
  have hH8 := At.new w7 28 (hdL m' d')
  have hb8 : Below w7.heap.size w7 (w7.alloc (.cells (hdL m' d').toArray 28)) := (Below.refl _ _).alloc (Nat.le_refl _) _
  obtain ⟨w8, hw8⟩ : ∃ x, w7.alloc (.cells (hdL m' d').toArray 28) = x := ⟨_, rfl⟩
  rw [hw8] at hH8 hb8
  go_wp2_with (first | ((with_reducible refine at_sth ?_); refine wpList_store_top w7 28 (hdL HN.zero Sl.nil) (hdL m' d') (by rfl) _ (by rfl) (by rfl) (by rfl) (by rfl) hd_info (by rfl) ?_; rw [hw8]; clear hw8) | fail)
  obtain ⟨g12, hg12⟩ : ∃ g, w7.heap.size = g := ⟨_, rfl⟩
  rw [hg12] at hH8 ⊢
  have hB8 := hB7.trans (hb8.mono hB7.size)
  have hG8 := hG7.of_below hb8
  have hf8 := hf7.below hb8
  have hin8 := hin7.below_ hb8
  have hr8 := (hr7.below hb8).more hb8.size
  clear hb8 hG7 hf7 hB7 hr7 hin7 hg12
  refine (hfirst_any A6 _ c6 full w8 hr8 (by omega) hnil6).mono ?_
  intro e w9 hpost
  unfold FirstPost at hpost
  rw [HPY.out] at hpost
  obtain ⟨rfl, hb9⟩ := hpost
  simp only [Option.isSome_some, N8.v_l] at *
  have hB9 := hB8.trans (hb9.mono hB8.size)
  have hG9 := hG8.of_below hb9
  have hH9 := hH8.of_below hb9
  have hf9 := hf8.below hb9
  have hin9 := hin8.below_ hb9
  clear hb9 hG8 hf8 hB8 hr8 hin8 hH8
  obtain ⟨C, hC⟩ : ∃ C, m.t.l.map (Value.int .u8) = C := ⟨_, rfl⟩
  obtain ⟨D, hD⟩ : ∃ D, m.f.l.map (Value.int .u8) = D := ⟨_, rfl⟩
  have hCl : C.length = 8 := by rw [← hC]; rfl
  have hDl : D.length = 8 := by rw [← hD]; rfl
  have hCo : C.all (·.oneCell') = true := by rw [← hC]; rfl
  have RC : ∀ W : World, (Op.equalIn 10000 26 (.agg C.toArray) (.agg C.toArray)).run Try.prog W = .ok true W := fun W => by
    have := run_n8' W m.t m.t; rw [n8B_refl, hC] at this; exact this
  have RD : ∀ W : World, (Op.equalIn 10000 26 (.agg D.toArray) (.agg D.toArray)).run Try.prog W = .ok true W := fun W => by
    have := run_n8' W m.f m.f; rw [n8B_refl, hD] at this; exact this
  rw [hm't, hC]
  have hJ := At.new w9 26 C
  have hb10 : Below w9.heap.size w9 (w9.alloc (.cells C.toArray 26)) := (Below.refl _ _).alloc (Nat.le_refl _) _
  have hG10 := hG9.of_below hb10
  have hH10 := hH9.of_below hb10
  have hf10 := hf9.below hb10
  have hin10 := hin9.below_ hb10
  have hB10 := hB9.trans (hb10.mono hB9.size)
  obtain ⟨w10, hw10⟩ : ∃ x, w9.alloc (.cells C.toArray 26) = x := ⟨_, rfl⟩
  rw [hw10] at hJ hb10 hG10 hH10 hf10 hin10 hB10
  obtain ⟨g16, hg16⟩ : ∃ g, w9.heap.size = g := ⟨_, rfl⟩
  rw [hg16] at hJ
  have hJ16 : w10.rangeAt g16 0 C := hJ.rangeAt
  have hto7 := hd_to hG10
  have hfr7 := hd_from hG10
  have hto12 := hd_to hH10
  have hfr12 := hd_from hH10
  rw [hm't, hC] at hto12
  rw [hm'f, hD] at hfr12
  rw [hC] at hto7
  rw [hD] at hfr7
  have a0 : w10.cell? ⟨g7, 0, none⟩ = some (.int .i64 sp) := by rw [← hsp]; exact hG10.cell 0
  have b0 : w10.cell? ⟨g12, 0, none⟩ = some (.int .i64 sp) := by rw [← hm's]; exact hH10.cell 0
  have a17 : w10.cell? ⟨g7, 17, none⟩ = some (.slice d.A d.n d.c) := hG10.cell 17
  have b17 : w10.cell? ⟨g12, 17, none⟩ = some (.slice d'.A d'.n d'.c) := hH10.cell 17
  have t7 := run_text (P := Try.prog) (c := d.c) hf10.dt.rd.1 22 5 9 Try.underlying22 Try.underlying5 Try.underlying9
  have t12 := run_text (P := Try.prog) (c := d'.c) hin10.rd.1 22 5 9 Try.underlying22 Try.underlying5 Try.underlying9
  obtain ⟨TX, hTX⟩ : ∃ x, strOfNums tok = x := ⟨_, rfl⟩
  rw [hTX] at t7 t12
  have hTT : (TX == TX) = true := bb_refl TX
  have hTN : (TX != TX) = false := by rw [bne, hTT]; rfl
  obtain ⟨xA, xn, xc⟩ := d
  obtain ⟨yA, yn, yc⟩ := d'
  simp only at a17 b17 t7 t12
  have HCl := Lib.hid hCl
  have HDl := Lib.hid hDl
  have HCo := Lib.hid hCo
  clear hC hD hCl hDl hCo hTX hG9 hH9 hf9 hin9 hB9 hG10 hH10 hf10 hin10 hm's hm't hm'f hsp r1 r2 r3 r4 r5 r6 r7 r8 hrt HPY
  have HB10 := Lib.hid hB10
  clear hB10
  have KN := Lib.hid hknown_any
  rcases (show sp = 2 ∨ ¬ sp = 2 by omega) with h2 | h2
  · subst h2
    rw [if_pos rfl] at hen
    subst hen
    go_wp2_with (first
      | ((with_reducible refine at_stc ?_); refine wpList_store_top w9 26 (List.replicate 8 (Value.int .u8 0)) C (by rfl) _ (by rfl) hg16.symm (by rfl) (by rw [HCl.out]; rfl) (by rw [HCl.out]; exact cid_info) HCo.out ?_; rw [hw10]; clear hw10 hg16)
      | ((with_reducible refine at_ldc (x := .tmp 60) ?_); refine ld_off_g g12 1 C _ (by rfl) (by rfl) hto12 Try.underlying26 rfl (by rw [HCl.out]; exact cid_info) ?_)
      | ((with_reducible refine at_ldc (x := .tmp 62) ?_); refine ld_off_g g7 1 C _ (by rfl) (by rfl) hto7 Try.underlying26 rfl (by rw [HCl.out]; exact cid_info) ?_)
      | ((with_reducible refine at_ldc (x := .tmp 67) ?_); refine ld_off_g g12 9 D _ (by rfl) (by rfl) hfr12 Try.underlying26 rfl (by rw [HDl.out]; exact cid_info) ?_)
      | ((with_reducible refine at_ldc (x := .tmp 69) ?_); refine ld_off_g g7 9 D _ (by rfl) (by rfl) hfr7 Try.underlying26 rfl (by rw [HDl.out]; exact cid_info) ?_)
      | ((with_reducible refine at_ldc (x := .tmp 16) ?_); refine ld_off_g g16 0 C _ (by rfl) (by rfl) hJ16 Try.underlying26 rfl (by rw [HCl.out]; exact cid_info) ?_)
      | ((with_reducible refine at_ldc (x := .tmp 94) ?_); refine ld_off_g g7 1 C _ (by rfl) (by rfl) hto7 Try.underlying26 rfl (by rw [HCl.out]; exact cid_info) ?_)
      | fail)
    refine (KN.out _).mono ?_
    rintro e w11 ⟨rfl, hb11⟩
    go_wp2_with fail
    go_ret
    exact ⟨rfl, HB10.out.trans (hb11.mono HB10.out.size)⟩
  · have e2 : (sp == 2) = false := by simpa using h2
    rw [if_neg h2] at hen
    subst hen
    go_wp2_with (first
      | ((with_reducible refine at_stc ?_); refine wpList_store_top w9 26 (List.replicate 8 (Value.int .u8 0)) C (by rfl) _ (by rfl) hg16.symm (by rfl) (by rw [HCl.out]; rfl) (by rw [HCl.out]; exact cid_info) HCo.out ?_; rw [hw10]; clear hw10 hg16)
      | ((with_reducible refine at_ldc (x := .tmp 60) ?_); refine ld_off_g g12 1 C _ (by rfl) (by rfl) hto12 Try.underlying26 rfl (by rw [HCl.out]; exact cid_info) ?_)
      | ((with_reducible refine at_ldc (x := .tmp 62) ?_); refine ld_off_g g7 1 C _ (by rfl) (by rfl) hto7 Try.underlying26 rfl (by rw [HCl.out]; exact cid_info) ?_)
      | ((with_reducible refine at_ldc (x := .tmp 67) ?_); refine ld_off_g g12 9 D _ (by rfl) (by rfl) hfr12 Try.underlying26 rfl (by rw [HDl.out]; exact cid_info) ?_)
      | ((with_reducible refine at_ldc (x := .tmp 69) ?_); refine ld_off_g g7 9 D _ (by rfl) (by rfl) hfr7 Try.underlying26 rfl (by rw [HDl.out]; exact cid_info) ?_)
      | ((with_reducible refine at_ldc (x := .tmp 16) ?_); refine ld_off_g g16 0 C _ (by rfl) (by rfl) hJ16 Try.underlying26 rfl (by rw [HCl.out]; exact cid_info) ?_)
      | ((with_reducible refine at_ldc (x := .tmp 94) ?_); refine ld_off_g g7 1 C _ (by rfl) (by rfl) hto7 Try.underlying26 rfl (by rw [HCl.out]; exact cid_info) ?_)
      | fail)
    refine (KN.out _).mono ?_
    rintro e w11 ⟨rfl, hb11⟩
    go_wp2_with fail
    go_ret
    exact ⟨rfl, HB10.out.trans (hb11.mono HB10.out.size)⟩
theorem hback_law (S T F W : Int) (tA : Option Addr) (tn tc : Nat) (bs0 : List Int) (ph : Bool) (n : Int) (A' : Option Addr) (n' c' : Nat) (ms : List Int) (w : World)
    (hx : XIn w S T F W tA tn tc bs0) (hn : (Lit.int .i64 n).wf = true) (hm : InRow w A' n' c' ms) :
    Calls Try.prog 4 #[.agg (xL S T F W ⟨tA, tn, tc⟩ ph).toArray, .int .i64 n, .slice A' n' c'] w fun e w'' => e = .returned (.bool true) ∧ Below w.heap.size w w'' :=
  hback_walk S T F W tA tn tc bs0 ph n A' n' c' ms w hx.sa hx.ta hx.fa hx.wa hx.row (bounds_i64 hn) hm
theorem parse_long_s (bs : List Int) (h : HN) (tok : List Int) (a b : Int) (hp : parseS bs = some (h, tok, a, b)) (hx : ¬ byteR (bs, false) / 128 = 0) : h.s ≠ 2 := by
  unfold parseS at hp
  simp only at hp
  by_cases h64 : byteR (bs, false) / 64 % 2 = 0
  · rw [if_pos h64] at hp; cases hp
  rw [if_neg h64, if_neg hx] at hp
  unfold htailS at hp
  split at hp
  case isFalse => cases hp
  case isTrue hc =>
    injection hp with hp
    injection hp with e1 _
    have := of_decide_eq_true hc.1
    rw [← e1]
    show byteR (bs, false) / 16 % 4 ≠ 2
    omega
/-- A long head's bytes open so. -/
theorem henc_open (m : HN) (tok : List Int) (n : Int) (h : m.s ≠ 2) : ∃ r, hencS m tok n = hfirst m :: 0 :: 0 :: 0 :: 1 :: 8 :: r := by
  unfold hencS; rw [if_neg h]
  exact ⟨m.t.l ++ 8 :: (m.f.l ++ ((if m.s = 0 then textB tok else []) ++ twoB (16384 + n))), by simp only [List.cons_append, List.nil_append, List.append_assoc]⟩
theorem cut_none (m : HN) (tok : List Int) (k : Nat) (h0 : 0 ≤ m.s) (h1 : m.s ≤ 1) (w0 : 1 ≤ m.w) (w4 : m.w ≤ 4) (ht : tok.length ≤ 32) (ht0 : m.s ≠ 0 → tok = []) (hk : 12 ≤ k) (hk1 : k ≤ 16383) (q : Nat)
    (hq : q < (hencS m tok k ++ List.replicate k 0).length) : parseS ((hencS m tok k ++ List.replicate k 0).take q) = none := by
  obtain ⟨r, hr⟩ := henc_open m tok k (by omega)
  have hb := hfirst_bd m h0 (by omega) w0 w4
  have hpe := parse_enc m tok k (List.replicate k 0) h0 (by omega) w0 w4 ht ht0 (fun h => by omega) (by omega) (by omega) (by simp)
  cases hp : parseS ((hencS m tok k ++ List.replicate k 0).take q) with
  | none => rfl
  | some x =>
    obtain ⟨h, t, a, b⟩ := x
    exfalso
    rcases Nat.eq_zero_or_pos q with hq0 | hq0
    · subst hq0
      rw [List.take_zero, parse_nil] at hp
      cases hp
    · have hx : byteR ((hencS m tok k ++ List.replicate k 0).take q, false) = hfirst m := by
        rw [hr, List.cons_append]
        obtain ⟨j, rfl⟩ : ∃ j, q = j + 1 := ⟨q - 1, by omega⟩
        rw [List.take_succ_cons]
        exact (take_cons _ _).1
      have h128 := hb.2.2.2.2 (by omega)
      have hs := parse_long_s _ _ _ _ _ hp (by rw [hx]; omega)
      have hm := parse_more _ ((hencS m tok k ++ List.replicate k 0).drop q) _ _ _ _ hp hs
      rw [List.take_append_drop, hpe] at hm
      obtain ⟨e, hle⟩ := hm
      injection e with e
      injection e with _ e
      injection e with _ e
      injection e with _ e
      rw [if_neg (by omega)] at e
      rw [List.length_take] at hle
      rw [List.length_append, List.length_replicate] at hq
      omega
theorem bit_none (x : Int) (r : List Int) (hx : x / 64 % 2 = 0) : parseS (x :: r) = none := by
  unfold parseS; simp only; rw [if_pos (by rw [(take_cons _ _).1]; exact hx)]
theorem version_none (x z : Int) (r : List Int) (hz : z ≠ 1) (h64 : ¬ x / 64 % 2 = 0) (h128 : ¬ x / 128 = 0) : parseS (x :: 0 :: 0 :: 0 :: z :: r) = none := by
  unfold parseS
  simp only
  rw [(take_cons _ _).1, (take_cons _ _).2, if_neg h64, if_neg h128]
  have t4 := take_app [0, 0, 0, z] r 4 rfl
  have e : (0 :: 0 :: 0 :: z :: r) = [0, 0, 0, z] ++ r := rfl
  rw [e, t4.1, t4.2]
  unfold htailS
  rw [if_neg]
  rintro ⟨hd, _⟩
  have := of_decide_eq_true hd
  simp at this
  exact hz this.2
set_option maxRecDepth 100000 in
theorem nat_or128 : ∀ n : Fin 256, 128 ≤ (n.val ||| 128) ∧ (n.val ||| 128) < 256 := by decide
theorem b_or128 (x : Int) (h0 : 0 ≤ x) (h1 : x < 256) : 128 ≤ bits BinOp.or IntKind.u8 x 128 ∧ bits BinOp.or IntKind.u8 x 128 < 256 := by
  obtain ⟨n, rfl⟩ := Int.eq_ofNat_of_zero_le h0
  rw [u8_or _ _ h0 h1 (by decide) (by decide)]
  have := nat_or128 ⟨n, by omega⟩
  simp only at this
  rw [show (Int.toNat (n : Int)) = n from rfl, show Int.toNat (128 : Int) = 128 from rfl]
  omega
theorem Own.place {w : World} {base : Nat} {e : TypeId} {v : Value} {bs : List Int} (h : Own w base e v bs) (hp : 0 < bs.length) :
    ∃ g c l, v = .slice (some ⟨g, 0, none⟩) bs.length c ∧ At w g e l ∧ l.length = c ∧ l.take bs.length = bs.map (Value.int .u8) ∧ base ≤ g ∧ bs.length ≤ c ∧ c ≤ maxLen := by
  rcases h.1.2 with ⟨_, h0⟩ | ⟨g, cap, cur, hv, hbg, hg, hnc, hcm, hcs, htake⟩
  · omega
  · exact ⟨g, cap, cur.toList, hv, hg, by simp; omega, by simpa using htake, hbg, hnc, hcm⟩
theorem place_cell {w : World} {g : Nat} {e : TypeId} {l : List Value} {bs : List Int} (h : At w g e l) (ht : l.take bs.length = bs.map (Value.int .u8)) (i : Nat) (x : Int) (hx : bs[i]? = some x) : w.cell? ⟨g, i, none⟩ = some (.int .u8 x) := by
  rw [h.cell]
  have hi : i < bs.length := (List.getElem?_eq_some_iff.1 hx).1
  rw [← List.getElem?_take_of_lt hi, ht, List.getElem?_map, hx]
  rfl
theorem place_set {w : World} {g base : Nat} {e : TypeId} {l : List Value} {bs : List Int} {c : Nat} (h : At w g e l) (hl : l.length = c) (ht : l.take bs.length = bs.map (Value.int .u8)) (hb : Byt bs) (hbg : base ≤ g) (hn : bs.length ≤ c) (hc : c ≤ maxLen) (i : Nat) (y : Int) (hy : 0 ≤ y ∧ y < 256) :
    Own (w.setCell ⟨g, i, none⟩ (.int .u8 y)) base e (.slice (some ⟨g, 0, none⟩) bs.length c) (bs.set i y) := by
  refine Own.of_block ?_ (by simp) (h.set i (.int .u8 y)) hbg hn hc (by simp [hl]) ?_
  · intro z hz
    rcases List.mem_or_eq_of_mem_set hz with hz | hz
    · exact hb z hz
    · rw [hz]; exact hy
  · show (l.set i (.int .u8 y)).take bs.length = _
    rw [List.take_set, ht, List.map_set]
end Go.Proofs.Ytbioajgmceodhaa
