/-
  LockTells returns true at every input: its walk.
-/
import Derived.Test.YtkgeeoogmkpjhaaL3
namespace Go.Proofs.Ytkgeeoogmkpjhaa
set_option linter.unusedVariables false
set_option linter.unusedSimpArgs false
open Go.RowKit Go.ChangeShapes Go.WideShapes Go.Deep
theorem At.rd5 {w : World} {g : Nat} {T : TypeId} {l : List Int} (h : At w g T (l.map (Value.int .u8))) (hb : Byt l) (hl : l.length = 5) : Rd w w.heap.size (some ⟨g, 0, none⟩) 5 l := by
  refine ⟨hl, hb, fun _ => ⟨g, 0, rfl, h.lt, fun i hi => ?_⟩⟩
  rw [h.cell, Nat.zero_add, List.getElem?_map, List.getD_eq_getElem?_getD, List.getElem?_eq_getElem (by omega)]
  rfl
/-- What stays while LockTells asks. -/
structure LtS (w : World) (Ah : Option Addr) (mh : Nat) (head : List Int) (Ab : Option Addr) (mb : Nat) (body : List Int) (As Ax : Option Addr) (ms : Nat) (s x : List Int) (Ac : Option Addr) (mc : Nat) (bb : List Int) (g19 : Nat) (sm : N8) (g23 : Nat) (L5 : List Int) (T : ByteArray) (W : World) : Prop where
  b : Below w.heap.size w W
  rh : Rd W W.heap.size Ah mh head
  rb : Rd W W.heap.size Ab mb body
  rs : Rd W W.heap.size As ms s
  rx : Rd W W.heap.size Ax ms x
  rc : Rd W W.heap.size Ac mc bb
  a19 : At W g19 28 (sm.l.map (Value.int .u8))
  a23 : At W g23 31 (L5.map (Value.int .u8))
  t : (convert 22 9 (.slice (some ⟨g23, 0, none⟩) 5 5)).run Try.prog W = .ok (.string T) W
section
variable {w : World} {Ah : Option Addr} {mh : Nat} {head : List Int} {Ab : Option Addr} {mb : Nat} {body : List Int} {As Ax : Option Addr} {ms : Nat} {s x : List Int} {Ac : Option Addr} {mc : Nat} {bb : List Int} {g19 : Nat} {sm : N8} {g23 : Nat} {L5 : List Int} {T : ByteArray} {W W' : World}
theorem LtS.below (hT : strOfNums L5 = T ∧ Byt L5 ∧ L5.length = 5) (h : LtS w Ah mh head Ab mb body As Ax ms s x Ac mc bb g19 sm g23 L5 T W) (k : Below W.heap.size W W') : LtS w Ah mh head Ab mb body As Ax ms s x Ac mc bb g19 sm g23 L5 T W' :=
  ⟨h.b.trans (k.mono h.b.size), (h.rh.below k).more k.size, (h.rb.below k).more k.size, (h.rs.below k).more k.size, (h.rx.below k).more k.size, (h.rc.below k).more k.size, h.a19.below k h.a19.lt, h.a23.below k h.a23.lt,
    by rw [← hT.1]; exact run_text (P := Try.prog) (c := 5) ((h.a23.below k h.a23.lt).rd5 hT.2.1 hT.2.2) 22 5 9 Try.underlying22 Try.underlying5 Try.underlying9⟩
end
set_option maxRecDepth 100000 in
set_option maxHeartbeats 8000000 in
theorem ltells_walk (key other n m : Int) (Ah : Option Addr) (nh ch : Nat) (head0 : List Int) (Ab : Option Addr) (nb cb : Nat) (body0 : List Int) (Ac : Option Addr) (nc cc : Nat) (bb0 : List Int) (at_ turn : Int) (sm : N8) (w : World)
    (k0 : 0 ≤ key) (k1 : key < 18446744073709551616) (o0 : 0 ≤ other) (o1 : other < 18446744073709551616) (n0 : 0 ≤ n) (n1 : n < 18446744073709551616) (m0 : 0 ≤ m) (m1 : m < 18446744073709551616)
    (hih : InRow w Ah nh ch head0) (hib : InRow w Ab nb cb body0) (hic : InRow w Ac nc cc bb0) (u0 : -9223372036854775808 ≤ at_) (u1 : at_ ≤ 9223372036854775807) (t0 : 0 ≤ turn) (t1 : turn < 256) (hsm : Byt sm.l) :
    Calls Try.prog 4 #[.int .u64 key, .int .u64 other, .int .u64 n, .int .u64 m, .slice Ah nh ch, .slice Ab nb cb, .slice Ac nc cc, .int .i64 at_, .int .u8 turn, sm.v] w fun e w' => e = .returned (.bool true) ∧ Below w.heap.size w w' := by
  obtain ⟨i0, hi, hz0, hz1, hz2⟩ := info_parts u8_info
  have hch := fun W => cut_any Ah nh ch 30 W hih.2.1 hih.2.2.1 (by omega) (hih.cutk 30).2.2.2.2.2
  have hcb := fun W => cut_any Ab nb cb 100 W hib.2.1 hib.2.2.1 (by omega) (hib.cutk 100).2.2.2.2.2
  have hcc := fun W => cut_any Ac nc cc 60 W hic.2.1 hic.2.2.1 (by omega) (hic.cutk 60).2.2.2.2.2
  obtain ⟨hrh, hh1, _, hh2, hh3, _⟩ := hih.cutk 30
  obtain ⟨hrb, hb1, _, hb2, hb3, _⟩ := hib.cutk 100
  obtain ⟨hrc, hc1, _, hc2, hc3, _⟩ := hic.cutk 60
  obtain ⟨head, hhd⟩ : ∃ x, head0.take (min nh 30) = x := ⟨_, rfl⟩
  obtain ⟨body, hbd⟩ : ∃ x, body0.take (min nb 100) = x := ⟨_, rfl⟩
  obtain ⟨bb, hcd⟩ : ∃ x, bb0.take (min nc 60) = x := ⟨_, rfl⟩
  rw [hhd] at hrh
  rw [hbd] at hrb
  rw [hcd] at hrc
  obtain ⟨mh, hmh⟩ : ∃ x, min nh 30 = x := ⟨_, rfl⟩
  obtain ⟨mb, hmb⟩ : ∃ x, min nb 100 = x := ⟨_, rfl⟩
  obtain ⟨mc, hmc⟩ : ∃ x, min nc 60 = x := ⟨_, rfl⟩
  rw [hmh] at hrh hch hh1 hh2
  rw [hmb] at hrb hcb hb1 hb2
  rw [hmc] at hrc hcc hc1 hc2
  have hsl : (sealS key n head body).length = mb + 8 := by rw [sealS_len, hrb.1]
  have hss := sealS_byt key n head body
  have HCH := Lib.hid hch
  have HCB := Lib.hid hcb
  have HCC := Lib.hid hcc
  have HRS := Lib.hid (fun W (h : Rd W W.heap.size Ah mh head) (h' : Rd W W.heap.size Ab mb body) => rseal_any key n Ah mh ch head Ab mb cb body W h h' hh2 hh3 hb2 hb3 (by omega) k0 k1 n0 n1)
  have HSA := Lib.hid (fun W (h : Rd W W.heap.size Ah mh head) (h' : Rd W W.heap.size Ab mb body) => lsame_any key n Ah mh ch head Ab mb cb body W h h' hh2 hh3 hb2 hb3 (by omega) k0 k1 n0 n1)
  obtain ⟨s, hs⟩ : ∃ x, sealS key n head body = x := ⟨_, rfl⟩
  rw [hs] at hsl hss HRS
  have HSL := Lib.hid hsl
  have hW := Lib.hid (fun W => within_any at_ 0 ((mb : Int) + 8 - 1) W u0 u1 (by omega) (by omega) (by omega))
  have hwb := withinS_bd at_ 0 ((mb : Int) + 8 - 1) (by omega)
  have hwk : withinS at_ 0 ((mb : Int) + 8 - 1) = ((withinS at_ 0 ((mb : Int) + 8 - 1)).toNat : Int) := by omega
  obtain ⟨kk, hkk⟩ : ∃ x, (withinS at_ 0 ((mb : Int) + 8 - 1)).toNat = x := ⟨_, rfl⟩
  rw [hkk] at hwk
  rw [hwk] at hW hwb
  have hkb : kk < mb + 8 := by omega
  have HM := Lib.hid (fun W => mask_any key sm W hsm k0 k1)
  have hmb5 : Byt (maskS key sm.l) := (b8_byt _).take 5
  have hml5 : (maskS key sm.l).length = 5 := rfl
  have HRM := Lib.hid (fun W g (h : Rd W W.heap.size (some ⟨g, 0, none⟩) 8 sm.l) => rmask_any key (some ⟨g, 0, none⟩) 8 8 sm.l W h (Nat.le_refl _) (by unfold maxLen; omega) k0 k1)
  obtain ⟨L5, hL5⟩ : ∃ x, maskS key sm.l = x := ⟨_, rfl⟩
  rw [hL5] at HM hmb5 hml5 HRM
  obtain ⟨T, hT⟩ : ∃ x, strOfNums L5 = x := ⟨_, rfl⟩
  have HT := Lib.hid (And.intro hT (And.intro hmb5 hml5))
  have hA0 : At (w.alloc (.cells #[.int .u8 sm.a0, .int .u8 sm.a1, .int .u8 sm.a2, .int .u8 sm.a3, .int .u8 sm.a4, .int .u8 sm.a5, .int .u8 sm.a6, .int .u8 sm.a7] 28)) w.heap.size 28 (sm.l.map (Value.int .u8)) := At.new w 28 _
  have hb0 : Below w.heap.size w (w.alloc (.cells #[.int .u8 sm.a0, .int .u8 sm.a1, .int .u8 sm.a2, .int .u8 sm.a3, .int .u8 sm.a4, .int .u8 sm.a5, .int .u8 sm.a6, .int .u8 sm.a7] 28)) := (Below.refl _ _).alloc (Nat.le_refl _) _
  obtain ⟨w0, hw0⟩ : ∃ x, w.alloc (.cells #[.int .u8 sm.a0, .int .u8 sm.a1, .int .u8 sm.a2, .int .u8 sm.a3, .int .u8 sm.a4, .int .u8 sm.a5, .int .u8 sm.a6, .int .u8 sm.a7] 28) = x := ⟨_, rfl⟩
  rw [hw0] at hA0 hb0
  have hvv : sm.v = .agg #[.int .u8 sm.a0, .int .u8 sm.a1, .int .u8 sm.a2, .int .u8 sm.a3, .int .u8 sm.a4, .int .u8 sm.a5, .int .u8 sm.a6, .int .u8 sm.a7] := rfl
  rw [hvv]
  have hrh := (hrh.below hb0).more hb0.size
  have hrb := (hrb.below hb0).more hb0.size
  have hrc := (hrc.below hb0).more hb0.size
  clear hvv hhd hbd hcd hmh hmb hmc hch hcb hcc hs hkk hwk hL5 hT hih hib hic hsl hmb5 hml5
  go_enter Try.func4, Try.ntmps4
  go_wp2_with fail
  refine (HCH.out _).mono ?_
  rintro e w' ⟨rfl, rfl⟩
  go_wp2_with fail
  refine (HCB.out _).mono ?_
  rintro e w' ⟨rfl, rfl⟩
  go_wp2_with fail
  clear hw0
  refine (HRS.out w0 hrh hrb).mono ?_
  rintro e w1 ⟨v1, rfl, ho1, hb1'⟩
  obtain ⟨As, cs, rfl, p1, p2, p3⟩ := ho1.open_n (mb + 8) HSL.out
  have hs1 := hb1'.size
  have p4 := p3.below (B := w1.heap.size) ((Below.refl _ _).alloc (Nat.le_refl _) (.cells #[] 5))
  have hbn : Below w1.heap.size w1 (w1.alloc (.cells #[] 5)) := (Below.refl _ _).alloc (Nat.le_refl _) _
  have hp2 := p2
  unfold maxLen at hp2
  go_wp2_with (first | (at_builtin; refine wpList_append_rd (by rfl) (.tmp 33) (.tmp 34) 22 rfl w1.heap.size 5 i0 Try.underlying22 hi hz0 hz1 hz2 _ [] rfl (Own.of_block (n := 0) (cap := 0) Byt.nil rfl (heap_alloc_new w1 _) (Nat.le_refl _) (Nat.le_refl _) (Nat.zero_le _) rfl rfl) _ As (mb + 8) cs s rfl p4 (by simp; omega) w1 hbn hbn.size ?_; intro v2 w2 ho2 hb2' hg2; have ho2 := ho2.cast (List.nil_append s); obtain ⟨A2, c2, rfl, q1, q2, _⟩ := ho2.open_n (mb + 8) HSL.out; obtain ⟨g, c', _, hv, _, _, _, hgb, _, _⟩ := ho2.place (by rw [HSL.out]; omega); obtain ⟨rfl, rfl⟩ : A2 = some ⟨g, 0, none⟩ ∧ c2 = c' := (by injection hv with e1 e2 e3; exact ⟨e1, e3⟩); clear hv hg2) | (go_at_call 12; refine (hW.out w2).mono ?_; rintro e w' ⟨rfl, rfl⟩; obtain ⟨y, hy⟩ : ∃ y, s.getD kk 0 = y := ⟨_, rfl⟩; obtain ⟨hcy, _, _, hfz⟩ := own_cell ho2 HSL.out kk y (by rw [← hy, List.getD_eq_getElem?_getD, List.getElem?_eq_getElem (by rw [HSL.out]; omega)]; rfl); have hq2 := q2; unfold maxLen at hq2; have hkc : (kk : Int) ≤ (c2 : Int) := (by omega); clear hy; obtain ⟨w3, hw3⟩ : ∃ x, w2.setCell ⟨g, kk, none⟩ (.int .u8 (bits BinOp.xor IntKind.u8 y turn)) = x := ⟨_, rfl⟩; have ho3 := own_set ho2 HSL.out (by omega) kk (bits BinOp.xor IntKind.u8 y turn) (u8_bits_bd _ _ _); have hb3' := hb2'.setCell (p := ⟨g, kk, none⟩) hgb (.int .u8 (bits BinOp.xor IntKind.u8 y turn)); rw [hw3] at ho3 hb3'; have hA3 := (hA0.below hb1' hA0.lt).below hb3' (by have := (hA0.below hb1' hA0.lt).lt; exact this); have p3 := (p3.below hb3').more hb3'.size; have hb3' := hb1'.trans (hb3'.mono hs1)) | ((with_reducible refine at_ld8 ?_); refine ld_8g (by rfl) w.heap.size 0 sm (by rfl) hA3.rangeAt ?_; clear hw3) | (go_at_call 13; refine (HM.out w3).mono ?_; rintro e w4 ⟨rfl, hb4'⟩; have ho4 := ho3.below hb4' (Nat.le_refl _); have p4 := (p3.below hb4').more hb4'.size; have hA4 := hA3.below hb4' hA3.lt; have hb4' := hb3'.trans (hb4'.mono hb3'.size); have hA5 : At (w4.alloc (.cells #[.int .u8 0, .int .u8 0, .int .u8 0, .int .u8 0, .int .u8 0] 31)) w4.heap.size 31 z5L := At.new w4 31 _; have hbn4 : Below w4.heap.size w4 (w4.alloc (.cells #[.int .u8 0, .int .u8 0, .int .u8 0, .int .u8 0, .int .u8 0] 31)) := (Below.refl _ _).alloc (Nat.le_refl _) _; obtain ⟨w5, hw5⟩ : ∃ x, w4.alloc (.cells #[.int .u8 0, .int .u8 0, .int .u8 0, .int .u8 0, .int .u8 0] 31) = x := ⟨_, rfl⟩; rw [hw5] at hA5 hbn4) | ((with_reducible refine at_st5 ?_); refine wpList_store_at w4.heap.size 31 z5L (L5.map (Value.int .u8)) (by rfl) (by rfl) hA5 (by rw [List.length_map, HT.out.2.2]; rfl) (by rw [List.length_map, HT.out.2.2]; exact a5_info) (by rw [List.all_eq_true]; exact oneCell_u8 L5) ?_; intro w6 hA6 hk6) | fail)
  have hb6 : Below w4.heap.size w4 w6 := hk6.below hbn4 hbn4.size (by intro j hj; subst hj; exact Nat.le_refl _)
  have hbw : Below w.heap.size w w4 := hb0.trans (hb4'.mono hb0.size)
  have hxl : (s.set kk (bits BinOp.xor IntKind.u8 y turn)).length = mb + 8 := by rw [List.length_set, HSL.out]
  have ho6 := ho4.below hb6 (Nat.le_refl _)
  obtain ⟨x, hx⟩ : ∃ x, s.set kk (bits BinOp.xor IntKind.u8 y turn) = x := ⟨_, rfl⟩
  rw [hx] at ho6 hxl
  obtain ⟨_, _, e6, _, _, q6⟩ := ho6.open_n (mb + 8) hxl
  injection e6 with e6 _ e7
  subst e6; subst e7
  have hS : LtS w Ah mh head Ab mb body As (some ⟨g, 0, none⟩) (mb + 8) s x Ac mc bb w.heap.size sm w4.heap.size L5 T w6 :=
    ⟨hbw.trans (hb6.mono hbw.size), (((hrh.below hb4').more hb4'.size).below hb6).more hb6.size, (((hrb.below hb4').more hb4'.size).below hb6).more hb6.size, (p4.below hb6).more hb6.size, q6, (((hrc.below hb4').more hb4'.size).below hb6).more hb6.size, hA4.below hb6 hA4.lt, hA6,
      by rw [← HT.out.1]; exact run_text (P := Try.prog) (c := 5) (hA6.rd5 HT.out.2.1 HT.out.2.2) 22 5 9 Try.underlying22 Try.underlying5 Try.underlying9⟩
  have hS0 := hS.below HT.out (Below.refl _ _).drew
  obtain ⟨Y, hY⟩ : ∃ x, w6.drew = x := ⟨_, rfl⟩
  rw [hY] at hS0
  have h28 : (T.toList == T.toList) = true := by simp
  have HO := Lib.hid (fun (key n : Int) (Ah : Option Addr) (mh ch : Nat) (head : List Int) (Ab : Option Addr) (nb cb : Nat) (sl : List Int) W (h1 : Rd W W.heap.size Ah mh head) (h2 : Rd W W.heap.size Ab nb sl) (h3 : mh ≤ ch) (h4 : ch ≤ maxLen) (h5 : nb ≤ cb) (h6 : cb ≤ maxLen) (h7 : mh + nb ≤ 1000) (k0 : 0 ≤ key) (k1 : key < 18446744073709551616) (n0 : 0 ≤ n) (n1 : n < 18446744073709551616) => opens_any key n Ah mh ch head Ab nb cb sl W h1 h2 h3 h4 h5 h6 (by omega) k0 k1 n0 n1)
  clear hS hx ho6 q6 hb6 hbw hk6 hA6 hA4 hA3 ho4 ho3 ho2 p4 p3 hb4' hb3' hb2' hb1' hbn4 hA5 hxl hrh hrb hrc hA0 hb0 hcy hfz hw5
  refine wp_region_held_drew (S := (fun W => LtS w Ah mh head Ab mb body As (some ⟨g, 0, none⟩) (mb + 8) s x Ac mc bb w.heap.size sm w4.heap.size L5 T W)) (by kernel_rfl) (by rw [hY]; exact hS0) (fun hHeld => ?_)
  rw [hY] at hHeld ⊢
  clear hY
  refine tkq 0 (some 50) (v := ?_) rfl (Or.inl ⟨by rfl, ?_⟩) (by assumption) ?_
  rotate_left
  · intro w hSw; (try dsimp only at hSw); go_simp; first | done | (with_reducible rfl)
  simp only [Act.put, List.setIfInBounds_toArray, List.set_cons_zero, List.set_cons_succ]
  refine tkq 1 (some 51) (v := ?_) rfl (Or.inl ⟨by rfl, ?_⟩) (by assumption) ?_
  rotate_left
  · intro w hSw; (try dsimp only at hSw); go_simp; first | done | (with_reducible rfl)
  simp only [Act.put, List.setIfInBounds_toArray, List.set_cons_zero, List.set_cons_succ]
  refine tkq 2 (some 52) (v := ?_) rfl (Or.inl ⟨by rfl, ?_⟩) (by assumption) ?_
  rotate_left
  · intro w hSw; (try dsimp only at hSw); go_simp; first | done | (with_reducible rfl)
  simp only [Act.put, List.setIfInBounds_toArray, List.set_cons_zero, List.set_cons_succ]
  refine tkq 3 (some 53) (v := ?_) rfl (Or.inl ⟨by rfl, ?_⟩) (by assumption) ?_
  rotate_left
  · intro w hSw; (try dsimp only at hSw); go_simp; first | done | (with_reducible rfl)
  simp only [Act.put, List.setIfInBounds_toArray, List.set_cons_zero, List.set_cons_succ]
  refine wpAnyH_ready (rs := [4]) (by kernel_rfl) (by simp) ?_
  refine AllReadyH.cons rfl (fun K hK => ?_) AllReadyH.nil
  go_simp
  go_wp2_with (go_at_call 7; refine (HSA.out _ hS0.rh hS0.rb).mono ?_; rintro e Y1 ⟨rfl, hqk1⟩; have hS1 := hS0.below HT.out hqk1)
  refine hK.out _ _ (hS1) (fun hHeld => ?_)
  clear hK K
  refine tkq 5 (some 55) (v := ?_) rfl (Or.inl ⟨by rfl, ?_⟩) (by assumption) ?_
  rotate_left
  · intro w hSw; (try dsimp only at hSw); go_simp; first | done | (with_reducible rfl)
  simp only [Act.put, List.setIfInBounds_toArray, List.set_cons_zero, List.set_cons_succ]
  refine tkq 6 (some 56) (v := ?_) rfl (Or.inl ⟨by rfl, ?_⟩) (by assumption) ?_
  rotate_left
  · intro w hSw; (try dsimp only at hSw); go_simp; first | done | (with_reducible rfl)
  simp only [Act.put, List.setIfInBounds_toArray, List.set_cons_zero, List.set_cons_succ]
  refine tkq 7 (some 57) (v := ?_) rfl (Or.inl ⟨by rfl, ?_⟩) (by assumption) ?_
  rotate_left
  · intro w hSw; (try dsimp only at hSw); go_simp; first | done | (with_reducible rfl)
  simp only [Act.put, List.setIfInBounds_toArray, List.set_cons_zero, List.set_cons_succ]
  refine tkq 8 (some 58) (v := ?_) rfl (Or.inl ⟨by rfl, ?_⟩) (by assumption) ?_
  rotate_left
  · intro w hSw; (try dsimp only at hSw); go_simp; first | done | (with_reducible rfl)
  simp only [Act.put, List.setIfInBounds_toArray, List.set_cons_zero, List.set_cons_succ]
  refine tkq 9 (some 59) (v := ?_) rfl (Or.inl ⟨by rfl, ?_⟩) (by assumption) ?_
  rotate_left
  · intro w hSw; (try dsimp only at hSw); go_simp; first | done | (with_reducible rfl)
  simp only [Act.put, List.setIfInBounds_toArray, List.set_cons_zero, List.set_cons_succ]
  refine wpAnyH_ready (rs := [10]) (by kernel_rfl) (by simp) ?_
  refine AllReadyH.cons rfl (fun K hK => ?_) AllReadyH.nil
  go_simp
  go_wp2_with (go_at_call 9; refine (HO.out key n Ah mh ch head As (mb + 8) cs s _ hS1.rh hS1.rs hh2 hh3 p1 p2 (by omega) k0 k1 n0 n1).mono ?_; rintro e Y2 ⟨rfl, hqk2⟩; have hS2 := hS1.below HT.out hqk2)
  refine hK.out _ _ (hS2) (fun hHeld => ?_)
  clear hK K
  refine tkq 11 (some 61) (v := ?_) rfl (Or.inl ⟨by rfl, ?_⟩) (by assumption) ?_
  rotate_left
  · intro w hSw; (try dsimp only at hSw); go_simp; first | done | (with_reducible rfl)
  simp only [Act.put, List.setIfInBounds_toArray, List.set_cons_zero, List.set_cons_succ]
  refine tkq 12 (some 62) (v := ?_) rfl (Or.inl ⟨by rfl, ?_⟩) (by assumption) ?_
  rotate_left
  · intro w hSw; (try dsimp only at hSw); go_simp; first | done | (with_reducible rfl)
  simp only [Act.put, List.setIfInBounds_toArray, List.set_cons_zero, List.set_cons_succ]
  refine tkq 13 (some 63) (v := ?_) rfl (Or.inl ⟨by rfl, ?_⟩) (by assumption) ?_
  rotate_left
  · intro w hSw; (try dsimp only at hSw); go_simp; first | done | (with_reducible rfl)
  simp only [Act.put, List.setIfInBounds_toArray, List.set_cons_zero, List.set_cons_succ]
  refine tkq 14 (some 64) (v := ?_) rfl (Or.inl ⟨by rfl, ?_⟩) (by assumption) ?_
  rotate_left
  · intro w hSw; (try dsimp only at hSw); go_simp; first | done | (with_reducible rfl)
  simp only [Act.put, List.setIfInBounds_toArray, List.set_cons_zero, List.set_cons_succ]
  refine tkq 15 (some 65) (v := ?_) rfl (Or.inl ⟨by rfl, ?_⟩) (by assumption) ?_
  rotate_left
  · intro w hSw; (try dsimp only at hSw); go_simp; first | done | (with_reducible rfl)
  simp only [Act.put, List.setIfInBounds_toArray, List.set_cons_zero, List.set_cons_succ]
  refine tkq 16 (some 66) (v := ?_) rfl (Or.inl ⟨by rfl, ?_⟩) (by assumption) ?_
  rotate_left
  · intro w hSw; (try dsimp only at hSw); go_simp; first | done | (with_reducible rfl)
  simp only [Act.put, List.setIfInBounds_toArray, List.set_cons_zero, List.set_cons_succ]
  refine wpAnyH_ready (rs := [17]) (by kernel_rfl) (by simp) ?_
  refine AllReadyH.cons rfl (fun K hK => ?_) AllReadyH.nil
  go_simp
  go_wp2_with (go_at_call 9; refine (HO.out key n Ah mh ch head (some ⟨g, 0, none⟩) (mb + 8) c2 x _ hS2.rh hS2.rx hh2 hh3 q1 q2 (by omega) k0 k1 n0 n1).mono ?_; rintro e Y3 ⟨rfl, hqk3⟩; have hS3 := hS2.below HT.out hqk3)
  refine hK.out _ _ (hS3) (fun hHeld => ?_)
  clear hK K
  refine tkq 18 (some 68) (v := ?_) rfl (Or.inl ⟨by rfl, ?_⟩) (by assumption) ?_
  rotate_left
  · intro w hSw; (try dsimp only at hSw); go_simp; first | done | (with_reducible rfl)
  simp only [Act.put, List.setIfInBounds_toArray, List.set_cons_zero, List.set_cons_succ]
  refine tkq 19 (some 69) (v := ?_) rfl (Or.inl ⟨by rfl, ?_⟩) (by assumption) ?_
  rotate_left
  · intro w hSw; (try dsimp only at hSw); go_simp; first | done | (with_reducible rfl)
  simp only [Act.put, List.setIfInBounds_toArray, List.set_cons_zero, List.set_cons_succ]
  refine tkq 20 (some 70) (v := ?_) rfl (Or.inl ⟨by rfl, ?_⟩) (by assumption) ?_
  rotate_left
  · intro w hSw; (try dsimp only at hSw); go_simp; first | done | (with_reducible rfl)
  simp only [Act.put, List.setIfInBounds_toArray, List.set_cons_zero, List.set_cons_succ]
  refine tkq 21 (some 71) (v := ?_) rfl (Or.inl ⟨by rfl, ?_⟩) (by assumption) ?_
  rotate_left
  · intro w hSw; (try dsimp only at hSw); go_simp; first | done | (with_reducible rfl)
  simp only [Act.put, List.setIfInBounds_toArray, List.set_cons_zero, List.set_cons_succ]
  refine tkq 22 (some 72) (v := ?_) rfl (Or.inl ⟨by rfl, ?_⟩) (by assumption) ?_
  rotate_left
  · intro w hSw; (try dsimp only at hSw); go_simp; first | done | (with_reducible rfl)
  simp only [Act.put, List.setIfInBounds_toArray, List.set_cons_zero, List.set_cons_succ]
  refine tkq 23 (some 73) (v := ?_) rfl (Or.inl ⟨by rfl, ?_⟩) (by assumption) ?_
  rotate_left
  · intro w hSw; (try dsimp only at hSw); go_simp; first | done | (with_reducible rfl)
  simp only [Act.put, List.setIfInBounds_toArray, List.set_cons_zero, List.set_cons_succ]
  refine wpAnyH_ready (rs := [24]) (by kernel_rfl) (by simp) ?_
  refine AllReadyH.cons rfl (fun K hK => ?_) AllReadyH.nil
  go_simp
  go_wp2_with (go_at_call 9; refine (HO.out other n Ah mh ch head As (mb + 8) cs s _ hS3.rh hS3.rs hh2 hh3 p1 p2 (by omega) o0 o1 n0 n1).mono ?_; rintro e Y4 ⟨rfl, hqk4⟩; have hS4 := hS3.below HT.out hqk4)
  refine hK.out _ _ (hS4) (fun hHeld => ?_)
  clear hK K
  refine tkq 25 (some 75) (v := ?_) rfl (Or.inl ⟨by rfl, ?_⟩) (by assumption) ?_
  rotate_left
  · intro w hSw; (try dsimp only at hSw); go_simp; first | done | (with_reducible rfl)
  simp only [Act.put, List.setIfInBounds_toArray, List.set_cons_zero, List.set_cons_succ]
  refine tkq 26 (some 76) (v := ?_) rfl (Or.inl ⟨by rfl, ?_⟩) (by assumption) ?_
  rotate_left
  · intro w hSw; (try dsimp only at hSw); go_simp; first | done | (with_reducible rfl)
  simp only [Act.put, List.setIfInBounds_toArray, List.set_cons_zero, List.set_cons_succ]
  refine tkq 27 (some 77) (v := ?_) rfl (Or.inl ⟨by rfl, ?_⟩) (by assumption) ?_
  rotate_left
  · intro w hSw; (try dsimp only at hSw); go_simp; first | done | (with_reducible rfl)
  simp only [Act.put, List.setIfInBounds_toArray, List.set_cons_zero, List.set_cons_succ]
  refine tkq 28 (some 78) (v := ?_) rfl (Or.inl ⟨by rfl, ?_⟩) (by assumption) ?_
  rotate_left
  · intro w hSw; (try dsimp only at hSw); go_simp; first | done | (with_reducible rfl)
  simp only [Act.put, List.setIfInBounds_toArray, List.set_cons_zero, List.set_cons_succ]
  refine tkq 29 (some 79) (v := ?_) rfl (Or.inl ⟨by rfl, ?_⟩) (by assumption) ?_
  rotate_left
  · intro w hSw; (try dsimp only at hSw); go_simp; first | done | (with_reducible rfl)
  simp only [Act.put, List.setIfInBounds_toArray, List.set_cons_zero, List.set_cons_succ]
  refine tkq 30 (some 80) (v := ?_) rfl (Or.inl ⟨by rfl, ?_⟩) (by assumption) ?_
  rotate_left
  · intro w hSw; (try dsimp only at hSw); go_simp; first | done | (with_reducible rfl)
  simp only [Act.put, List.setIfInBounds_toArray, List.set_cons_zero, List.set_cons_succ]
  refine wpAnyH_ready (rs := [31]) (by kernel_rfl) (by simp) ?_
  refine AllReadyH.cons rfl (fun K hK => ?_) AllReadyH.nil
  go_simp
  go_wp2_with (go_at_call 9; refine (HO.out key m Ah mh ch head As (mb + 8) cs s _ hS4.rh hS4.rs hh2 hh3 p1 p2 (by omega) k0 k1 m0 m1).mono ?_; rintro e Y5 ⟨rfl, hqk5⟩; have hS5 := hS4.below HT.out hqk5)
  refine hK.out _ _ (hS5) (fun hHeld => ?_)
  clear hK K
  refine tkq 32 (some 82) (v := ?_) rfl (Or.inl ⟨by rfl, ?_⟩) (by assumption) ?_
  rotate_left
  · intro w hSw; (try dsimp only at hSw); go_simp; first | done | (with_reducible rfl)
  simp only [Act.put, List.setIfInBounds_toArray, List.set_cons_zero, List.set_cons_succ]
  refine tkq 33 (some 83) (v := ?_) rfl (Or.inl ⟨by rfl, ?_⟩) (by assumption) ?_
  rotate_left
  · intro w hSw; (try dsimp only at hSw); go_simp; first | done | (with_reducible rfl)
  simp only [Act.put, List.setIfInBounds_toArray, List.set_cons_zero, List.set_cons_succ]
  refine tkq 34 (some 84) (v := ?_) rfl (Or.inl ⟨by rfl, ?_⟩) (by assumption) ?_
  rotate_left
  · intro w hSw; (try dsimp only at hSw); go_simp; first | done | (with_reducible rfl)
  simp only [Act.put, List.setIfInBounds_toArray, List.set_cons_zero, List.set_cons_succ]
  refine tkq 35 (some 85) (v := ?_) rfl (Or.inl ⟨by rfl, ?_⟩) (by assumption) ?_
  rotate_left
  · intro w hSw; (try dsimp only at hSw); go_simp; first | done | (with_reducible rfl)
  simp only [Act.put, List.setIfInBounds_toArray, List.set_cons_zero, List.set_cons_succ]
  refine tkq 36 (some 86) (v := ?_) rfl (Or.inl ⟨by rfl, ?_⟩) (by assumption) ?_
  rotate_left
  · intro w hSw; (try dsimp only at hSw); go_simp; first | done | (with_reducible rfl)
  simp only [Act.put, List.setIfInBounds_toArray, List.set_cons_zero, List.set_cons_succ]
  refine tkq 37 (some 87) (v := ?_) rfl (Or.inl ⟨by rfl, ?_⟩) (by assumption) ?_
  rotate_left
  · intro w hSw; (try dsimp only at hSw); go_simp; first | done | (with_reducible rfl)
  simp only [Act.put, List.setIfInBounds_toArray, List.set_cons_zero, List.set_cons_succ]
  refine wpAnyH_ready (rs := [38]) (by kernel_rfl) (by simp) ?_
  refine AllReadyH.cons rfl (fun K hK => ?_) AllReadyH.nil
  go_simp
  go_wp2_with (go_at_call 9; refine (HO.out key n Ab mb cb body As (mb + 8) cs s _ hS5.rb hS5.rs hb2 hb3 p1 p2 (by omega) k0 k1 n0 n1).mono ?_; rintro e Y6 ⟨rfl, hqk6⟩; have hS6 := hS5.below HT.out hqk6)
  refine hK.out _ _ (hS6) (fun hHeld => ?_)
  clear hK K
  refine tkq 39 (some 89) (v := ?_) rfl (Or.inl ⟨by rfl, ?_⟩) (by assumption) ?_
  rotate_left
  · intro w hSw; (try dsimp only at hSw); go_simp; first | done | (with_reducible rfl)
  simp only [Act.put, List.setIfInBounds_toArray, List.set_cons_zero, List.set_cons_succ]
  refine tkq 40 (some 90) (v := ?_) rfl (Or.inl ⟨by rfl, ?_⟩) (by assumption) ?_
  rotate_left
  · intro w hSw; (try dsimp only at hSw); go_simp; first | done | (with_reducible rfl)
  simp only [Act.put, List.setIfInBounds_toArray, List.set_cons_zero, List.set_cons_succ]
  refine tkq 41 (some 91) (v := ?_) rfl (Or.inl ⟨by rfl, ?_⟩) (by assumption) ?_
  rotate_left
  · intro w hSw; (try dsimp only at hSw); go_simp; first | done | (with_reducible rfl)
  simp only [Act.put, List.setIfInBounds_toArray, List.set_cons_zero, List.set_cons_succ]
  refine tkq 42 (some 92) (v := ?_) rfl (Or.inl ⟨by rfl, ?_⟩) (by assumption) ?_
  rotate_left
  · intro w hSw; (try dsimp only at hSw); go_simp; first | done | (with_reducible rfl)
  simp only [Act.put, List.setIfInBounds_toArray, List.set_cons_zero, List.set_cons_succ]
  refine tkq 43 (some 93) (v := ?_) rfl (Or.inl ⟨by rfl, ?_⟩) (by assumption) ?_
  rotate_left
  · intro w hSw; (try dsimp only at hSw); go_simp; first | done | (with_reducible rfl)
  simp only [Act.put, List.setIfInBounds_toArray, List.set_cons_zero, List.set_cons_succ]
  refine tkq 44 (some 94) (v := ?_) rfl (Or.inl ⟨by rfl, ?_⟩) (by assumption) ?_
  rotate_left
  · intro w hSw; (try dsimp only at hSw); go_simp; first | done | (with_reducible rfl)
  simp only [Act.put, List.setIfInBounds_toArray, List.set_cons_zero, List.set_cons_succ]
  refine wpAnyH_ready (rs := [45]) (by kernel_rfl) (by simp) ?_
  refine AllReadyH.cons rfl (fun K hK => ?_) AllReadyH.nil
  go_simp
  go_wp2_with (go_at_call 11; refine (HCC.out _).mono ?_; rintro e w' ⟨rfl, rfl⟩)
  refine hK.out _ _ (hS6) (fun hHeld => ?_)
  clear hK K
  refine wpAnyH_ready (rs := [46]) (by kernel_rfl) (by simp) ?_
  refine AllReadyH.cons rfl (fun K hK => ?_) AllReadyH.nil
  go_simp
  go_wp2_with (go_at_call 9; refine (HO.out key n Ah mh ch head Ac mc cc bb _ hS6.rh hS6.rc hh2 hh3 hc2 hc3 (by omega) k0 k1 n0 n1).mono ?_; rintro e Y7 ⟨rfl, hqk7⟩; have hS7 := hS6.below HT.out hqk7)
  refine hK.out _ _ (hS7) (fun hHeld => ?_)
  clear hK K
  refine tkq 47 (some 97) (v := ?_) rfl (Or.inl ⟨by rfl, ?_⟩) (by assumption) ?_
  rotate_left
  · intro w hSw; (try dsimp only at hSw); go_simp; first | done | (with_reducible rfl)
  simp only [Act.put, List.setIfInBounds_toArray, List.set_cons_zero, List.set_cons_succ]
  refine tkq 48 (some 98) (v := ?_) rfl (Or.inl ⟨by rfl, ?_⟩) (by assumption) ?_
  rotate_left
  · intro w hSw; (try dsimp only at hSw); go_simp; first | done | (with_reducible rfl)
  simp only [Act.put, List.setIfInBounds_toArray, List.set_cons_zero, List.set_cons_succ]
  refine tkq 49 (some 99) (v := ?_) rfl (Or.inl ⟨by rfl, ?_⟩) (by assumption) ?_
  rotate_left
  · intro w hSw; (try dsimp only at hSw); go_simp; first | done | (with_reducible rfl)
  simp only [Act.put, List.setIfInBounds_toArray, List.set_cons_zero, List.set_cons_succ]
  refine tkq 50 (some 100) (v := ?_) rfl (Or.inl ⟨by rfl, ?_⟩) (by assumption) ?_
  rotate_left
  · intro w hSw; (try dsimp only at hSw); have ht := hSw.t; go_simp; first | done | (with_reducible rfl)
  simp only [Act.put, List.setIfInBounds_toArray, List.set_cons_zero, List.set_cons_succ]
  refine tkq 51 (some 101) (v := ?_) rfl (Or.inl ⟨by rfl, ?_⟩) (by assumption) ?_
  rotate_left
  · intro w hSw; (try dsimp only at hSw); go_simp; first | done | (with_reducible rfl)
  simp only [Act.put, List.setIfInBounds_toArray, List.set_cons_zero, List.set_cons_succ]
  refine tkq 52 (some 102) (v := ?_) rfl (Or.inl ⟨by rfl, ?_⟩) (by assumption) ?_
  rotate_left
  · intro w hSw; (try dsimp only at hSw); go_simp; first | done | (with_reducible rfl)
  simp only [Act.put, List.setIfInBounds_toArray, List.set_cons_zero, List.set_cons_succ]
  refine wpAnyH_ready (rs := [53]) (by kernel_rfl) (by simp) ?_
  refine AllReadyH.cons rfl (fun K hK => ?_) AllReadyH.nil
  go_simp
  go_wp2_with (go_at_call 14; refine (HRM.out _ w.heap.size (hS7.a19.rd8 hsm)).mono ?_; rintro e Y8 ⟨A9, c9, rfl, _, _, r9, hqk8⟩; have hS8 := hS7.below HT.out hqk8; have t9 := run_text (P := Try.prog) (c := c9) r9 22 5 9 Try.underlying22 Try.underlying5 Try.underlying9; rw [HT.out.1] at t9)
  refine hK.out _ _ (hS8) (fun hHeld => ?_)
  clear hK K
  refine wpAnyH_ready (rs := [54]) (by kernel_rfl) (by simp) ?_
  refine AllReadyH.cons rfl (fun K hK => ?_) AllReadyH.nil
  go_simp
  go_wp2_with (fail)
  refine hK.out _ _ (hS8) (fun hHeld => ?_)
  clear hK K
  refine tkq 55 (some 105) (v := ?_) rfl (Or.inl ⟨by rfl, ?_⟩) (by assumption) ?_
  rotate_left
  · intro w hSw; (try dsimp only at hSw); go_simp; first | done | (with_reducible rfl)
  simp only [Act.put, List.setIfInBounds_toArray, List.set_cons_zero, List.set_cons_succ]
  refine tkq 56 (some 106) (v := ?_) rfl (Or.inl ⟨by rfl, ?_⟩) (by assumption) ?_
  rotate_left
  · intro w hSw; (try dsimp only at hSw); go_simp; first | done | (with_reducible rfl)
  simp only [Act.put, List.setIfInBounds_toArray, List.set_cons_zero, List.set_cons_succ]
  refine tkq 57 (some 107) (v := ?_) rfl (Or.inl ⟨by rfl, ?_⟩) (by assumption) ?_
  rotate_left
  · intro w hSw; (try dsimp only at hSw); go_simp; first | done | (with_reducible rfl)
  simp only [Act.put, List.setIfInBounds_toArray, List.set_cons_zero, List.set_cons_succ]
  refine wpAnyH_ready (rs := [58]) (by kernel_rfl) (by simp) ?_
  refine AllReadyH.cons rfl (fun K hK => ?_) AllReadyH.nil
  go_simp
  go_wp2_with (go_at_call 10; refine (lknown_any _).mono ?_; rintro e Y9 ⟨rfl, hqk9⟩; have hS9 := hS8.below HT.out hqk9)
  refine hK.out _ _ (hS9) (fun hHeld => ?_)
  clear hK K
  refine tkq 59 (some 109) (v := ?_) rfl (Or.inl ⟨by rfl, ?_⟩) (by assumption) ?_
  rotate_left
  · intro w hSw; (try dsimp only at hSw); go_simp; first | done | (with_reducible rfl)
  simp only [Act.put, List.setIfInBounds_toArray, List.set_cons_zero, List.set_cons_succ]
  refine tkq 60 (some 20) (v := ?_) rfl (Or.inl ⟨by rfl, ?_⟩) (by assumption) ?_
  rotate_left
  · intro w hSw; (try dsimp only at hSw); go_simp; first | done | (with_reducible rfl)
  simp only [Act.put, List.setIfInBounds_toArray, List.set_cons_zero, List.set_cons_succ]
  refine wpAnyH_done (by kernel_rfl) ?_ _
  go_wp2_with fail
  go_ret
  exact ⟨rfl, hS9.b⟩
theorem ltells_law (a0 a1 a2 a3 : Int) (A4 : Option Addr) (n4 c4 : Nat) (bs4 : List Int) (A5 : Option Addr) (n5 c5 : Nat) (bs5 : List Int) (A6 : Option Addr) (n6 c6 : Nat) (bs6 : List Int) (a7 a8 : Int) (m9 : N8) (w : World)
    (w0 : (Lit.int .u64 a0).wf = true) (w1 : (Lit.int .u64 a1).wf = true) (w2 : (Lit.int .u64 a2).wf = true) (w3 : (Lit.int .u64 a3).wf = true) (w4 : InRow w A4 n4 c4 bs4) (w5 : InRow w A5 n5 c5 bs5) (w6 : InRow w A6 n6 c6 bs6) (w7 : (Lit.int .i64 a7).wf = true) (w8 : (Lit.int .u8 a8).wf = true) (w9 : Byt m9.l) :
    Calls Try.prog 4 #[.int .u64 a0, .int .u64 a1, .int .u64 a2, .int .u64 a3, .slice A4 n4 c4, .slice A5 n5 c5, .slice A6 n6 c6, .int .i64 a7, .int .u8 a8, m9.v] w fun e w' => e = .returned (.bool true) ∧ Below w.heap.size w w' := by
  have h0 := bounds_u64 w0
  have h1 := bounds_u64 w1
  have h2 := bounds_u64 w2
  have h3 := bounds_u64 w3
  have h7 := bounds_i64 w7
  have h8 := bounds_u8 w8
  exact ltells_walk a0 a1 a2 a3 A4 n4 c4 bs4 A5 n5 c5 bs5 A6 n6 c6 bs6 a7 a8 m9 w h0.1 (by omega) h1.1 (by omega) h2.1 (by omega) h3.1 (by omega) w4 w5 w6 (by omega) (by omega) h8.1 (by omega) w9
end Go.Proofs.Ytkgeeoogmkpjhaa
