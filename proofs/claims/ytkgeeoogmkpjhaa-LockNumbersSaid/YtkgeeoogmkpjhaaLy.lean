/-
  The document's own tag, Seal, Open, Mask (narthexref8).
-/
import Derived.Test.YtkgeeoogmkpjhaaLx
namespace Go.Proofs.Ytkgeeoogmkpjhaa
set_option linter.unusedVariables false
set_option linter.unusedSimpArgs false
open Go.RowKit Go.ChangeShapes Go.WideShapes Go.Deep
set_option maxRecDepth 100000 in
set_option maxHeartbeats 4000000 in
theorem rtag_any (key n : Int) (Ah : Option Addr) (nh ch : Nat) (head : List Int) (Ab : Option Addr) (nb cb : Nat) (hid : List Int) (w : World) (hrh : Rd w w.heap.size Ah nh head) (hrb : Rd w w.heap.size Ab nb hid) (hh1 : nh ≤ ch) (hh2 : ch ≤ maxLen) (hb1' : nb ≤ cb) (hb2' : cb ≤ maxLen) (hln : nh + nb ≤ 140737488354000) (k0 : 0 ≤ key) (k1 : key < 18446744073709551616) (n0 : 0 ≤ n) (n1 : n < 18446744073709551616) :
    Calls Try.prog 24 #[.int .u64 key, .int .u64 n, .slice Ah nh ch, .slice Ab nb cb] w fun e w' => ∃ v, e = .returned v ∧ Own w' w.heap.size 5 v (tagS key n head hid).l ∧ Below w.heap.size w w' := by
  obtain ⟨i0, hi, hz0, hz1, hz2⟩ := info_parts u8_info
  have HP := Lib.hid (fun W => rbytes_any n W n0 n1)
  have HQ := Lib.hid (fun W => rbytes_any (nh : Int) W (by omega) (by omega))
  have hlh := hrh.1
  have hlb := hrb.1
  have hfin : tagS key n head hid = b8 (keyedS (tagKey key) ((((b8 n).l ++ (b8 (nh : Int)).l) ++ head) ++ hid)) := by unfold tagS; rw [b8_l, b8_l, hlh]
  have hl1 : ((b8 n).l).length = 8 := rfl
  have hl2 : ((b8 (nh : Int)).l).length = 8 := rfl
  obtain ⟨L1, hL1⟩ : ∃ x, (b8 n).l = x := ⟨_, rfl⟩
  obtain ⟨L2, hL2⟩ : ∃ x, (b8 (nh : Int)).l = x := ⟨_, rfl⟩
  rw [hL1] at HP hfin hl1
  rw [hL2] at HQ hfin hl2
  have hrl : (L1 ++ L2 ++ head ++ hid).length = 16 + nh + nb := by simp [hl1, hl2, hlh, hlb]; omega
  have hkb := keyedS_bd (tagKey key) (L1 ++ L2 ++ head ++ hid)
  have htk := keyedS_bd key [116, 97, 103]
  have HD := Lib.hid (fun W => (show Calls Try.prog 21 #[.int .u64 key, .string { data := #[116, 97, 103] }] W _ from rderive_any key [116, 97, 103] W (by intro x hx; simp at hx; omega) (by unfold maxLen; simp) k0 k1))
  have HK := Lib.hid (fun W A c (h : Rd W W.heap.size A (16 + nh + nb) (L1 ++ L2 ++ head ++ hid)) (h1 : 16 + nh + nb ≤ c) (h2 : c ≤ maxLen) => rkeyed_any (tagKey key) A (16 + nh + nb) c _ W W.heap.size h h1 h2 htk.1 htk.2)
  have HF := Lib.hid (fun W => rbytes_any (keyedS (tagKey key) (L1 ++ L2 ++ head ++ hid)) W hkb.1 hkb.2)
  rw [← hfin] at HF
  obtain ⟨K9, hK9⟩ : ∃ x, keyedS (tagKey key) (L1 ++ L2 ++ head ++ hid) = x := ⟨_, rfl⟩
  rw [hK9] at HF HK
  unfold tagKey at HK
  obtain ⟨KT, hKT⟩ : ∃ x, keyedS key [116, 97, 103] = x := ⟨_, rfl⟩
  rw [hKT] at HK HD
  have HRL := Lib.hid hrl
  have HL1 := Lib.hid hl1
  have HL2 := Lib.hid hl2
  have HLH := Lib.hid hlh
  have hh3 := hh2
  unfold maxLen at hh3
  clear hfin hkb hK9 htk hKT hrl hlh hlb hL1 hL2 hl1 hl2
  go_enter Try.func24, Try.ntmps24
  go_wp2_with fail
  refine (HP.out w).mono ?_
  rintro e w1 ⟨v1, rfl, ho1, hb1⟩
  go_wp2_with fail
  refine (HQ.out w1).mono ?_
  rintro e w2 ⟨v2, rfl, ho2, hb2⟩
  have ho1 := ho1.below hb2 (Nat.le_refl _)
  have hb2 := hb1.trans (hb2.mono hb1.size)
  obtain ⟨A2, c2, rfl, p1, p2, p3⟩ := ho2.open_n 8 HL2.out
  go_wp2_with (first | (at_builtin; refine wpList_append_rd (by rfl) (.tmp 11) (.tmp 15) 22 rfl w.heap.size 5 i0 Try.underlying22 hi hz0 hz1 hz2 _ L1 rfl ho1 _ A2 8 c2 L2 rfl p3 (by rw [HL1.out]; omega) w hb2 hb2.size ?_; intro v3 w3 ho3 hb3 hg3) | fail)
  clear ho1 ho2 p3 hb1 hb2 hg3
  refine (HD.out w3).mono ?_
  rintro e w4 ⟨rfl, hb4⟩
  have ho3 := ho3.below hb4 (Nat.le_refl _)
  have hb4 := hb3.trans (hb4.mono hb3.size)
  have hrh4 := hrh.below hb4
  go_wp2_with (first | (at_builtin; refine wpList_append_rd (by rfl) (.tmp 19) (.tmp 20) 22 rfl w.heap.size 5 i0 Try.underlying22 hi hz0 hz1 hz2 _ (L1 ++ L2) rfl ho3 _ Ah nh ch head rfl hrh4 (by rw [List.length_append, HL1.out, HL2.out]; omega) w hb4 hb4.size ?_; intro v5 w5 ho5 hb5 hg5; have hrb5 := hrb.below hb5) | (at_builtin; refine wpList_append_rd (by rfl) (.tmp 21) (.tmp 22) 22 rfl w.heap.size 5 i0 Try.underlying22 hi hz0 hz1 hz2 _ (L1 ++ L2 ++ head) rfl ho5 _ Ab nb cb hid rfl hrb5 (by rw [List.length_append, List.length_append, HL1.out, HL2.out, HLH.out]; omega) w hb5 hb5.size ?_; intro v6 w6 ho6 hb6 hg6; obtain ⟨A6, c6, rfl, q1, q2, q3⟩ := ho6.open_n (16 + nh + nb) HRL.out) | (go_at_call 29; refine (HK.out w6 A6 c6 q3 q1 q2).mono ?_; rintro e w' ⟨rfl, rfl⟩) | fail)
  refine (HF.out w6).mono ?_
  rintro e w7 ⟨v7, rfl, ho7, hb7⟩
  have ho7 := ho7.base_ hb6.size
  have hb7 := hb6.trans (hb7.mono hb6.size)
  go_wp2_with fail
  go_ret
  exact ⟨_, rfl, ho7, hb7⟩
set_option maxRecDepth 100000 in
set_option maxHeartbeats 2000000 in
theorem rseal_any (key n : Int) (Ah : Option Addr) (nh ch : Nat) (head : List Int) (Ab : Option Addr) (nb cb : Nat) (body : List Int) (w : World) (hrh : Rd w w.heap.size Ah nh head) (hrb : Rd w w.heap.size Ab nb body) (hh1 : nh ≤ ch) (hh2 : ch ≤ maxLen) (hb1' : nb ≤ cb) (hb2' : cb ≤ maxLen) (hln : nh + nb ≤ 140737488354000) (k0 : 0 ≤ key) (k1 : key < 18446744073709551616) (n0 : 0 ≤ n) (n1 : n < 18446744073709551616) :
    Calls Try.prog 8 #[.int .u64 key, .int .u64 n, .slice Ah nh ch, .slice Ab nb cb] w fun e w' => ∃ v, e = .returned v ∧ Own w' w.heap.size 5 v (sealS key n head body) ∧ Below w.heap.size w w' := by
  obtain ⟨i0, hi, hz0, hz1, hz2⟩ := info_parts u8_info
  have HT := rturned_any key n Ab nb cb body w hrb hb1' hb2' (by omega) k0 k1 n0 n1
  have hsl : (turnS key n body).length = nb := by rw [turnS_len]; exact hrb.1
  have hfin : sealS key n head body = turnS key n body ++ (tagS key n head (turnS key n body)).l := rfl
  obtain ⟨hd, hhd⟩ : ∃ x, turnS key n body = x := ⟨_, rfl⟩
  rw [hhd] at HT hsl hfin
  have HG := Lib.hid (fun W A c (h : Rd W W.heap.size Ah nh head) (h' : Rd W W.heap.size A nb hd) (hc : nb ≤ c) (hm : c ≤ maxLen) => rtag_any key n Ah nh ch head A nb c hd W h h' hh1 hh2 hc hm (by omega) k0 k1 n0 n1)
  obtain ⟨m9, hm9⟩ : ∃ x, tagS key n head hd = x := ⟨_, rfl⟩
  rw [hm9] at HG hfin
  rw [hfin]
  have HSL := Lib.hid hsl
  clear hhd hm9 hfin hsl
  go_enter Try.func8, Try.ntmps8
  go_wp2_with fail
  refine HT.mono ?_
  rintro e w1 ⟨v1, rfl, ho1, hb1⟩
  obtain ⟨A1, c1, rfl, s1, s2, s3⟩ := ho1.open_n nb HSL.out
  have hrh1 := (hrh.below hb1).more hb1.size
  go_wp2_with fail
  refine (HG.out w1 A1 c1 hrh1 s3 s1 s2).mono ?_
  rintro e w2 ⟨v2, rfl, ho2, hb2⟩
  have ho1 := ho1.below hb2 (Nat.le_refl _)
  have hb2 := hb1.trans (hb2.mono hb1.size)
  obtain ⟨A2, c2, rfl, p1, p2, p3⟩ := ho2.open_n 8 rfl
  clear ho2 s3 hrh1 hb1
  go_wp2_with (first | (at_builtin; refine wpList_append_rd (by rfl) (.tmp 14) (.tmp 19) 22 rfl w.heap.size 5 i0 Try.underlying22 hi hz0 hz1 hz2 _ hd rfl ho1 _ A2 8 c2 m9.l rfl p3 (by rw [HSL.out]; omega) w hb2 hb2.size ?_; intro v4 w4 ho4 hb4 hg4) | fail)
  go_ret
  exact ⟨_, rfl, ho4, hb4⟩
set_option maxRecDepth 100000 in
theorem rmask_any (key : Int) (A : Option Addr) (nn c : Nat) (bs : List Int) (w : World) (hr : Rd w w.heap.size A nn bs) (hn : nn ≤ c) (hc : c ≤ maxLen) (k0 : 0 ≤ key) (k1 : key < 18446744073709551616) :
    Calls Try.prog 14 #[.int .u64 key, .slice A nn c] w fun e w' => ∃ A' c', e = .returned (.slice A' 5 c') ∧ 5 ≤ c' ∧ c' ≤ maxLen ∧ Rd w' w'.heap.size A' 5 (maskS key bs) ∧ Below w.heap.size w w' := by
  have hkb := keyedS_bd key bs
  have HF := Lib.hid (fun W => rbytes_any (keyedS key bs) W hkb.1 hkb.2)
  have HK := Lib.hid (rkeyed_any key A nn c bs w _ hr hn hc k0 k1)
  unfold maskS
  obtain ⟨K9, hK9⟩ : ∃ x, keyedS key bs = x := ⟨_, rfl⟩
  rw [hK9] at HF HK ⊢
  clear hkb hK9
  go_enter Try.func14, Try.ntmps14
  go_wp2_with fail
  refine HK.out.mono ?_
  rintro e w' ⟨rfl, rfl⟩
  go_wp2_with fail
  refine (HF.out w).mono ?_
  rintro e w2 ⟨v2, rfl, ho2, hb2⟩
  obtain ⟨A2, c2, rfl, p1, p2, p3⟩ := ho2.open_n 8 rfl
  obtain ⟨g, off, rfl, _, _⟩ := p3.2.2 (by omega)
  have h5c : 5 ≤ c2 := by omega
  have h5I : (5 : Int) ≤ (c2 : Int) := by omega
  have p4 := p3.cut (m := 5) (by omega)
  have p5 := p2
  unfold maxLen at p5
  clear ho2 p3
  go_wp2_with fail
  go_ret
  exact ⟨_, _, rfl, h5c, p2, p4, hb2⟩
end Go.Proofs.Ytkgeeoogmkpjhaa
