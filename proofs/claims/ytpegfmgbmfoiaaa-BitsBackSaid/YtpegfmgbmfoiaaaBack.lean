/-
  BitsBack returns true at every input: its walk.
-/
import Derived.Test.YtpegfmgbmfoiaaaOrder
import Derived.Test.YtpegfmgbmfoiaaaInRow
import Derived.Test.YtpegfmgbmfoiaaaKeep
import Derived.Test.YtpegfmgbmfoiaaaKnown
namespace Go.Proofs.Ytpegfmgbmfoiaaa
set_option linter.unusedVariables false
open Go.RowKit
set_option maxRecDepth 100000 in
set_option maxHeartbeats 4000000 in
theorem back_walk (a k : Int) (A : Option Addr) (n c : Nat) (bs : List Int) (cut : Int) (w : World) (ha0 : 0 ≤ a) (ha1 : a < 18446744073709551616)
    (hk0 : -9223372036854775808 ≤ k) (hk1 : k ≤ 9223372036854775807) (hc0 : -9223372036854775808 ≤ cut) (hc1 : cut ≤ 9223372036854775807) (hin : InRow w A n c bs) :
    Calls Try.prog 5 #[.int .u64 a, .int .i64 k, .slice A n c, .int .i64 cut] w fun e w' => e = .returned (.bool true) ∧ Below w.heap.size w w' := by
  obtain ⟨hr, hnc, hcm, hA0⟩ := hin
  obtain ⟨i0, hi, hz0, hz1, hz2⟩ := info_parts u8_info
  have hA : 20 < n → A ≠ none := fun h e => by have := hA0 e; omega
  have hAc : n ≠ 0 → A ≠ none := fun h e => by have := hA0 e; omega
  obtain ⟨hx0, hx1⟩ := smallS_bd a ha0
  obtain ⟨x, hx⟩ : ∃ x, smallS a = x := ⟨_, rfl⟩
  rw [hx] at hx0 hx1
  have SX := Lib.hid hx; clear hx
  have hs1 := size_pos x hx1
  have hs8 := size_le x
  have hlx := putS_len x
  have hgx := get_put x hx0 hx1 (bs.take (min n 20))
  have hgc := get_cut x hx0 hx1
  obtain ⟨s, hs⟩ : ∃ s, sizeS x = s := ⟨_, rfl⟩
  have HS := Lib.hid hs
  rw [hs] at hs1 hs8 hlx hgx hgc
  clear hs
  obtain ⟨j, hj⟩ : ∃ j, withinS cut 0 ((s : Int) - 1) = j := ⟨_, rfl⟩
  have hjb := withinS_bd cut 0 ((s : Int) - 1) (by omega)
  rw [hj] at hjb
  have WJ := Lib.hid hj; clear hj
  obtain ⟨hj0, hj1⟩ := hjb
  obtain ⟨J, rfl⟩ := Int.eq_ofNat_of_zero_le hj0
  have GC := Lib.hid (hgc J (by omega)); clear hgc
  obtain ⟨t, ht⟩ : ∃ t, withinS k 0 63 = t := ⟨_, rfl⟩
  have htb := withinS_bd k 0 63 (by omega)
  rw [ht] at htb
  have WT := Lib.hid ht; clear ht
  obtain ⟨ht0, ht1⟩ := htb
  have hrr : rotS (rotS a (t % 64).toNat) (-t % 64).toNat = a := by
    by_cases h0 : t = 0
    · subst h0
      rw [show ((0 : Int) % 64).toNat = 0 by decide, show (-(0 : Int) % 64).toNat = 0 by decide, rot_zero a ha0 ha1, rot_zero a ha0 ha1]
    · rw [show (t % 64).toNat = t.toNat by omega, show (-t % 64).toNat = 64 - t.toNat by omega]
      exact rot_rot a t.toNat ha0 ha1 (by omega) (by omega)
  have hrb := rotS_bd a (t % 64).toNat ha0 ha1 (by omega)
  obtain ⟨ro, hro⟩ : ∃ ro, rotS a (t % 64).toNat = ro := ⟨_, rfl⟩
  rw [hro] at hrr hrb
  have RO := Lib.hid hro; clear hro
  have RR := Lib.hid hrr; clear hrr
  obtain ⟨hrb0, hrb1⟩ := hrb
  have hwb : -9223372036854775808 ≤ wrap64 a ∧ wrap64 a ≤ 9223372036854775807 := by rw [wrapI]; omega
  have hzb := zigS_bd (wrap64 a) hwb.1 hwb.2
  have hzz := zag_zig (wrap64 a)
  obtain ⟨m, hm⟩ : ∃ m, wrap64 a = m := ⟨_, rfl⟩
  rw [hm] at hwb hzb hzz
  obtain ⟨hwb0, hwb1⟩ := hwb
  obtain ⟨z, hz⟩ : ∃ z, zigS m = z := ⟨_, rfl⟩
  rw [hz] at hzb hzz
  obtain ⟨hzb0, hzb1⟩ := hzb
  have Z := Lib.hid hz; clear hz
  have ZZ := Lib.hid hzz; clear hzz
  have hqb := zagS_bd a ha0 ha1
  have hzq := zig_zag a ha0
  obtain ⟨q, hq⟩ : ∃ q, zagS a = q := ⟨_, rfl⟩
  rw [hq] at hqb hzq
  obtain ⟨hqb0, hqb1⟩ := hqb
  have Q := Lib.hid hq; clear hq
  have ZQ := Lib.hid hzq; clear hzq
  have LX := Lib.hid hlx; clear hlx
  have GX := Lib.hid hgx; clear hgx
  have hsz : ((s : Int) == 0) = false := by simp; omega
  clear hA0
  go_enter Try.func5, Try.ntmps5
  go_wp2_with fail
  refine (small_any a _ ha0 ha1).mono ?_
  rintro e v1 ⟨rfl, k1⟩
  rw [SX.out]
  go_wp2_with fail
  refine (putvar_yes none 0 0 [] x v1 (Rd.none_ _ _ _) (by omega) hx0 hx1).mono ?_
  rintro e v2 ⟨p, rfl, hp, k2⟩
  obtain ⟨Ap, cp, rfl, hp1, hp2, hrp⟩ := (show Own v2 _ _ p (putS x) from hp).open_n s LX.out
  obtain ⟨g, off, rfl, hg, hcell⟩ := hrp.2.2 (by omega)
  clear hcell hp
  have hp3 := hp2
  unfold maxLen at hp3
  go_wp2_with fail
  refine (size_any _ _).mono ?_
  rintro e w' ⟨rfl, rfl⟩
  rw [HS.out]
  have kw2 : Below w.heap.size w v2 := k1.trans (k2.mono k1.size)
  have hk2 := kw2.size
  go_wp2_with (first
    | (at_builtin; refine wpList_append_rd rfl (.tmp 39) (.tmp 40) 28 rfl v2.heap.size 5 i0 Try.underlying28 hi hz0 hz1 hz2 _ [] rfl (Own.of_block (n := 0) (cap := 0) Byt.nil rfl (heap_alloc_new v2 _) (Nat.le_refl _) (Nat.le_refl _) (Nat.zero_le _) rfl rfl) _ (some ⟨g, off, none⟩) s cp (putS x) rfl (hrp.alloc (Nat.le_refl _) _) (by simp; omega) v2 ((Below.refl _ _).alloc (Nat.le_refl _) _) (by simp) ?_; intro u3 v3 ho3 k3 kg3)
    | (go_at_call 13; refine (cut_any A n c 20 _ hnc hcm (by omega) hA).mono ?_; rintro e w' ⟨rfl, rfl⟩)
    | (at_builtin; refine wpList_append_rd rfl (.tmp 41) (.tmp 43) 28 rfl v2.heap.size 5 i0 Try.underlying28 hi hz0 hz1 hz2 u3 _ rfl ho3 _ A (min n 20) c (bs.take (min n 20)) rfl ((hr.cut (Nat.min_le_left _ _)).below (kw2.trans (k3.mono hk2))) (by simp [LX.out]; omega) v2 k3 k3.size ?_; intro u4 v4 ho4 k4 kg4)
    | fail)
  obtain ⟨A4, c4, rfl, h41, h42, hr4⟩ := (show Own v4 _ _ u4 (putS x ++ bs.take (min n 20)) from ho4).open_n (s + min n 20) (by rw [List.length_append, LX.out, List.length_take, hr.1]; omega)
  refine (get_any A4 _ c4 _ v4 _ hr4 h41 h42).mono ?_
  rintro e w' ⟨rfl, rfl⟩
  rw [GX.out]
  have hrJ := (hrp.below k4).cut (m := J) (by omega)
  have kw4 : Below w.heap.size w v4 := kw2.trans (k4.mono hk2)
  clear ho3 ho4 kg3 kg4 hr4 hrp hr
  go_wp2_with fail
  refine (within_any cut 0 _ _ (by omega) (by omega) (by omega) (by omega) (by omega)).mono ?_
  rintro e w' ⟨rfl, rfl⟩
  rw [WJ.out]
  go_wp2_with fail
  refine (get_any (some ⟨g, off, none⟩) J cp ((putS x).take J) _ _ hrJ (by omega) hp2).mono ?_
  rintro e w' ⟨rfl, rfl⟩
  rw [GC.out]
  go_wp2_with fail
  refine (within_any k 0 63 _ (by omega) (by omega) (by omega) (by omega) (by omega)).mono ?_
  rintro e w' ⟨rfl, rfl⟩
  rw [WT.out]
  clear hrJ
  go_wp2_with fail
  refine (zig_any _ _ hwb0 hwb1).mono ?_
  rintro e w' ⟨rfl, rfl⟩
  rw [Z.out]
  go_wp2_with fail
  refine (zag_any _ _ hzb0 hzb1).mono ?_
  rintro e w' ⟨rfl, rfl⟩
  rw [ZZ.out]
  go_wp2_with fail
  refine (zag_any _ _ ha0 ha1).mono ?_
  rintro e w' ⟨rfl, rfl⟩
  rw [Q.out]
  go_wp2_with fail
  refine (zig_any _ _ hqb0 hqb1).mono ?_
  rintro e w' ⟨rfl, rfl⟩
  rw [ZQ.out]
  go_wp2_with fail
  refine (rot_any _ _ _ ha0 ha1).mono ?_
  rintro e w' ⟨rfl, rfl⟩
  rw [RO.out]
  go_wp2_with fail
  refine (rot_any _ _ _ hrb0 hrb1).mono ?_
  rintro e w' ⟨rfl, rfl⟩
  rw [RR.out]
  go_wp2_with fail
  refine (known_any _).mono ?_
  rintro e v9 ⟨rfl, k9⟩
  go_wp2_with fail
  go_ret
  exact ⟨rfl, kw4.trans (k9.mono kw4.size)⟩
theorem back_law (a k : Int) (A : Option Addr) (n c : Nat) (bs : List Int) (cut : Int) (w : World) (w0 : (Lit.int .u64 a).wf = true) (w1 : (Lit.int .i64 k).wf = true) (w2 : InRow w A n c bs) (w3 : (Lit.int .i64 cut).wf = true) :
    Calls Try.prog 5 #[.int .u64 a, .int .i64 k, .slice A n c, .int .i64 cut] w fun e w' => e = .returned (.bool true) ∧ Below w.heap.size w w' := by
  have h0 := bounds_u64 w0
  have h1 := bounds_i64 w1
  have h3 := bounds_i64 w3
  exact back_walk a k A n c bs cut w h0.1 (by omega) h1.1 h1.2 h3.1 h3.2 w2
end Go.Proofs.Ytpegfmgbmfoiaaa
