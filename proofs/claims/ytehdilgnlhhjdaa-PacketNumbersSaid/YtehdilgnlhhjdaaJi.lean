/-
  The document's own Protect: all is well.
-/
import Derived.Test.YtehdilgnlhhjdaaJh
namespace Go.Proofs.Ytehdilgnlhhjdaa
set_option linter.unusedVariables false
set_option linter.unusedSimpArgs false
open Go.RowKit Go.ChangeShapes Go.WideShapes Go.Deep
set_option maxRecDepth 100000 in
set_option maxHeartbeats 8000000 in
theorem rprotect_yes (P : Nat → Prop) (sk mk n : Int) (m : HN) (d : Sl) (tok : List Int) (Ap : Option Addr) (np cp : Nat) (pay : List Int) (w : World) (hf : HFits w P m d tok) (hp : Rd w w.heap.size Ap np pay) (hp1 : np ≤ cp) (hp2 : cp ≤ maxLen) (hp3 : np ≤ 1000000) (s0 : 0 ≤ sk) (s1 : sk < 18446744073709551616) (k0 : 0 ≤ mk) (k1 : mk < 18446744073709551616) (n0 : 0 ≤ n) (n1 : n < 18446744073709551616) (w0 : 0 ≤ m.w) (w4 : m.w ≤ 1000) (hmay : mayB n m tok pay = true) :
    Calls Try.prog 8 #[.agg (kL sk mk).toArray, hdV m d, .int .u64 n, .slice Ap np cp] w (RProPost sk mk n m tok pay w) := by
  obtain ⟨i0, hi, hz0, hz1, hz2⟩ := info_parts u8_info
  have hcase : hrightB m tok.length = true ∧ n ≤ 4611686018427387903 ∧ 4 ≤ m.w + pay.length ∧ ((hencS m tok (m.w + pay.length + 8)).length : Int) + (m.w + pay.length + 8) ≤ 512 := by
    have h := hmay
    unfold mayB at h
    simp only [Bool.and_eq_true, decide_eq_true_eq] at h
    exact ⟨h.1.1.1, h.1.1.2, h.1.2, h.2⟩
  obtain ⟨h, hn2, hw4, hall⟩ := hcase
  obtain ⟨hs0, hs2, r1, r4, r32, _⟩ := hright_parts _ _ h
  have hbd := henc_bd m tok (m.w + pay.length + 8) r32
  have hcb := cutS_bd_ n m.w
  have hpk : packS sk mk n m tok pay = turnB (bareS sk n m tok pay) (maskS mk (samS (bareS sk n m tok pay) (hencS m tok (m.w + pay.length + 8)).length)) (hencS m tok (m.w + pay.length + 8)).length m.w.toNat (mbits m.s) := rfl
  have hbare : bareS sk n m tok pay = hencS m tok (m.w + pay.length + 8) ++ beS m.w.toNat (cutS n m.w) ++ sealS sk n (hencS m tok (m.w + pay.length + 8) ++ beS m.w.toNat (cutS n m.w)) pay := rfl
  have hc3 := hp2
  unfold maxLen at hc3
  have hpl := hp.1
  have hdn : d.n = tok.length := hf.len
  obtain ⟨k, hk⟩ : ∃ k : Nat, m.w = k := ⟨m.w.toNat, by omega⟩
  have hk4 : k ≤ 1000 := by omega
  have hK0 : At (w.alloc (.cells (kL sk mk).toArray 24)) w.heap.size 24 (kL sk mk) := At.new w 24 _
  have hb0 : Below w.heap.size w (w.alloc (.cells (kL sk mk).toArray 24)) := (Below.refl _ _).alloc (Nat.le_refl _) _
  obtain ⟨K, hK⟩ : ∃ K, kL sk mk = K := ⟨_, rfl⟩
  have hKk : K[0]? = some (.int .u64 sk) := by rw [← hK]; rfl
  have hKl : K.length = 2 := by rw [← hK]; rfl
  rw [hK] at hK0 hb0 ⊢
  obtain ⟨w1, hw1⟩ : ∃ x, w.alloc (.cells K.toArray 24) = x := ⟨_, rfl⟩
  rw [hw1] at hK0 hb0
  have hH0 : At (w1.alloc (.cells (hdL m d).toArray 30)) w1.heap.size 30 (hdL m d) := At.new w1 30 _
  have hK1 := hK0.alloc (.cells (hdL m d).toArray 30)
  have hb1 := hb0.alloc hb0.size (.cells (hdL m d).toArray 30)
  have hlt0 := hK0.lt
  have HRT := Lib.hid (fun W (hW : HFits W P m d tok) => rhright_any P m d tok W hW)
  rw [hdn] at HRT
  have hkn : m.w.toNat = k := by omega
  have HE := Lib.hid (fun W (hW : HFits W P m d tok) => rhenc_any P m d tok ((k : Int) + np + 8) W hW h (by omega) (by omega))
  rw [hpl, hk] at hall hw4 hbd hpk hbare
  have hkn' : ((k : Nat) : Int).toNat = k := by omega
  rw [hkn'] at hpk hbare
  rw [hk] at hcb
  obtain ⟨E, hE⟩ : ∃ E, hencS m tok ((k : Int) + np + 8) = E := ⟨_, rfl⟩
  rw [hE] at HE hall hbd hpk hbare
  obtain ⟨C, hC⟩ : ∃ C, cutS n k = C := ⟨_, rfl⟩
  have HC := Lib.hid (fun W => (show Calls Try.prog 22 #[.int .u64 n, .int .i64 (k : Int)] W fun e w' => e = .returned (.int .u32 C) ∧ W = w' by rw [← hC]; exact rpcut_any n k W n0 n1 (by omega) (by omega)))
  rw [hC] at hcb hbare
  have hcl := beS_len k C
  obtain ⟨D, hD⟩ : ∃ D, E ++ beS k C = D := ⟨_, rfl⟩
  rw [hD] at hbare
  have hDl : D.length = E.length + k := by rw [← hD, List.length_append, hcl]
  obtain ⟨X, hX⟩ : ∃ X, sealS sk n D pay = X := ⟨_, rfl⟩
  have hXl : X.length = np + 8 := by rw [← hX, sealS_len, hpl]
  rw [hX] at hbare
  obtain ⟨Bb, hBb⟩ : ∃ x, bareS sk n m tok pay = x := ⟨_, rfl⟩
  rw [hBb] at hpk hbare
  have hBl : Bb.length = E.length + k + (np + 8) := by rw [hbare, List.length_append, hXl, hDl]
  obtain ⟨at_, hat⟩ : ∃ a, E.length = a := ⟨_, rfl⟩
  rw [hat] at hall hbd hpk hDl hBl
  have HS1 := Lib.hid (fun W A c (hA : Rd W W.heap.size A (at_ + k) D) (h1 : at_ + k ≤ c) (h2 : c ≤ maxLen) (hP : Rd W W.heap.size Ap np pay) => (show Calls Try.prog 23 #[.int .u64 sk, .int .u64 n, .slice A (at_ + k) c, .slice Ap np cp] W (fun e w' => ∃ v, e = .returned v ∧ Own w' W.heap.size 5 v X ∧ Below W.heap.size W w') from by rw [← hX]; exact rseal_any sk n A (at_ + k) c D Ap np cp pay W hA hP h1 h2 hp1 hp2 (by omega) s0 s1 n0 n1))
  obtain ⟨lg, hlg⟩ : ∃ b : Bool, (m.s != 2) = b := ⟨_, rfl⟩
  have hmb : mbits m.s = maskB lg := by
    rw [← hlg]; unfold mbits maskB
    by_cases h2 : m.s = 2
    · rw [h2]; rfl
    · rw [if_neg h2, bne_iff_ne.2 h2]; rfl
  rw [hmb] at hpk
  have HM1 := Lib.hid (fun W A c (hA : Rd W W.heap.size A (at_ + k + (np + 8)) Bb) (h1 : at_ + k + (np + 8) ≤ c) (h2 : c ≤ maxLen) => (show Calls Try.prog 24 #[.agg (kL sk mk).toArray, .slice A (at_ + k + (np + 8)) c, .int .i64 at_, .int .i64 k, .bool lg] W (REPost W (packS sk mk n m tok pay)) from by
    rw [hpk]
    have := rmask9_any sk mk A (at_ + k + (np + 8)) c at_ k Bb lg W hA (by omega) h1 h2 (by omega) (by omega) (by omega) k0 k1
    unfold maskW at this
    rw [if_neg (by omega)] at this
    exact this))
  rw [hK] at HM1
  have hvv : hdV m d = .agg (hdL m d).toArray := rfl
  rw [hvv] at HRT HE ⊢
  obtain ⟨L, hL⟩ : ∃ L, hdL m d = L := ⟨_, rfl⟩
  have hLl : L.length = 20 := by rw [← hL]; rfl
  have hL18 : L[18]? = some (.int .i64 (k : Int)) := by rw [← hL, ← hk]; rfl
  have hL0 : L[0]? = some (.int .i64 m.s) := by rw [← hL]; rfl
  rw [hL] at hH0 hK1 hb1 HRT HE ⊢
  obtain ⟨w2, hw2⟩ : ∃ x, w1.alloc (.cells L.toArray 30) = x := ⟨_, rfl⟩
  rw [hw2] at hH0 hK1 hb1
  have hS : RkS w.heap.size w1.heap.size K L sk (k : Int) m.s w2 := ⟨hK1, hH0, by rw [hK1.cell 0, hKk], by rw [hH0.cell 18, hL18], by rw [hH0.cell 0, hL0]⟩
  have hf2 := hf.below hb1
  have hp4 := hp.below hb1
  have hlt2 := hS.h.lt
  have hltk := hS.k.lt
  have HKL := Lib.hid hKl
  have HLL := Lib.hid hLl
  have hcw := hS.cw
  clear hvv hL hK hKk hL18 hL0 hK1 hK0 hb0 hKl hdn
  rw [h] at HRT
  have HAT := Lib.hid hat
  have HD := Lib.hid hD
  have HDL := Lib.hid hDl
  have HBL := Lib.hid hBl
  have HBR := Lib.hid hbare
  have HXL := Lib.hid hXl
  have HMY := Lib.hid hmay
  have hs2d : (m.s != 2) = lg := hlg
  clear hE hat hD hDl hBl hbare hXl hC hX hBb hcl hkn hkn' hpk hmay hmb hlg
  have g1 : decide (4611686018427387903 < n) = false := by simp; omega
  have g2 : decide ((k : Int) + np < 4) = false := by simp; omega
  have g3 : decide (512 < (np : Int)) = false := by simp; omega
  have g4 : decide (512 < (at_ : Int) + ((k : Int) + np + 8)) = false := by simp; omega
  go_enter Try.func8, Try.ntmps8
  go_wp2_with (first | ((with_reducible refine at_ldh ?_); refine ld_hd w1.heap.size L (by rfl) hS.h HLL.out ?_) | fail)
  refine (HRT.out _ hf2).mono ?_
  rintro e w3 ⟨rfl, hb3⟩
  have hb4 := hb1.trans (hb3.mono hb1.size)
  have hS3 := hS.below hb3
  have hcw3 := hS3.cw
  have hf3 := hf2.below hb3
  go_wp2_with (first | ((with_reducible refine at_ldh ?_); refine ld_hd w1.heap.size L (by rfl) hS3.h HLL.out ?_) | fail)
  refine (HE.out _ hf3).mono ?_
  rintro e w4 ⟨v4, rfl, ho4, hb5⟩
  have hS4 := hS3.below hb5
  have hcw4 := hS4.cw
  have hp5 := hp4.below (hb3.mono hb1.size)
  have hlk : w.heap.size < w3.heap.size := hS3.k.lt
  have hlh : w1.heap.size < w3.heap.size := hS3.h.lt
  have hle3 := hb4.size
  obtain ⟨A4, c4, hv4, q1, q2, _⟩ := ho4.open_n at_ HAT.out
  subst hv4
  have HHI := Lib.hid (show Own w4 w3.heap.size 5 (.slice A4 at_ c4) (E ++ (beS k C).take 0) ∧ Below w3.heap.size w3 w4 from ⟨ho4.cast (by rw [List.take_zero, List.append_nil]), hb5⟩)
  clear ho4 hb3 hS hp4 hcw hf2 hf3 hcw3
  go_wp2_with fail
  refine (HC.out w4).mono ?_
  rintro e w4' ⟨rfl, rfl⟩
  go_wp2_with fail
  clear hcw4
  go_loopw [11, 14] (fun b i wr => ∃ j : Nat, j ≤ k ∧ i = .int .i64 ((k : Int) - 1 - (j : Int)) ∧ Hid (Own wr w3.heap.size 5 b (E ++ (beS k C).take j) ∧ Below w3.heap.size w3 wr)) (fun _ i _ => (intOf i + 1).toNat)
  case atStart => exact ⟨0, Nat.zero_le _, by simp, HHI⟩
  case round =>
    obtain ⟨j, hj, rfl, hst⟩ := hrel
    obtain ⟨wo, rfl⟩ : ∃ wo : World, wo = wr := ⟨_, rfl⟩
    have hO := hst.out.1
    have hB := hst.out.2
    clear hst HHI
    by_cases hlt : j < k
    · obtain ⟨q, hq⟩ : ∃ q : Nat, k - 1 - j = q := ⟨_, rfl⟩
      have hqI : (k : Int) - 1 - (j : Int) = (q : Int) := by omega
      rw [hqI]
      have hq4 : q < 4 := by omega
      have hbt := beS_take k C j hlt
      have hbb := byteS_bd k C j
      have hbv : C / 2 ^ (8 * q) % 256 = byteS k C j := by unfold byteS; rw [hq]
      obtain ⟨y, hy⟩ : ∃ y, byteS k C j = y := ⟨_, rfl⟩
      rw [hy] at hbt hbb hbv
      have HBT := Lib.hid hbt
      have HBV := Lib.hid hbv
      have hlen : (E ++ (beS k C).take j).length ≤ 1000004 := by rw [List.length_append, List.length_take, beS_len, HAT.out]; omega
      have HLE := Lib.hid hlen
      clear hbt hy hlen
      have hbas : w3.heap.size ≤ wo.heap.size := hB.size
      have h4 : q = 0 ∨ q = 1 ∨ q = 2 ∨ q = 3 := by omega
      have hnx : (k : Int) - 1 - ((j + 1 : Nat) : Int) = (q : Int) - 1 := by omega
      clear hq
      rcases h4 with rfl | rfl | rfl | rfl
      · have hY : C % 256 = y := by have h := HBV.out; simp at h; omega
        have hO1 := hO.alloc (.cells #[.int .u8 (C % 256)] 5 )
        have hB1 := hB.alloc hbas (.cells #[.int .u8 (C % 256)] 5 )
        have hR1 := Rd.byte wo 5 _ rfl (C % 256) (by omega)
        have HY := Lib.hid hY
        clear hY
        go_wp2_with (first | (at_builtin; refine wpList_append_rd (by rfl) (.tmp 62) (.tmp 69) 28 rfl w3.heap.size 5 i0 Try.underlying28 hi hz0 hz1 hz2 _ _ (by rfl) hO1 _ _ 1 1 [C % 256] (by rfl) hR1 (by have := HLE.out; omega) w3 hB1 (by simp; omega) ?_; intro v2 wn ho2 hb2 hg2) | fail)
        have HF := Lib.hid (And.intro (ho2.cast (show _ = E ++ (beS k C).take (j + 1) by rw [HY.out, HBT.out, List.append_assoc])) hb2)
        clear hO1 hB1 hR1 ho2 hb2 hg2
        go_wp2_with fail
        go_roundw
        case rel => exact ⟨j + 1, by omega, by rw [hnx]; rfl, HF⟩
        case measure => simp [intOf]
      · have hY : C / 256 % 256 = y := by have h := HBV.out; simp at h; omega
        have hO1 := hO.alloc (.cells #[.int .u8 (C / 256 % 256)] 5 )
        have hB1 := hB.alloc hbas (.cells #[.int .u8 (C / 256 % 256)] 5 )
        have hR1 := Rd.byte wo 5 _ rfl (C / 256 % 256) (by omega)
        have HY := Lib.hid hY
        clear hY
        go_wp2_with (first | (at_builtin; refine wpList_append_rd (by rfl) (.tmp 62) (.tmp 69) 28 rfl w3.heap.size 5 i0 Try.underlying28 hi hz0 hz1 hz2 _ _ (by rfl) hO1 _ _ 1 1 [C / 256 % 256] (by rfl) hR1 (by have := HLE.out; omega) w3 hB1 (by simp; omega) ?_; intro v2 wn ho2 hb2 hg2) | fail)
        have HF := Lib.hid (And.intro (ho2.cast (show _ = E ++ (beS k C).take (j + 1) by rw [HY.out, HBT.out, List.append_assoc])) hb2)
        clear hO1 hB1 hR1 ho2 hb2 hg2
        go_wp2_with fail
        go_roundw
        case rel => exact ⟨j + 1, by omega, by rw [hnx]; rfl, HF⟩
        case measure => simp [intOf]
      · have hY : C / 65536 % 256 = y := by have h := HBV.out; simp at h; omega
        have hO1 := hO.alloc (.cells #[.int .u8 (C / 65536 % 256)] 5 )
        have hB1 := hB.alloc hbas (.cells #[.int .u8 (C / 65536 % 256)] 5 )
        have hR1 := Rd.byte wo 5 _ rfl (C / 65536 % 256) (by omega)
        have HY := Lib.hid hY
        clear hY
        go_wp2_with (first | (at_builtin; refine wpList_append_rd (by rfl) (.tmp 62) (.tmp 69) 28 rfl w3.heap.size 5 i0 Try.underlying28 hi hz0 hz1 hz2 _ _ (by rfl) hO1 _ _ 1 1 [C / 65536 % 256] (by rfl) hR1 (by have := HLE.out; omega) w3 hB1 (by simp; omega) ?_; intro v2 wn ho2 hb2 hg2) | fail)
        have HF := Lib.hid (And.intro (ho2.cast (show _ = E ++ (beS k C).take (j + 1) by rw [HY.out, HBT.out, List.append_assoc])) hb2)
        clear hO1 hB1 hR1 ho2 hb2 hg2
        go_wp2_with fail
        go_roundw
        case rel => exact ⟨j + 1, by omega, by rw [hnx]; rfl, HF⟩
        case measure => simp [intOf]
      · have hY : C / 16777216 = y := by have h := HBV.out; simp at h; omega
        have hO1 := hO.alloc (.cells #[.int .u8 (C / 16777216)] 5 )
        have hB1 := hB.alloc hbas (.cells #[.int .u8 (C / 16777216)] 5 )
        have hR1 := Rd.byte wo 5 _ rfl (C / 16777216) (by omega)
        have HY := Lib.hid hY
        clear hY
        go_wp2_with (first | (at_builtin; refine wpList_append_rd (by rfl) (.tmp 62) (.tmp 69) 28 rfl w3.heap.size 5 i0 Try.underlying28 hi hz0 hz1 hz2 _ _ (by rfl) hO1 _ _ 1 1 [C / 16777216] (by rfl) hR1 (by have := HLE.out; omega) w3 hB1 (by simp; omega) ?_; intro v2 wn ho2 hb2 hg2) | fail)
        have HF := Lib.hid (And.intro (ho2.cast (show _ = E ++ (beS k C).take (j + 1) by rw [HY.out, HBT.out, List.append_assoc])) hb2)
        clear hO1 hB1 hR1 ho2 hb2 hg2
        go_wp2_with fail
        go_roundw
        case rel => exact ⟨j + 1, by omega, by rw [hnx]; rfl, HF⟩
        case measure => simp [intOf]
    · obtain rfl : j = k := by omega
      have hO := hO.cast (show _ = D by rw [List.take_of_length_le (by rw [beS_len]; omega), HD.out])
      have hqI : (j : Int) - 1 - (j : Int) = -1 := by omega
      rw [hqI]
      obtain ⟨A5, c5, hv5, e1, e2, e3⟩ := hO.open_n (at_ + j) HDL.out
      subst hv5
      have hS5 := hS3.belowB hB hlk hlh
      have hp6 := hp5.below (hB.mono hle3)
      have hszo := hB.size
      clear hS3 hS4 hb5 hp5
      go_wp2_with fail
      have hS5 := hS5.below (Below.refl _ _).drew
      have hp6 := hp6.drew
      have e3 := e3.drew
      have hszY : wo.drew.heap.size = wo.heap.size := rfl
      have hBY : Below w3.heap.size w3 wo.drew := belowN hB 1
      obtain ⟨Y, hY⟩ : ∃ x, wo.drew = x := ⟨_, rfl⟩
      rw [hY] at hS5 hp6 e3 hszY hBY
      rw [← hszY] at e3
      clear hO hB hszY
      have hsYY := hBY.size
      refine wp_region_held_drew (S := (RkS w.heap.size w1.heap.size K L sk (j : Int) m.s)) (by kernel_rfl) (by rw [hY]; exact hS5) (fun hHeld => ?_)
      rw [hY] at hHeld ⊢
      clear hY
      refine tkq 1 (some 72) (v := ?_) rfl (Or.inl ⟨by rfl, ?_⟩) (by assumption) ?_
      rotate_left
      · intro w hSw; (try dsimp only at hSw); go_simp; first | done | (with_reducible rfl)
      simp only [Act.put, List.setIfInBounds_toArray, List.set_cons_zero, List.set_cons_succ]
      refine tkq 3 (some 74) (v := ?_) rfl (Or.inl ⟨by rfl, ?_⟩) (by assumption) ?_
      rotate_left
      · intro w hSw; (try dsimp only at hSw); go_simp; first | done | (with_reducible rfl)
      simp only [Act.put, List.setIfInBounds_toArray, List.set_cons_zero, List.set_cons_succ]
      refine tkq 4 (some 75) (v := ?_) rfl (Or.inl ⟨by rfl, ?_⟩) (by assumption) ?_
      rotate_left
      · intro w hSw; (try dsimp only at hSw); have ht := hSw.ck; go_simp; first | done | (with_reducible rfl)
      simp only [Act.put, List.setIfInBounds_toArray, List.set_cons_zero, List.set_cons_succ]
      refine tkq 5 (some 76) (v := ?_) rfl (Or.inl ⟨by rfl, ?_⟩) (by assumption) ?_
      rotate_left
      · intro w hSw; (try dsimp only at hSw); go_simp; first | done | (with_reducible rfl)
      simp only [Act.put, List.setIfInBounds_toArray, List.set_cons_zero, List.set_cons_succ]
      refine tkq 6 (some 77) (v := ?_) rfl (Or.inl ⟨by rfl, ?_⟩) (by assumption) ?_
      rotate_left
      · intro w hSw; (try dsimp only at hSw); go_simp; first | done | (with_reducible rfl)
      simp only [Act.put, List.setIfInBounds_toArray, List.set_cons_zero, List.set_cons_succ]
      refine tkq 7 (some 78) (v := ?_) rfl (Or.inl ⟨by rfl, ?_⟩) (by assumption) ?_
      rotate_left
      · intro w hSw; (try dsimp only at hSw); go_simp; first | done | (with_reducible rfl)
      simp only [Act.put, List.setIfInBounds_toArray, List.set_cons_zero, List.set_cons_succ]
      refine wpAnyH_ready (rs := [0]) (by kernel_rfl) (by simp) ?_
      refine AllReadyH.cons rfl (fun K hK => ?_) AllReadyH.nil
      go_simp
      go_wp2_with (fail)
      have hbE : Below Y.heap.size Y (Y.alloc (.cells #[] 5 )) := (Below.refl _ _).alloc (Nat.le_refl _) _
      have hS6 := hS5.below hbE
      have e4 := e3.below hbE
      have hOE : Own (Y.alloc (.cells #[] 5 )) Y.heap.size 5 (.slice (some ⟨Y.heap.size, 0, none⟩) 0 0) [] := Own.of_block (n := 0) (cap := 0) Byt.nil rfl (heap_alloc_new Y _) (Nat.le_refl _) (Nat.le_refl _) (Nat.zero_le _) rfl rfl
      obtain ⟨Ya, hYa⟩ : ∃ x, Y.alloc (.cells #[] 5 ) = x := ⟨_, rfl⟩
      rw [hYa] at hbE hS6 e4 hOE ⊢
      have hsa := hbE.size
      refine hK.out _ _ (hS6) (fun hHeld => ?_)
      clear hK K
      refine wpAnyH_ready (rs := [2]) (by kernel_rfl) (by simp) ?_
      refine AllReadyH.cons rfl (fun K hK => ?_) AllReadyH.nil
      refine step_append_b rfl (.tmp 71) (.tmp 72) 28 rfl Y.heap.size 5 i0 Try.underlying28 hi hz0 hz1 hz2 _ [] rfl hOE _ A5 (at_ + j) c5 D rfl e4 (by omega) (by simp; omega) Y hbE hbE.size ?_
      intro v7 w7 ho7 hb7 hg7
      have ho7 := ho7.cast (List.nil_append D)
      have hS7 := hS5.belowB hb7 hS5.k.lt hS5.h.lt
      have e5 := e3.below hb7
      have hsz7 := hb7.size
      refine hK.out _ _ (hS7) (fun hHeld => ?_)
      clear hK K
      refine wpAnyH_ready (rs := [8]) (by kernel_rfl) (by simp) ?_
      refine AllReadyH.cons rfl (fun K hK => ?_) AllReadyH.nil
      go_simp
      go_wp2_with (go_at_call 23; refine (HS1.out _ A5 c5 (e5.more hsz7) e1 e2 ((hp6.below (hb7.mono (by omega))).more (by omega))).mono ?_; rintro e w8 ⟨v8, rfl, ho8, hb8⟩)
      obtain ⟨A8, c8, rfl, f1, f2, f3⟩ := ho8.open_n (np + 8) HXL.out
      have ho9 := ho7.below hb8 (Nat.le_refl _)
      have hS8 := hS7.below hb8
      have hb9 := hb7.trans (hb8.mono hsz7)
      refine hK.out _ _ (hS8) (fun hHeld => ?_)
      clear hK K
      refine wpAnyH_ready (rs := [9]) (by kernel_rfl) (by simp) ?_
      refine AllReadyH.cons rfl (fun K hK => ?_) AllReadyH.nil
      refine step_append_b rfl (.tmp 73) (.tmp 79) 28 rfl Y.heap.size 5 i0 Try.underlying28 hi hz0 hz1 hz2 _ _ rfl ho9 _ A8 (np + 8) c8 X rfl f3 (by omega) (by rw [HDL.out]; omega) Y hb9 hb9.size ?_
      intro v10 w10 ho10 hb10 hg10
      have ho10 := ho10.cast HBR.out.symm
      have hS10 := hS5.belowB hb10 hS5.k.lt hS5.h.lt
      refine hK.out _ _ (hS10) (fun hHeld => ?_)
      clear hK K
      refine tkq 10 (some 15) (v := ?_) rfl (Or.inl ⟨by rfl, ?_⟩) (by assumption) ?_
      rotate_left
      · intro w hSw; (try dsimp only at hSw); go_simp; first | done | (with_reducible rfl)
      simp only [Act.put, List.setIfInBounds_toArray, List.set_cons_zero, List.set_cons_succ]
      refine wpAnyH_done (by kernel_rfl) ?_ _
      obtain ⟨A10, c10, rfl, x1, x2, x3⟩ := ho10.open_n (at_ + j + (np + 8)) HBL.out
      have hcs := hS10.cs
      have hcw10 := hS10.cw
      have hsz10 := hb10.size
      clear ho9 hb9 hS8 ho7 hb7 hS7 e5 hOE hbE hS6 e4 hYa f3 hS5 ho8 hb8 hg10 hg7
      go_wp2_with (first | ((with_reducible refine at_ldrk ?_); refine ld_rkt w.heap.size K (by rfl) hS10.k HKL.out ?_) | fail)
      refine (HM1.out w10 A10 c10 x3 x1 x2).mono ?_
      rintro e w11 ⟨v11, rfl, ho11, hb11⟩
      go_wp2_with fail
      refine bodyPost_ret (results_tmp2 rfl _ _ _) rfl ?_
      have hbz : Below w.heap.size w w10 := hb4.trans ((hBY.mono hle3).trans (hb10.mono (by omega)))
      exact RProPost.yes HMY.out (ho11.base_ hbz.size) (hbz.trans (hb11.mono hbz.size))
theorem rprotect_any (P : Nat → Prop) (sk mk n : Int) (m : HN) (d : Sl) (tok : List Int) (Ap : Option Addr) (np cp : Nat) (pay : List Int) (w : World) (hf : HFits w P m d tok) (hp : Rd w w.heap.size Ap np pay) (hp1 : np ≤ cp) (hp2 : cp ≤ maxLen) (hp3 : np ≤ 1000000) (s0 : 0 ≤ sk) (s1 : sk < 18446744073709551616) (k0 : 0 ≤ mk) (k1 : mk < 18446744073709551616) (n0 : 0 ≤ n) (n1 : n < 18446744073709551616) (w0 : 0 ≤ m.w) (w4 : m.w ≤ 1000) :
    Calls Try.prog 8 #[.agg (kL sk mk).toArray, hdV m d, .int .u64 n, .slice Ap np cp] w (RProPost sk mk n m tok pay w) := by
  by_cases h : hrightB m tok.length = true
  · by_cases hc1 : n ≤ 4611686018427387903
    · by_cases hc2 : 4 ≤ m.w + np
      · by_cases hc3 : np ≤ 512
        · by_cases hc4 : 512 < ((hencS m tok (m.w + pay.length + 8)).length : Int) + (m.w + pay.length + 8)
          · exact rprotect_e P sk mk n m d tok Ap np cp pay w hf hp hp1 hp2 hp3 s0 s1 k0 k1 n0 n1 w0 w4 h hc1 hc2 hc3 hc4 (by unfold mayB; rw [decide_eq_false (show ¬ ((hencS m tok (m.w + pay.length + 8)).length : Int) + (m.w + pay.length + 8) ≤ 512 by omega), Bool.and_false])
          · exact rprotect_yes P sk mk n m d tok Ap np cp pay w hf hp hp1 hp2 hp3 s0 s1 k0 k1 n0 n1 w0 w4 (by unfold mayB; rw [h, decide_eq_true hc1, decide_eq_true (by rw [hp.1]; exact hc2), decide_eq_true (by omega)]; rfl)
        · exact rprotect_d P sk mk n m d tok Ap np cp pay w hf hp hp1 hp2 hp3 s0 s1 k0 k1 n0 n1 w0 w4 h hc1 hc2 (by omega) (by unfold mayB; rw [decide_eq_false (show ¬ ((hencS m tok (m.w + pay.length + 8)).length : Int) + (m.w + pay.length + 8) ≤ 512 by rw [hp.1]; omega), Bool.and_false])
      · exact rprotect_c P sk mk n m d tok Ap np cp pay w hf hp hp1 hp2 hp3 s0 s1 k0 k1 n0 n1 w0 w4 h hc1 (by omega) (by unfold mayB; rw [decide_eq_false (show ¬ 4 ≤ m.w + (pay.length : Int) by rw [hp.1]; omega), Bool.and_false, Bool.false_and])
    · exact rprotect_b P sk mk n m d tok Ap np cp pay w hf hp hp1 hp2 hp3 s0 s1 k0 k1 n0 n1 w0 w4 h (by omega) (by unfold mayB; rw [decide_eq_false hc1, Bool.and_false, Bool.false_and, Bool.false_and])
  · have h' : hrightB m tok.length = false := by cases hh : hrightB m tok.length with | true => exact absurd hh h | false => rfl
    exact rprotect_a P sk mk n m d tok Ap np cp pay w hf hp hp1 hp2 hp3 s0 s1 k0 k1 n0 n1 w0 w4 h' (by unfold mayB; rw [h']; rfl)
end Go.Proofs.Ytehdilgnlhhjdaa
