/-
  SentOnce: its walk.
-/
import Derived.Test.YtpihgikcgkipaaaWf
import Derived.Deep.Cut
namespace Go.Proofs.Ytpihgikcgkipaaa
set_option linter.unusedVariables false
set_option linter.unusedSimpArgs false
open Go.RowKit
set_option maxRecDepth 100000 in
set_option maxHeartbeats 16000000 in
theorem once_law (A0 : Option Addr) (n0 c0 : Nat) (bs : List Bool) (A1 : Option Addr) (n1 c1 : Nat) (w : World) (hb : BoP w A0 n0 bs) (hn0 : n0 ≤ c0) (hc0 : c0 ≤ maxLen) (hr : RwP w A1 n1) (hn1 : n1 ≤ c1) (hc1 : c1 ≤ maxLen) :
    Calls Try.prog 5 #[.slice A0 n0 c0, .slice A1 n1 c1] w fun e w' => e = .returned (.bool true) ∧ Below w.heap.size w w' := by
  have HB := Lib.hid hb
  have HR := Lib.hid hr
  have HC1 := Lib.hid hc1
  unfold maxLen at hc0 hc1
  clear hb hr
  go_enter Try.func5, Try.ntmps5
  go_wp2_with (go_at_call 7; refine (snew_any _).mono ?_; rintro e w1 ⟨rfl, hL1, hB1⟩; have H1 := Lib.hid (And.intro hL1 hB1); clear hL1 hB1)
  obtain ⟨p, hp⟩ : ∃ p, w.heap.size = p := ⟨_, rfl⟩
  obtain ⟨b6, hb6⟩ : ∃ b, w1.heap.size = b := ⟨_, rfl⟩
  have hT0 : (tab6 fun _ => false).toArray = #[.bool false, .bool false, .bool false, .bool false, .bool false, .bool false, .bool false, .bool false, .bool false, .bool false, .bool false, .bool false, .bool false, .bool false, .bool false, .bool false, .bool false, .bool false, .bool false, .bool false, .bool false, .bool false, .bool false, .bool false, .bool false, .bool false, .bool false, .bool false, .bool false, .bool false, .bool false, .bool false, .bool false, .bool false, .bool false, .bool false, .bool false, .bool false, .bool false, .bool false, .bool false, .bool false, .bool false, .bool false, .bool false, .bool false, .bool false, .bool false, .bool false, .bool false, .bool false, .bool false, .bool false, .bool false, .bool false, .bool false, .bool false, .bool false, .bool false, .bool false] := rfl
  have hm : Mo w ((w1.alloc (.cells (tab6 fun _ => false).toArray 45)).alloc (.cells (tab6 fun _ => false).toArray 45)) p b6 (b6 + 1) 0 0 false (.slice none 0 0) [] (fun _ => false) (fun _ => false) := by
    subst hb6
    rw [hp] at H1
    have hba : Below w1.heap.size w1 ((w1.alloc (.cells (tab6 fun _ => false).toArray 45)).alloc (.cells (tab6 fun _ => false).toArray 45)) := ((Below.refl _ _).alloc (Nat.le_refl _) _).alloc (by simp) _
    exact ⟨by rw [hp]; exact H1.out.1.below hba, (At.new w1 _ _).alloc _, At.new_ _ _ _ (by simp), by omega, H1.out.2.size, by have := H1.out.2.size; omega, by rw [hp]; exact (H1.out.2).trans (hba.mono (by have := H1.out.2.size; omega))⟩
  rw [hT0] at hm
  rw [hp, hb6]
  have HM : Hid (Rd6 w _ p b6 (b6 + 1) 0 0 false (.slice none 0 0) [] (fun _ => false) (fun _ => false)) := Lib.hid ⟨hm, Mi.start, by decide, by decide⟩
  clear hm hT0
  generalize World.alloc (World.alloc w1 _) _ = W0 at *
  have HP := Lib.hid hp
  clear H1 hb6 hp
  obtain ⟨b7, hb7⟩ : ∃ b, b6 + 1 = b := ⟨_, rfl⟩
  rw [hb7] at HM ⊢
  clear hb7
  go_loopg [8, 9, 10, 11, 12, 14] 60 (fun kx s8 s9 s10 s11 s12 s14 wr => ∃ (i : Nat) (ak : Int) (hd : Bool) (v : Value) (l : PL) (f g : Nat → Bool), s8 = .int .i64 i ∧ i ≤ n0 ∧ i ≤ 60 ∧ 60 - i ≤ kx ∧ Hid (Rd6 w wr p b6 b7 i ak hd v l f g))
  case atStart => exact ⟨0, _, _, _, _, _, _, rfl, Nat.zero_le _, by omega, by omega, HM⟩
  case round =>
    clear HM
    obtain ⟨i, ak, hd, v, l, f, g, rfl, hin, hi60, hkx, hM⟩ := hrel
    by_cases hgo : i < n0 ∧ i < 60
    · obtain ⟨g1, g2⟩ := hgo
      have hiz : (i : Int) < (n0 : Int) := by omega
      have hi6 : (i : Int) < 60 := by omega
      obtain ⟨x, hx⟩ : ∃ x, bs[i]? = some x := ⟨_, List.getElem?_eq_getElem (by rw [HB.out.len]; exact g1)⟩
      obtain ⟨b, off, rfl, hbl, hc⟩ := (HB.out.below hM.out.mo.bl).at_ (by omega)
      have cx := hc i x hx
      have HX : Hid (∀ W, Below w.heap.size w W → W.cell? ⟨b, off + i, none⟩ = some (.bool x)) := Lib.hid fun W hW => by
        obtain ⟨b', off', e, _, hc'⟩ := (HB.out.below hW).at_ (by omega)
        injection e with e
        injection e with e1 e2
        subst e1; subst e2
        exact hc' i x hx
      clear hc hbl hx
      have HA := Lib.hid (add6 hM.out g2 x)
      go_upto_region 11 with (go_at_call 10; (with_reducible refine HA.out.mono ?_); rintro e w2 ⟨rfl, v2, l2, hm2, hi2⟩; have H2 := Lib.hid (And.intro hm2 hi2); have cx2 := HX.out _ hm2.bl; have ct2 := (hm2.tf.cell i).trans (tab6_get f g2); have cf2 := hm2.tf.frozen i; clear hm2 hi2)
      have hm3 := H2.out.1.put6 g2 x
      obtain ⟨w3, hw3⟩ : ∃ W, w2.setCell ⟨b6, i, none⟩ (.bool x) = W := ⟨_, rfl⟩
      rw [hw3] at hm3 ⊢
      obtain ⟨f3, hf3⟩ : ∃ F, (fun t => if t = i then x else f t) = F := ⟨_, rfl⟩
      have H3 : Hid (Rd6 w w3 p b6 b7 (i + 1) ak hd v2 l2 f3 g) := Lib.hid (by rw [← hf3]; exact ⟨hm3, H2.out.2, hM.out.a0⟩)
      clear hm3 hw3 hf3 ct2 cf2 cx cx2 HA HX
      by_cases hrow : i < n1
      · have hrz : (i : Int) < (n1 : Int) := by omega
        obtain ⟨b1, off1, rfl, hb1, hc1r⟩ := (HR.out.below H3.out.mo.bl).at_ (by omega)
        obtain ⟨A', n', c', xs, cr, hun, hn', hc'⟩ := hc1r i hrow
        have hi4 : 0 ≤ (i : Int) % 4 ∧ (i : Int) % 4 < 4611686018427387910 := by omega
        have HK := Lib.hid (kranges11_any A' n' c' xs ((i : Int) % 4) w3 hun hn' hc' hi4.1 hi4.2)
        clear hun hi4 hc1r hb1
        go_wp2_with (go_at_call 11; (with_reducible refine HK.out.mono ?_); rintro e w4 ⟨v4, rs, rfl, hO4, hl4, hB4⟩; obtain ⟨A, c, rfl, hlc, hcm, hrn⟩ := RnP.of_own hO4; have H4 : Hid (Rd6 w w4 p b6 b7 (i + 1) ak hd v2 l2 f3 g) := Lib.hid ⟨H3.out.mo.below hB4, H3.out.mi, H3.out.a0⟩; have HO4 := Lib.hid hO4; have HRN := Lib.hid hrn; have hp3 := Lib.hid H3.out.mo.lv.at_.lt; clear hO4 hrn hB4)
        have hlm : Hid (c ≤ maxLen) := Lib.hid hcm
        unfold maxLen at hcm
        go_loopg [9] 17 (fun kx s9 wr2 => ∃ m : Nat, s9 = .slice A m c ∧ m ≤ rs.length ∧ m ≤ kx ∧ wr2 = w4)
        case atStart => exact ⟨rs.length, rfl, Nat.le_refl _, by omega, rfl⟩
        case round =>
          obtain ⟨m, rfl, hm, hkx2, rfl⟩ := hrel
          have hcase : (∃ (m' : Nat) (lo hi : Int), m = m' + 1 ∧ rs[m']? = some (lo, hi) ∧ (i : Int) + 1 < hi) ∨ ¬ (0 : Int) < (m : Int) ∨ ∃ (m' : Nat) (lo hi : Int), m = m' + 1 ∧ rs[m']? = some (lo, hi) ∧ ¬ (i : Int) + 1 < hi := by
            rcases Nat.eq_zero_or_pos m with h0 | h0
            · exact .inr (.inl (by omega))
            · have hg := List.getElem?_eq_getElem (l := rs) (i := m - 1) (by omega)
              rcases hr : rs[m - 1] with ⟨lo, hi⟩
              rw [hr] at hg
              by_cases hh : (i : Int) + 1 < hi
              · exact .inl ⟨m - 1, lo, hi, by omega, hg, hh⟩
              · exact .inr (.inr ⟨m - 1, lo, hi, by omega, hg, hh⟩)
          rcases hcase with ⟨m', lo, hi, rfl, hrs, hhi⟩ | hcase
          · obtain ⟨g9, c9, e9, _, _, _, ch⟩ := HO4.out.cell hrs
            injection e9 with e1 _ e3
            subst e1; subst e3
            simp only at ch
            have hm0 : (0 : Int) < ((m' + 1 : Nat) : Int) := by omega
            go_wp2
            go_roundg m'
            case measure => omega
            case rel => exact ⟨m', rfl, by omega, by omega, rfl⟩
          · have HACK := Lib.hid (ack6 H4.out (by omega) _ _ _ c _ (HRN.out.cut hm) (fun h => by have := hp3.out; have := h.1; omega) (by omega) hlm.out (by omega))
            rcases hcase with hm0 | ⟨m', lo, hi, rfl, hrs, hhi⟩
            rotate_left
            obtain ⟨g9, c9, e9, _, _, _, ch⟩ := HO4.out.cell hrs
            injection e9 with e1 _ e3
            subst e1; subst e3
            simp only at ch
            have hm0 : (0 : Int) < ((m' + 1 : Nat) : Int) := by omega
            all_goals
              go_upto_region 16 with (go_at_call 12; (with_reducible refine HACK.out.mono ?_); rintro e w5 ⟨vg, vl, er, ak5, hd5, vr, Lg, Ll, L5, rfl, hm5, hog, hol, hsp, ha0, ha1⟩; have H5 : Hid (Mo w w5 p b6 b7 (i + 1 : Nat) ak5 hd5 vr L5 f3 g ∧ Spl l2 (Lg ++ Ll) L5 ∧ 0 ≤ ak5 ∧ ak5 ≤ 100) := Lib.hid ⟨hm5, hsp, ha0, ha1⟩; have HOG := Lib.hid (And.intro hog hol); clear hm5 hog hol hsp ha0 ha1)
              obtain ⟨Ag, cg, rfl, _, _⟩ := ownG_shape HOG.out.1
              obtain ⟨Al, cl, rfl, _, _⟩ := ownG_shape HOG.out.2
              have hsrc1 := srcP (ownG_below HOG.out.1 ((Below.refl _ w5).alloc (Nat.le_refl _) (.cells #[] 31)))
              have hlm1 := H5.out.2.1.lm
              rw [List.length_append] at hlm1
              have hli := H3.out.mi.ln
              have HS1 := Lib.hid hsrc1
              have HO0 := Lib.hid (own0 w5)
              have HSZ : Hid (w5.heap.size ≤ (w5.alloc (.cells #[] 31)).heap.size) := Lib.hid (by simp)
              clear hsrc1
              go_wp2_with (first
                | (at_builtin; refine wpList_appendP rfl (.tmp 86) (.tmp 87) rfl w5.heap.size _ 0 [] rfl HO0.out Ag Lg.length cg rfl (plC Lg) (plC_len Lg) HS1.out (plC_one Lg) (by omega) HSZ.out ?_; intro v7 w7 hO7 hg7 _ _; have hb7 := ((Below.refl _ w5).alloc (Nat.le_refl _) (.cells #[] 31)).grown hg7 HSZ.out (fun k hk => (ownG_lt HO0.out k hk).1); have HO7 := Lib.hid hO7; have HB7 := Lib.hid hb7; have HS2 := Lib.hid (srcP (ownG_below HOG.out.2 hb7)); clear hO7 hg7 hb7)
                | (at_builtin; refine wpList_appendP rfl (.tmp 88) (.tmp 89) rfl w5.heap.size _ _ _ rfl HO7.out Al Ll.length cl rfl (plC Ll) (plC_len Ll) HS2.out (plC_one Ll) (by omega) HB7.out.size ?_; intro v8 w8 hO8 hg8 _ _; have hb8 := HB7.out.grown hg8 HB7.out.size (fun k hk => (ownG_lt HO7.out k hk).1); have hO9 := joinP hO8; (obtain ⟨M, hM⟩ : ∃ M, Lg ++ Ll = M := ⟨_, rfl⟩); (obtain ⟨n8, hn8⟩ : ∃ n, M.length = n := ⟨_, rfl⟩); (obtain ⟨A8, c8, e8, h81, h82⟩ := ownG_shape hO9); (rw [hM, hn8] at e8 h81); (rw [hM] at hO9); subst e8; have HO8 := Lib.hid hO9; have HB8 := Lib.hid hb8; have HMM := Lib.hid hM; have HN8 := Lib.hid hn8; clear hO8 hg8 hb8 hO9 hM hn8))
              have hsp : Hid (Spl l2 M L5) := Lib.hid (by rw [← HMM.out]; exact H5.out.2.1)
              have HLP : Hid (Lp w w8 p b6 b7 (i + 1) ak5 hd5 vr L5 f3 g M w5.heap.size A8 n8 c8 0) := Lib.hid ⟨by rw [List.take_zero, addG_nil]; exact H5.out.1.below HB8.out, HO8.out, fun x hx e => by have := (ownG_lt HO8.out x hx).1; have := H5.out.1.tg.lt; omega⟩
              have HMI := Lib.hid (H3.out.mi.out hsp.out)
              have ha5 := Lib.hid H5.out.2.2
              clear HOG H5 HS1 HO0 HSZ HO7 HB7 HS2 HO8 HB8 HMM
              unfold maxLen at h82
              go_loopg [14, 92] n8 (fun kx s14 s92 wr => ∃ (j : Nat), s92 = .int .i64 j ∧ j ≤ n8 ∧ n8 - j ≤ kx ∧ Hid (Lp w wr p b6 b7 (i + 1) ak5 hd5 vr L5 f3 g M w5.heap.size A8 n8 c8 j))
              case atStart => exact ⟨0, rfl, Nat.zero_le _, by omega, HLP⟩
              case round =>
                clear HLP
                obtain ⟨j, rfl, hj, hkx3, hLP⟩ := hrel
                by_cases hjn : j < n8
                · have hjz : (j : Int) < (n8 : Int) := by omega
                  obtain ⟨r, hr⟩ : ∃ r, M[j]? = some r := ⟨_, List.getElem?_eq_getElem (by rw [HN8.out]; exact hjn)⟩
                  obtain ⟨k, hk, hki, hkf, hkg⟩ := H3.out.mi.one hsp.out hr
                  obtain ⟨g9, c9, e9, _, _, hpk⟩ := ownP_at hLP.out.own hr
                  injection e9 with e1 e2 e3
                  subst e1; subst e3
                  clear e2
                  have hnx := Lib.hid (fun o => hLP.out.next o hr hk (show k < 60 by omega))
                  have ct6 := (hLP.out.mo.tf.cell k).trans (tab6_get f3 (show k < 60 by omega))
                  have ct7 := (hLP.out.mo.tg.cell k).trans (tab6_get _ (show k < 60 by omega))
                  have cf7 := hLP.out.mo.tg.frozen k
                  have hl6 := hLP.out.mo.tf.lt
                  have hl7 := hLP.out.mo.tg.lt
                  rw [hkf] at ct6
                  rw [hkg] at ct7
                  obtain ⟨rn, rt, rsz, ra, rA, rk, rc⟩ := r
                  obtain rfl : rn = (k : Int) := hk
                  have c0 := hpk.cn
                  have c1' := hpk.ct
                  have c2 := hpk.cs
                  have c3 := hpk.ca
                  have c4 := hpk.cf
                  simp only at c0 c1' c2 c3 c4
                  clear hpk hr hkf hkg
                  have hki2 : ¬ (i : Int) < (k : Int) := by omega
                  have hk60 : (k : Int) < 60 := by omega
                  go_wp2
                  go_roundg (n8 - (j + 1))
                  case measure => omega
                  case rel => exact ⟨j + 1, by simp, by omega, by omega, hnx.out _⟩
                · obtain rfl : j = n8 := by omega
                  have HRD : Hid (Rd6 w _ p b6 b7 (i + 1) ak5 hd5 vr L5 f3 (addG g M)) := Lib.hid ⟨hLP.out.last HN8.out, HMI.out, ha5.out⟩
                  clear hLP HMI
                  go_wp2
                  go_roundg (60 - (i + 1))
                  case measure => omega
                  case rel => exact ⟨i + 1, _, _, _, _, _, _, by simp, by omega, by omega, by omega, HRD⟩
      · have hrz : ¬ (i : Int) < (n1 : Int) := by omega
        go_wp2
        go_roundg (60 - (i + 1))
        case measure => omega
        case rel => exact ⟨i + 1, _, _, _, _, _, _, by simp, by omega, by omega, by omega, H3⟩
    · have hgo2 : (i = n0 ∧ ¬ (i : Int) < (n0 : Int)) ∨ ((60 : Int) < (n0 : Int) ∧ i = 60) := by omega
      have HCL := Lib.hid (sclear_any hM.out.mo.lv)
      have HMI := Lib.hid hM.out.mi
      obtain ⟨Av, cv, rfl, _, hcv⟩ := ownG_shape hM.out.mo.lv.own
      have hll := hM.out.mi.ln
      obtain ⟨nl, hnl⟩ : ∃ n, l.length = n := ⟨_, rfl⟩
      rw [hnl] at hll
      have hv7 := hM.out.mo.v7
      rw [hnl] at hv7
      have HNL := Lib.hid hnl
      have HV7 := Lib.hid hv7
      rw [hnl] at HCL
      clear hgo hcv hv7 hnl
      rcases hgo2 with ⟨rfl, hgo2⟩ | ⟨hgo2, rfl⟩
      all_goals
        go_wp2_with (go_at_call 13; (with_reducible refine HCL.out.mono ?_); rintro e w2 ⟨rfl, hl2, ho2, hk2⟩; have HLP : Hid (Lp w w2 p b6 b7 _ ak hd (.slice none 0 0) [] f g l w.heap.size Av nl cv 0) := Lib.hid ⟨by rw [List.take_zero, addG_nil]; exact hM.out.mo.call hl2 (hk2.mono fun j hj => .inl (.inl hj)), ho2, fun x hx e => HV7.out (e ▸ hx)⟩; clear hl2 ho2 hk2)
        go_loopg [16, 121] nl (fun kx s16 s121 wr => ∃ (j : Nat), s121 = .int .i64 j ∧ j ≤ nl ∧ nl - j ≤ kx ∧ Hid (Lp w wr p b6 b7 _ ak hd (.slice none 0 0) [] f g l w.heap.size Av nl cv j))
        case atStart => exact ⟨0, rfl, Nat.zero_le _, by omega, HLP⟩
        case round =>
          clear HLP hM HCL
          obtain ⟨j, rfl, hj, hkx3, hLP⟩ := hrel
          by_cases hjn : j < nl
          · have hjz : (j : Int) < (nl : Int) := by omega
            obtain ⟨r, hr⟩ : ∃ r, l[j]? = some r := ⟨_, List.getElem?_eq_getElem (by rw [HNL.out]; exact hjn)⟩
            obtain ⟨k, hk, hki, hkf, hkg⟩ := HMI.out.one (Spl.all HMI.out.nd) hr
            obtain ⟨g9, c9, e9, _, _, hpk⟩ := ownP_at hLP.out.own hr
            injection e9 with e1 e2 e3
            subst e1; subst e3
            clear e2
            have hnx := Lib.hid (fun o => hLP.out.next o hr hk (show k < 60 by omega))
            have ct6 := (hLP.out.mo.tf.cell k).trans (tab6_get f (show k < 60 by omega))
            have ct7 := (hLP.out.mo.tg.cell k).trans (tab6_get _ (show k < 60 by omega))
            have cf7 := hLP.out.mo.tg.frozen k
            have hl6 := hLP.out.mo.tf.lt
            have hl7 := hLP.out.mo.tg.lt
            rw [hkf] at ct6
            rw [hkg] at ct7
            obtain ⟨rn, rt, rsz, ra, rA, rk, rc⟩ := r
            obtain rfl : rn = (k : Int) := hk
            have c0 := hpk.cn
            have c1' := hpk.ct
            have c2 := hpk.cs
            have c3 := hpk.ca
            have c4 := hpk.cf
            simp only at c0 c1' c2 c3 c4
            clear hpk hr hkf hkg
            have hki2 : ¬ (60 : Int) ≤ (k : Int) := by omega
            have hk60 : (k : Int) < 60 := by omega
            go_wp2
            go_roundg (nl - (j + 1))
            case measure => omega
            case rel => exact ⟨j + 1, by simp, by omega, by omega, hnx.out _⟩
          · obtain rfl : j = nl := by omega
            have hml := hLP.out.last HNL.out
            have htg := hml.tg
            rw [show tab6 (addG g l) = tab6 f from tab6_eq fun n _ => (HMI.out.end_ n).symm] at htg
            have HT6 := Lib.hid hml.tf
            have HT7 := Lib.hid htg
            have HLE := Lib.hid (slen_any hml.lv)
            have HFL := Lib.hid (sflight_any hml.lv (by simp) (fun r hr => by cases hr))
            have HBE := Lib.hid hml.bl
            rw [show ((([] : PL).length : Nat) : Int) = 0 from rfl] at HLE
            rw [show sumS [] = 0 from rfl] at HFL
            clear hml htg hLP
            go_wp2_with (first
              | ((with_reducible refine at_ld6 (x := .tmp 6) ?_); refine ld_6 b6 f (by rfl) HT6.out ?_)
              | ((with_reducible refine at_ld6 (x := .tmp 7) ?_); refine ld_6 b7 f (by rfl) HT7.out ?_)
              | ((with_reducible refine at_eq6 ?_); refine wpList_eql_agg (by rfl) 45 45 (.tmp 145) (.tmp 146) rfl (tab6 f).toArray (tab6 f).toArray (by rfl) (by rfl) (by kernel_rfl) true (run_tab6 _ f) ?_)
              | (go_at_call 14; (with_reducible refine HLE.out.mono ?_); rintro e w6 ⟨rfl, rfl⟩)
              | (go_at_call 15; (with_reducible refine HFL.out.mono ?_); rintro e w7 ⟨rfl, hB7⟩; have H7 := Lib.hid (HBE.out.trans (hB7.mono HBE.out.size)); clear hB7)
              | (go_at_call 9; (with_reducible refine (known11_any _).mono ?_); rintro e w8 ⟨rfl, hB8⟩; have H8 := Lib.hid (H7.out.trans (hB8.mono H7.out.size)); clear hB8))
            go_ret
            exact ⟨rfl, H8.out⟩
end Go.Proofs.Ytpihgikcgkipaaa
