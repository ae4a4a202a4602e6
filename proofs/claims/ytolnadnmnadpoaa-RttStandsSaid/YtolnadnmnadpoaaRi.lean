/-
  RttStands: its walk.
-/
import Derived.Test.YtolnadnmnadpoaaRh
namespace Go.Proofs.Ytolnadnmnadpoaa
set_option linter.unusedVariables false
set_option linter.unusedSimpArgs false
open Go.RowKit
/-- What an estimator's numbers are, held against the least and the greatest sample. -/
structure Lh (s : ES) (lo hi : Int) : Prop where
  lo0 : 0 ≤ lo
  lo1 : lo ≤ 4096
  hi0 : 0 ≤ hi
  hi1 : hi ≤ 4096
  ok : s.ok
  is : (s.has = false ∧ lo = 4096 ∧ hi = 0) ∨ (s.has = true ∧ s.ls = lo ∧ lo ≤ s.sm ∧ s.sm ≤ hi)
theorem Lh.next {s : ES} {lo hi : Int} (h : Lh s lo hi) (x : Int) (h0 : 0 ≤ x) (h1 : x ≤ 4096) :
    Lh (sampS s x) (min lo x) (max hi x) ∧ (sampS s x).has = true ∧ (sampS s x).ls = min lo x ∧ min lo x ≤ (sampS s x).sm ∧ (sampS s x).sm ≤ max hi x := by
  have hok := sampS_ok h.ok x
  obtain ⟨a0, a1, b0, b1, ok, is⟩ := h
  have hc : clT x = x := by unfold clT; omega
  have key : (sampS s x).has = true ∧ (sampS s x).ls = min lo x ∧ min lo x ≤ (sampS s x).sm ∧ (sampS s x).sm ≤ max hi x := by
    unfold sampS
    rw [hc]
    rcases is with ⟨i1, i2, i3⟩ | ⟨i1, i2, i3, i4⟩
    · rw [if_neg (by rw [i1]; decide)]
      exact ⟨rfl, by simp only; omega, by simp only; omega, by simp only; omega⟩
    · rw [if_pos i1]
      exact ⟨rfl, by simp only; omega, by simp only; omega, by simp only; omega⟩
  exact ⟨⟨by omega, by omega, by omega, by omega, hok, .inr key⟩, key⟩
/-- The greatest deviation behind so many samples that are the same. -/
def mostD : Nat → Int
  | 0 => 2048
  | n + 1 => 3 * mostD n / 4
structure Sm (s : ES) (t : Int) (i : Nat) : Prop where
  ok : s.ok
  is : i = 0 ∧ s.has = false ∨ 0 < i ∧ s.has = true ∧ s.sm = t ∧ s.dv ≤ mostD (i - 1)
theorem Sm.next {s : ES} {t : Int} {i : Nat} (h : Sm s t i) (h0 : 0 ≤ t) (h1 : t ≤ 4096) : Sm (sampS s t) t (i + 1) ∧ (sampS s t).sm = t := by
  have hok := sampS_ok h.ok t
  have hd0 := h.ok.dv0
  have hc : clT t = t := by unfold clT; omega
  have key : (sampS s t).has = true ∧ (sampS s t).sm = t ∧ (sampS s t).dv ≤ mostD (i + 1 - 1) := by
    unfold sampS
    rw [hc]
    rcases h.is with ⟨rfl, i2⟩ | ⟨i1, i2, i3, i4⟩
    · rw [if_neg (by rw [i2]; decide)]
      exact ⟨rfl, rfl, show t / 2 ≤ 2048 by omega⟩
    · rw [if_pos i2]
      refine ⟨rfl, by simp only; omega, ?_⟩
      obtain ⟨k, rfl⟩ : ∃ k, i = k + 1 := ⟨i - 1, by omega⟩
      have e : mostD (k + 1 + 1 - 1) = 3 * mostD k / 4 := rfl
      rw [e]
      have i5 : s.dv ≤ mostD k := i4
      simp only
      omega
  exact ⟨⟨hok, .inr ⟨by omega, key⟩⟩, key.2.1⟩
set_option maxRecDepth 100000 in
set_option maxHeartbeats 8000000 in
theorem rstands_law (A : Option Addr) (n c : Nat) (xs : List Int) (t k : Int) (w : World) (hu : InN w A n xs) (hnc : n ≤ c) (hcm : c ≤ maxLen) (hc8 : c * 8 ≤ 140737488351232) (ht : (Lit.int .i64 t).wf = true) (hk : (Lit.int .i64 k).wf = true) :
    Calls Try.prog 5 #[.slice A n c, .int .i64 t, .int .i64 k] w fun e w' => e = .returned (.bool true) ∧ Below w.heap.size w w' := by
  obtain ⟨hk0, hk1⟩ := bounds_i64 hk
  obtain ⟨ht0, ht1⟩ := bounds_i64 ht
  have HU := Lib.hid hu
  unfold maxLen at hcm
  obtain ⟨hy0, hy1⟩ := withinS_bd t 0 4096 (by decide)
  have HW := Lib.hid (fun W => within_any t 0 4096 W ht0 ht1 (by decide) (by decide) (by decide))
  obtain ⟨y, hy⟩ : ∃ y, withinS t 0 4096 = y := ⟨_, rfl⟩
  rw [hy] at HW hy0 hy1
  clear hu hk ht hy ht0 ht1
  have hm0 : -1000 < k.tmod 1000 := Int.lt_tmod_of_pos k (by omega)
  have hm1 : k.tmod 1000 < 1000 := Int.tmod_lt_of_pos k (by omega)
  have hmk : k < 6 → k ≤ 0 ∨ 1000 ≤ k.tmod 1000 + 1000 := fun h => by
    rcases Int.lt_or_le k 0 with h0 | h0
    · left; omega
    · right; have := Int.tmod_nonneg 1000 h0; omega
  have hmk2 : 0 < k → 1000 ≤ k.tmod 1000 + 1000 := fun h => by have := Int.tmod_nonneg 1000 (show 0 ≤ k by omega); omega
  have HLE : Hid (∀ s : ES, s.ok → perS s k ≤ perS s (k.tmod 1000 + 1000)) := Lib.hid (fun s ok => perS_le s ok _ _ (by
    rcases Int.lt_or_le 0 k with h | h
    · have := hmk2 h; omega
    · omega))
  clear hmk hmk2
  obtain ⟨m, hm⟩ : ∃ m, k.tmod 1000 = m := ⟨_, rfl⟩
  rw [hm] at HLE hm0 hm1
  go_enter Try.func5, Try.ntmps5
  go_wp2_with (go_at_call 10; refine (enew_any _).mono ?_; rintro e w1 ⟨rfl, hA1, hB1⟩)
  obtain ⟨p, hp⟩ : ∃ p, w.heap.size = p := ⟨_, rfl⟩
  rw [hp] at hA1 ⊢
  have HT : Hid (On w w1 p es0) := Lib.hid ⟨es0_ok, hA1, hB1, Nat.le_of_eq hp⟩
  have HL : Hid (Lh es0 4096 0) := Lib.hid ⟨by decide, by decide, by decide, by decide, es0_ok, .inl ⟨rfl, rfl, rfl⟩⟩
  clear hp hA1 hB1
  go_wp2
  go_loopg [8, 9, 10, 11, 12, 13] 40 (fun kx s8 s9 s10 s11 s12 s13 wr => ∃ (i : Nat) (s : ES) (lo hi : Int), s8 = .int .i64 lo ∧ s9 = .int .i64 hi ∧ s10 = .int .i64 i ∧ i ≤ n ∧ i ≤ 40 ∧ 40 - i ≤ kx ∧ Hid (On w wr p s) ∧ Hid (Lh s lo hi))
  case atStart => exact ⟨0, _, _, _, rfl, rfl, rfl, Nat.zero_le _, by omega, by omega, HT, HL⟩
  case round =>
    clear HT HL
    obtain ⟨i, s, lo, hi, rfl, rfl, rfl, hin, hi40, hkx, hT, hL⟩ := hrel
    by_cases hgo : i < n ∧ i < 40
    · obtain ⟨g1, g2⟩ := hgo
      obtain ⟨b, off, rfl, hb, hc⟩ := (HU.out.below hT.out.bl).at_ (by omega)
      obtain ⟨x, hx⟩ : ∃ x, xs[i]? = some x := ⟨_, List.getElem?_eq_getElem (by rw [HU.out.len]; exact g1)⟩
      have hxb := HU.out.wd x (List.mem_of_getElem? hx)
      have cx := hc i x hx
      clear hc hb hx
      have hiz : (i : Int) < (n : Int) := by omega
      have hi6 : (i : Int) < 40 := by omega
      obtain ⟨hz0, hz1⟩ := withinS_bd x 0 4096 (by decide)
      have HWX := Lib.hid (fun W => within_any x 0 4096 W hxb.1 (by omega) (by decide) (by decide) (by decide))
      obtain ⟨z, hz⟩ : ∃ z, withinS x 0 4096 = z := ⟨_, rfl⟩
      rw [hz] at HWX hz0 hz1
      clear hz
      have hN := hL.out.next z hz0 hz1
      have hpl := HLE.out _ (sampS_ok hT.out.ok z)
      have HS := Lib.hid (fun w3 (a : At w3 p 38 (sampS s z).l) k3 => hT.out.next z a k3)
      have HSA := Lib.hid (esample_any hT.out.ap hT.out.ok z (by omega))
      obtain ⟨s', hs'⟩ : ∃ s', sampS s z = s' := ⟨_, rfl⟩
      rw [hs'] at hN hpl HS HSA
      clear hs'
      obtain ⟨hN1, hN2, hN3, hN4, hN5⟩ := hN
      have hdv0 := hN1.ok.dv0
      have hdv1 := hN1.ok.dv1
      obtain ⟨P1, hP1⟩ : ∃ P, perS s' k = P := ⟨_, rfl⟩
      obtain ⟨P2, hP2⟩ : ∃ P, perS s' (m + 1000) = P := ⟨_, rfl⟩
      rw [hP1, hP2] at hpl
      have HP1 := Lib.hid (fun (W : World) (a : At W p 38 s'.l) => hP1 ▸ eperiod_any a hN1.ok k (by omega))
      have HP2 := Lib.hid (fun (W : World) (a : At W p 38 s'.l) => hP2 ▸ eperiod_any a hN1.ok (m + 1000) (by omega))
      clear hP1 hP2
      have HLE2 := Lib.hid (fun (W : World) (a : At W p 38 s'.l) => eleast_any a)
      rw [hN2, hN3] at HLE2
      have HSM := Lib.hid (fun (W : World) (a : At W p 38 s'.l) => esm_any a)
      have HVR := Lib.hid (fun (W : World) (a : At W p 38 s'.l) => evar_any a)
      obtain ⟨sm, hsm⟩ : ∃ x, s'.sm = x := ⟨_, rfl⟩
      obtain ⟨dv, hdv⟩ : ∃ x, s'.dv = x := ⟨_, rfl⟩
      rw [hsm] at hN4 hN5 HSM
      rw [hdv] at hdv0 hdv1 HVR
      have HN := Lib.hid hN1
      clear hsm hdv hN1 hN2 hN3
      obtain ⟨lo', hlo⟩ : ∃ x, min lo z = x := ⟨_, rfl⟩
      obtain ⟨hi', hhi⟩ : ∃ x, max hi z = x := ⟨_, rfl⟩
      rw [hlo] at hN4 HN HLE2
      rw [hhi] at hN5 HN
      have hlo2 : (if z < lo then z else lo) = lo' := by rw [← hlo]; split <;> omega
      have hhi2 : (if hi < z then z else hi) = hi' := by rw [← hhi]; split <;> omega
      have HLO := Lib.hid (And.intro hlo hhi)
      clear hlo hhi
      have hq1 : ¬ hi' < sm := by omega
      have hq2 : ¬ sm < lo' := by omega
      have hq3 : ¬ dv < 0 := by omega
      have hq4 : ¬ 4096 < dv := by omega
      have hq5 : ¬ P2 < P1 := by omega
      go_wp2_with (first
        | (go_at_call 9; refine (HWX.out _).mono ?_; rintro e w6 ⟨rfl, rfl⟩)
        | (go_at_call 11; (with_reducible refine HSA.out.mono ?_); rintro e w3 ⟨rfl, hA3, hk3⟩; have H3 := Lib.hid (HS.out _ hA3 hk3); clear hA3 hk3)
        | (go_at_call 12; (with_reducible refine (HLE2.out _ H3.out.ap).mono ?_); rintro e w4 ⟨rfl, d4, rfl⟩; have H4 := Lib.hid (fun d => H3.out.drewN d))
        | (go_at_call 13; (with_reducible refine (HSM.out _ (H4.out _).ap).mono ?_); rintro e w5 ⟨rfl, rfl⟩)
        | (go_at_call 14; (with_reducible refine (HVR.out _ (H4.out _).ap).mono ?_); rintro e w5 ⟨rfl, rfl⟩)
        | (go_at_call 15; (with_reducible refine (HP1.out _ (H4.out _).ap).mono ?_); rintro e w5 ⟨rfl, d5, rfl⟩; rw [World.drewN_drewN])
        | (go_at_call 15; (with_reducible refine (HP2.out _ (H4.out _).ap).mono ?_); rintro e w5 ⟨rfl, d6, rfl⟩; rw [World.drewN_drewN]))
      go_roundg (40 - (i + 1))
      case measure => omega
      case rel => exact ⟨i + 1, s', lo', hi', rfl, rfl, by simp, by omega, by omega, by omega, Lib.hid (H4.out _), HN⟩
    · have hgo2 : (i = n ∧ ¬ (i : Int) < (n : Int)) ∨ ((40 : Int) < (n : Int) ∧ i = 40) := by omega
      clear hgo hL HLE
      have hBw := Lib.hid hT.out.bl
      rcases hgo2 with ⟨rfl, hgo2⟩ | ⟨hgo2, rfl⟩
      all_goals
        go_wp2_with (first
          | (go_at_call 10; refine (enew_any _).mono ?_; rintro e w2 ⟨rfl, hA2, hB2⟩; (obtain ⟨q, hq⟩ : ∃ q, wr.heap.size = q := ⟨_, rfl⟩); (rw [hq] at hA2 ⊢); have H2 : Hid (On w w2 q es0) := Lib.hid ⟨es0_ok, hA2, hBw.out.trans (hB2.mono hBw.out.size), by rw [← hq]; exact hBw.out.size⟩; clear hA2 hB2 hq hT)
          | (go_at_call 9; refine (HW.out _).mono ?_; rintro e w6 ⟨rfl, rfl⟩))
        go_loopg [16] 30 (fun kx s16 wr2 => ∃ (j : Nat) (f : ES), s16 = .int .i64 j ∧ j ≤ 30 ∧ 30 - j ≤ kx ∧ Hid (On w wr2 q f) ∧ Hid (Sm f y j))
        case atStart => exact ⟨0, _, rfl, by omega, by omega, H2, Lib.hid ⟨es0_ok, .inl ⟨rfl, rfl⟩⟩⟩
        case round =>
          clear H2
          obtain ⟨j, f, rfl, hj30, hkx2, hF, hS⟩ := hrel
          by_cases hj : j < 30
          · have hjz : (j : Int) < 30 := by omega
            have hN := hS.out.next hy0 hy1
            have HN := Lib.hid hN.1
            have HE := Lib.hid hN.2
            clear hN
            go_wp2_with (first
              | (go_at_call 11; (with_reducible refine (esample_any hF.out.ap hF.out.ok y (by omega)).mono ?_); rintro e w3 ⟨rfl, hA3, hk3⟩; have H3 := Lib.hid (hF.out.next y hA3 hk3); clear hA3 hk3)
              | (go_at_call 13; (with_reducible refine (esm_any H3.out.ap).mono ?_); rintro e w4 ⟨rfl, rfl⟩; rw [HE.out]))
            go_roundg (30 - (j + 1))
            case measure => omega
            case rel => exact ⟨j + 1, _, by simp, by omega, by omega, H3, HN⟩
          · obtain rfl : j = 30 := by omega
            have hdv : f.dv ≤ 3 := by
              rcases hS.out.is with ⟨h, _⟩ | ⟨_, _, _, h⟩
              · omega
              · have : mostD (30 - 1) ≤ 3 := by decide
                omega
            have HV := Lib.hid (evar_any hF.out.ap)
            obtain ⟨dv, hdv2⟩ : ∃ x, f.dv = x := ⟨_, rfl⟩
            rw [hdv2] at hdv HV
            clear hdv2
            go_wp2_with (first
              | (go_at_call 14; (with_reducible refine HV.out.mono ?_); rintro e w4 ⟨rfl, rfl⟩)
              | (go_at_call 8; refine (eknown_any _).mono ?_; rintro e w8 ⟨rfl, hB8⟩; have H8 := Lib.hid hB8; clear hB8))
            go_ret
            exact ⟨rfl, hF.out.bl.trans (H8.out.mono hF.out.bl.size)⟩
end Go.Proofs.Ytolnadnmnadpoaa
