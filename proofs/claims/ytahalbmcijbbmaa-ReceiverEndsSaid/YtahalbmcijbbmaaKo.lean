/-
  ReceiverEnds: its walk.
-/
import Derived.Test.YtahalbmcijbbmaaMq15
import Derived.Test.YtahalbmcijbbmaaMq16
namespace Go.Proofs.Ytahalbmcijbbmaa
set_option linter.unusedVariables false
set_option linter.unusedSimpArgs false
open Go.RowKit
set_option maxHeartbeats 40000000 in
set_option maxRecDepth 100000 in
theorem rends_law (A0 : Option Addr) (n0 c0 : Nat) (bs0 : List Int) (A : Option Addr) (n c : Nat) (xs : List Int) (rs : Bool) (a3 : Int) (w : World) (hu0 : InRow w A0 n0 c0 bs0) (hs00 : c0 ≤ 140737488351232) (hu1 : InN w A n xs) (hnc : n ≤ c) (hcm : c ≤ maxLen) (hs1 : c * 8 ≤ 140737488351232) (hw3 : (Lit.int .u64 a3).wf = true) :
    Calls Try.prog 4 #[.slice A0 n0 c0, .slice A n c, .bool rs, .int .u64 a3] w fun e w' => e = .returned (.bool true) ∧ Below w.heap.size w w' := by
  obtain ⟨hr0, hnc0, hcm0, hA0⟩ := hu0
  obtain ⟨m, hm⟩ : ∃ m, m = min n0 120 := ⟨_, rfl⟩
  obtain ⟨la, hla⟩ : ∃ D, D = bs0.take m := ⟨_, rfl⟩
  have hra : Rd w w.heap.size A0 m la := by rw [hla]; exact hr0.cutTo (by omega)
  have hlal : la.length = m := hra.1
  have hm2 : m ≤ 120 := by omega
  have hmc : m ≤ c0 := by omega
  have HCU : Hid (∀ W, Calls Try.prog 12 #[.slice A0 n0 c0, .int .i64 120] W fun e w' => e = .returned (.slice A0 m c0) ∧ W = w') := Lib.hid (fun W => by
    have := cut_any A0 n0 c0 120 W hnc0 hcm0 (by omega) (fun hlt => by rintro rfl; have := hA0 rfl; omega)
    rw [Nat.min_comm] at hm
    rw [Nat.min_comm, ← hm] at this
    exact this)
  have hc08 : c0 ≤ 9223372036854775807 := by unfold maxLen at hcm0; omega
  have hc8 : c ≤ 9223372036854775807 := by omega
  have h3 : 0 ≤ a3 ∧ a3 < 18446744073709551616 := by
    have := bounds_u64 hw3
    omega
  obtain ⟨hs0, hsb⟩ := smallS_bd a3 h3.1
  obtain ⟨sc, hsc⟩ : ∃ sc : Nat, smallS a3 = sc := ⟨(smallS a3).toNat, by omega⟩
  have HSM : Hid (∀ W, Calls Try.prog 17 #[.int .u64 a3] W fun e w' => e = .returned (.int .u64 sc) ∧ Below W.heap.size W w') := Lib.hid (fun W => by
    have := small_any a3 W h3.1 h3.2
    rw [hsc] at this
    exact this)
  have hsc2 : sc < 18446744073709551616 := by omega
  have HN : Hid (Calls Try.prog 5 #[.int .u64 6, .int .u64 500] w fun e w' => ∃ p, e = .returned (.pointer (some ⟨p, 0, none⟩)) ∧ Gq w w' p la sc rs 0) := Lib.hid ((qo_new 6 500 (by decide) (by decide) w).mono fun e w' ⟨p, he, hq⟩ => ⟨p, he, qs0 6 500, hq, enQ0 (by omega) sc rs⟩)
  have HK := Lib.hid (fun W => known17_any W)
  obtain ⟨nn, hnn⟩ : ∃ nn, nn = (m + 9) / 10 := ⟨_, rfl⟩
  have hnp : nP la = nn := by unfold nP; rw [hlal, hnn]
  have hnq : ((m : Int) + 9).tdiv 10 = (nn : Int) := by rw [hnn, Int.tdiv_eq_ediv_of_nonneg (by omega)]; omega
  have hn12 : nn ≤ 12 := by omega
  have hnm : 10 * nn ≤ m + 9 := by omega
  have HRA := Lib.hid hra
  have HLA := Lib.hid hlal
  have HNP := Lib.hid hnp
  have HXS := Lib.hid hu1
  clear hs00 hr0 hnc0 hcm0 hA0 hla hra hlal hw3 h3 hs0 hsb hsc hnp hu1 hcm hs1 hm hnn
  go_enter Try.func4, Try.ntmps4
  go_wp2_with (first
    | (go_at_call 5; (with_reducible refine HN.out.mono ?_); rintro e w1 ⟨p, rfl, hq1⟩; have HQ := Lib.hid hq1; clear hq1)
    | (go_at_call 12; (with_reducible refine (HCU.out _).mono ?_); rintro e w2 ⟨rfl, hw2⟩; rw [← hw2]; clear hw2))
  have h2n : (2 : Int) * (nn : Int) = ((2 * nn : Nat) : Int) := by omega
  obtain ⟨N2, hN2⟩ : ∃ N2, N2 = 2 * nn := ⟨_, rfl⟩
  rw [← hN2] at h2n
  have hN24 : N2 ≤ 24 := by omega
  have HN2 := Lib.hid hN2
  clear hN2
  go_loopg [11] N2 (fun kx s11 wr => ∃ (i : Nat), s11 = .int .i64 i ∧ i ≤ N2 ∧ N2 - i ≤ kx ∧ Hid (Gq w wr p la sc rs i))
  case atStart => exact ⟨0, rfl, by omega, by omega, HQ⟩
  case round =>
    clear HQ HN HCU
    obtain ⟨i, rfl, hi24, hkx, hQ⟩ := hrel
    by_cases hgo : i < N2
    · have hiz : (i : Int) < (N2 : Int) := by omega
      have hN2 := HN2.out
      have hnn0 : 0 < nn := by omega
      obtain ⟨km, hkm⟩ : ∃ km, km = i % nn := ⟨_, rfl⟩
      have hmod : (i : Int).tmod (nn : Int) = (km : Int) := by rw [hkm, ← Int.ofNat_tmod]
      have hmod2 : (i : Int) % (nn : Int) = (km : Int) := by rw [hkm]; omega
      have hkml : km < nn := by rw [hkm]; exact Nat.mod_lt _ hnn0
      have hkmi : nn ≤ i → km = i - nn := fun h => by rw [hkm, Nat.mod_eq_sub_mod h, Nat.mod_eq_of_lt (by omega)]
      have hb2 := hQ.out.bl
      clear hkm
      have hk3 : nn ≤ i ∨ (i < nn ∧ n ≤ i) ∨ (i < nn ∧ i < n) := by omega
      rcases hk3 with hca | ⟨hca, hcb⟩ | ⟨hca, hcb⟩
      · have hcz : ¬ (i : Int) < (nn : Int) := by omega
        have hkl : km < nn := hkml
        have hki : nn ≤ i → km = i - nn := hkmi
        clear hkmi
        obtain ⟨off, hoff⟩ : ∃ off, off = 10 * km := ⟨_, rfl⟩
        obtain ⟨e1, he1⟩ : ∃ e, e = min (off + 10) m := ⟨_, rfl⟩
        have hol : off ≤ m := by omega
        have hoe : (off : Int) ≤ (e1 : Int) := by omega
        have hec : (e1 : Int) ≤ (c0 : Int) := by omega
        have hoz : (10 : Int) * (km : Int) = (off : Int) := by omega
        have hmin : (if (m : Int) < (off : Int) + 10 then (m : Int) else (off : Int) + 10) = (e1 : Int) := by rw [he1]; split <;> omega
        have hwo : IntKind.u64.wrap (off : Int) = (off : Int) := by rw [IntKind.wrap_u64]; omega
        obtain ⟨UA, hUA⟩ : ∃ UA, Option.map (fun x => x.add off) A0 = UA := ⟨_, rfl⟩
        have HROW : Hid (Rd w w.heap.size UA (e1 - off) ((la.drop off).take (e1 - off))) := Lib.hid (by
          have h1 := (HRA.out.cutTo (show e1 ≤ m by omega)).cutFrom (c := c0) (k := off) (by omega) (by omega)
          have e2 : cutA A0 c0 off = UA := by unfold cutA; rw [if_neg (by omega)]; exact hUA
          rw [e2, List.drop_take] at h1
          exact h1)
        have HPC : Hid (∀ (F : Bool) W, F = decide (e1 = m) → Gq w W p la sc rs i → Calls Try.prog 13 #[.pointer (some ⟨p, 0, none⟩), .agg #[.int .i64 8, .int .u64 6, .int .u64 off, .slice UA (e1 - off : Nat) (c0 - off : Nat), .bool F, .int .u64 0, .int .u64 0, .int .u64 0, .int .u64 0, .int .u64 0, .slice none 0 0, .int .u8 0, .int .u8 0, .int .u8 0, .int .u8 0, .int .u8 0, .int .u8 0, .int .u8 0, .int .u8 0]] W fun e w' => e = .returned (.int .i64 0) ∧ Gq w w' p la sc rs (i + 1)) := Lib.hid (fun F W hF hG =>
          gq_piece hG km (by rw [HNP.out]; exact hkl) (by rw [HNP.out]; exact hki) (by rw [HNP.out]; omega) e1 off hoff (by rw [HLA.out]; exact he1) F (by rw [HLA.out]; exact hF) UA (c0 - off) HROW.out (by omega))
        have HUA := Lib.hid hUA
        clear hUA he1 hoff hki
        have hcs : (e1 = m ∧ ((e1 : Int) == (m : Int)) = true) ∨ (¬ e1 = m ∧ ((e1 : Int) == (m : Int)) = false) := by
          by_cases h : e1 = m
          · exact .inl ⟨h, by simp [h]⟩
          · exact .inr ⟨h, by simp; omega⟩
        rcases hcs with ⟨hem, hemz⟩ | ⟨hem, hemz⟩
        · have HP := Lib.hid (HPC.out true wr (by simp [hem]) hQ.out)
          clear HPC hem hN2
          have hrc : rs = false ∨ (rs = true ∧ (i : Int) = ((nn / 2 : Nat) : Int)) ∨ (rs = true ∧ ¬ (i : Int) = ((nn / 2 : Nat) : Int)) := by
            cases rs
            · exact .inl rfl
            · by_cases h : (i : Int) = ((nn / 2 : Nat) : Int)
              · exact .inr (.inl ⟨rfl, h⟩)
              · exact .inr (.inr ⟨rfl, h⟩)
          obtain ⟨hh, hhh⟩ : ∃ hh, hh = nn / 2 := ⟨_, rfl⟩
          have hhz : (nn : Int).tdiv 2 = (hh : Int) := by rw [hhh, Int.tdiv_eq_ediv_of_nonneg (by omega)]; omega
          rw [← hhh] at hrc
          have hhb : hh ≤ 12 := by omega
          have hnx : N2 - (i + 1) < N2 - i := by omega
          have hcut : e1 - off ≤ c0 - off := by omega
          clear hhh
          rcases hrc with rfl | ⟨rfl, hieq⟩ | ⟨rfl, hieq⟩
          · go_wp2_with (first | (go_at_call 13; (try rw [HUA.out]); (with_reducible refine HP.out.mono ?_); rintro e w3 ⟨rfl, hq3⟩; have HQ3 := Lib.hid hq3; clear hq3) | fail)
            go_roundg (N2 - (i + 1))
            case measure => omega
            case rel => exact ⟨i + 1, by simp, by omega, by omega, HQ3⟩
          · have hieqz : ((i : Int) == (hh : Int)) = true := by simp [hieq]
            have HRS : Hid (∀ W, Gq w W p la sc true (i + 1) → Calls Try.prog 13 #[.pointer (some ⟨p, 0, none⟩), .agg #[.int .i64 4, .int .u64 6, .int .u64 0, .slice none 0 0, .bool false, .int .u64 0, .int .u64 sc, .int .u64 m, .int .u64 0, .int .u64 0, .slice none 0 0, .int .u8 0, .int .u8 0, .int .u8 0, .int .u8 0, .int .u8 0, .int .u8 0, .int .u8 0, .int .u8 0]] W fun e w' => e = .returned (.int .i64 0) ∧ Gq w w' p la sc true (i + 1)) := Lib.hid (fun W hG => gq_reset hG hsc2 m HLA.out.symm)
            clear hieq
            go_wp2_with (first | (go_at_call 13; (try rw [HUA.out]); (with_reducible refine HP.out.mono ?_); rintro e w3 ⟨rfl, hq3⟩; have HQ3 := Lib.hid hq3; clear hq3) | (go_at_call 17; (with_reducible refine (HSM.out _).mono ?_); rintro e w4 ⟨rfl, hb4⟩; have HQ4 := Lib.hid (HRS.out w4 (HQ3.out.below hb4)); clear hb4) | (go_at_call 13; (with_reducible refine HQ4.out.mono ?_); rintro e w5 ⟨rfl, hq5⟩; have HQ5 := Lib.hid hq5; clear hq5) | fail)
            go_roundg (N2 - (i + 1))
            case measure => omega
            case rel => exact ⟨i + 1, by simp, by omega, by omega, HQ5⟩
          · have hieqz : ((i : Int) == (hh : Int)) = false := by simp; omega
            clear hieq
            go_wp2_with (first | (go_at_call 13; (try rw [HUA.out]); (with_reducible refine HP.out.mono ?_); rintro e w3 ⟨rfl, hq3⟩; have HQ3 := Lib.hid hq3; clear hq3) | fail)
            go_roundg (N2 - (i + 1))
            case measure => omega
            case rel => exact ⟨i + 1, by simp, by omega, by omega, HQ3⟩
        · have HP := Lib.hid (HPC.out false wr (by simp [hem]) hQ.out)
          clear HPC hem hN2
          have hrc : rs = false ∨ (rs = true ∧ (i : Int) = ((nn / 2 : Nat) : Int)) ∨ (rs = true ∧ ¬ (i : Int) = ((nn / 2 : Nat) : Int)) := by
            cases rs
            · exact .inl rfl
            · by_cases h : (i : Int) = ((nn / 2 : Nat) : Int)
              · exact .inr (.inl ⟨rfl, h⟩)
              · exact .inr (.inr ⟨rfl, h⟩)
          obtain ⟨hh, hhh⟩ : ∃ hh, hh = nn / 2 := ⟨_, rfl⟩
          have hhz : (nn : Int).tdiv 2 = (hh : Int) := by rw [hhh, Int.tdiv_eq_ediv_of_nonneg (by omega)]; omega
          rw [← hhh] at hrc
          have hhb : hh ≤ 12 := by omega
          have hnx : N2 - (i + 1) < N2 - i := by omega
          have hcut : e1 - off ≤ c0 - off := by omega
          clear hhh
          rcases hrc with rfl | ⟨rfl, hieq⟩ | ⟨rfl, hieq⟩
          · go_wp2_with (first | (go_at_call 13; (try rw [HUA.out]); (with_reducible refine HP.out.mono ?_); rintro e w3 ⟨rfl, hq3⟩; have HQ3 := Lib.hid hq3; clear hq3) | fail)
            go_roundg (N2 - (i + 1))
            case measure => omega
            case rel => exact ⟨i + 1, by simp, by omega, by omega, HQ3⟩
          · have hieqz : ((i : Int) == (hh : Int)) = true := by simp [hieq]
            have HRS : Hid (∀ W, Gq w W p la sc true (i + 1) → Calls Try.prog 13 #[.pointer (some ⟨p, 0, none⟩), .agg #[.int .i64 4, .int .u64 6, .int .u64 0, .slice none 0 0, .bool false, .int .u64 0, .int .u64 sc, .int .u64 m, .int .u64 0, .int .u64 0, .slice none 0 0, .int .u8 0, .int .u8 0, .int .u8 0, .int .u8 0, .int .u8 0, .int .u8 0, .int .u8 0, .int .u8 0]] W fun e w' => e = .returned (.int .i64 0) ∧ Gq w w' p la sc true (i + 1)) := Lib.hid (fun W hG => gq_reset hG hsc2 m HLA.out.symm)
            clear hieq
            go_wp2_with (first | (go_at_call 13; (try rw [HUA.out]); (with_reducible refine HP.out.mono ?_); rintro e w3 ⟨rfl, hq3⟩; have HQ3 := Lib.hid hq3; clear hq3) | (go_at_call 17; (with_reducible refine (HSM.out _).mono ?_); rintro e w4 ⟨rfl, hb4⟩; have HQ4 := Lib.hid (HRS.out w4 (HQ3.out.below hb4)); clear hb4) | (go_at_call 13; (with_reducible refine HQ4.out.mono ?_); rintro e w5 ⟨rfl, hq5⟩; have HQ5 := Lib.hid hq5; clear hq5) | fail)
            go_roundg (N2 - (i + 1))
            case measure => omega
            case rel => exact ⟨i + 1, by simp, by omega, by omega, HQ5⟩
          · have hieqz : ((i : Int) == (hh : Int)) = false := by simp; omega
            clear hieq
            go_wp2_with (first | (go_at_call 13; (try rw [HUA.out]); (with_reducible refine HP.out.mono ?_); rintro e w3 ⟨rfl, hq3⟩; have HQ3 := Lib.hid hq3; clear hq3) | fail)
            go_roundg (N2 - (i + 1))
            case measure => omega
            case rel => exact ⟨i + 1, by simp, by omega, by omega, HQ3⟩
      · have hcz : (i : Int) < (nn : Int) := by omega
        have hcz2 : ¬ (i : Int) < (n : Int) := by omega
        have hkl : i < nn := hca
        have hki : nn ≤ i → i = i - nn := fun h => by omega
        clear hkmi
        obtain ⟨off, hoff⟩ : ∃ off, off = 10 * i := ⟨_, rfl⟩
        obtain ⟨e1, he1⟩ : ∃ e, e = min (off + 10) m := ⟨_, rfl⟩
        have hol : off ≤ m := by omega
        have hoe : (off : Int) ≤ (e1 : Int) := by omega
        have hec : (e1 : Int) ≤ (c0 : Int) := by omega
        have hoz : (10 : Int) * (i : Int) = (off : Int) := by omega
        have hmin : (if (m : Int) < (off : Int) + 10 then (m : Int) else (off : Int) + 10) = (e1 : Int) := by rw [he1]; split <;> omega
        have hwo : IntKind.u64.wrap (off : Int) = (off : Int) := by rw [IntKind.wrap_u64]; omega
        obtain ⟨UA, hUA⟩ : ∃ UA, Option.map (fun x => x.add off) A0 = UA := ⟨_, rfl⟩
        have HROW : Hid (Rd w w.heap.size UA (e1 - off) ((la.drop off).take (e1 - off))) := Lib.hid (by
          have h1 := (HRA.out.cutTo (show e1 ≤ m by omega)).cutFrom (c := c0) (k := off) (by omega) (by omega)
          have e2 : cutA A0 c0 off = UA := by unfold cutA; rw [if_neg (by omega)]; exact hUA
          rw [e2, List.drop_take] at h1
          exact h1)
        have HPC : Hid (∀ (F : Bool) W, F = decide (e1 = m) → Gq w W p la sc rs i → Calls Try.prog 13 #[.pointer (some ⟨p, 0, none⟩), .agg #[.int .i64 8, .int .u64 6, .int .u64 off, .slice UA (e1 - off : Nat) (c0 - off : Nat), .bool F, .int .u64 0, .int .u64 0, .int .u64 0, .int .u64 0, .int .u64 0, .slice none 0 0, .int .u8 0, .int .u8 0, .int .u8 0, .int .u8 0, .int .u8 0, .int .u8 0, .int .u8 0, .int .u8 0]] W fun e w' => e = .returned (.int .i64 0) ∧ Gq w w' p la sc rs (i + 1)) := Lib.hid (fun F W hF hG =>
          gq_piece hG i (by rw [HNP.out]; exact hkl) (by rw [HNP.out]; exact hki) (by rw [HNP.out]; omega) e1 off hoff (by rw [HLA.out]; exact he1) F (by rw [HLA.out]; exact hF) UA (c0 - off) HROW.out (by omega))
        have HUA := Lib.hid hUA
        clear hUA he1 hoff hki
        have hcs : (e1 = m ∧ ((e1 : Int) == (m : Int)) = true) ∨ (¬ e1 = m ∧ ((e1 : Int) == (m : Int)) = false) := by
          by_cases h : e1 = m
          · exact .inl ⟨h, by simp [h]⟩
          · exact .inr ⟨h, by simp; omega⟩
        rcases hcs with ⟨hem, hemz⟩ | ⟨hem, hemz⟩
        · have HP := Lib.hid (HPC.out true wr (by simp [hem]) hQ.out)
          clear HPC hem hN2
          have hrc : rs = false ∨ (rs = true ∧ (i : Int) = ((nn / 2 : Nat) : Int)) ∨ (rs = true ∧ ¬ (i : Int) = ((nn / 2 : Nat) : Int)) := by
            cases rs
            · exact .inl rfl
            · by_cases h : (i : Int) = ((nn / 2 : Nat) : Int)
              · exact .inr (.inl ⟨rfl, h⟩)
              · exact .inr (.inr ⟨rfl, h⟩)
          obtain ⟨hh, hhh⟩ : ∃ hh, hh = nn / 2 := ⟨_, rfl⟩
          have hhz : (nn : Int).tdiv 2 = (hh : Int) := by rw [hhh, Int.tdiv_eq_ediv_of_nonneg (by omega)]; omega
          rw [← hhh] at hrc
          have hhb : hh ≤ 12 := by omega
          have hnx : N2 - (i + 1) < N2 - i := by omega
          have hcut : e1 - off ≤ c0 - off := by omega
          clear hhh
          rcases hrc with rfl | ⟨rfl, hieq⟩ | ⟨rfl, hieq⟩
          · go_wp2_with (first | (go_at_call 13; (try rw [HUA.out]); (with_reducible refine HP.out.mono ?_); rintro e w3 ⟨rfl, hq3⟩; have HQ3 := Lib.hid hq3; clear hq3) | fail)
            go_roundg (N2 - (i + 1))
            case measure => omega
            case rel => exact ⟨i + 1, by simp, by omega, by omega, HQ3⟩
          · have hieqz : ((i : Int) == (hh : Int)) = true := by simp [hieq]
            have HRS : Hid (∀ W, Gq w W p la sc true (i + 1) → Calls Try.prog 13 #[.pointer (some ⟨p, 0, none⟩), .agg #[.int .i64 4, .int .u64 6, .int .u64 0, .slice none 0 0, .bool false, .int .u64 0, .int .u64 sc, .int .u64 m, .int .u64 0, .int .u64 0, .slice none 0 0, .int .u8 0, .int .u8 0, .int .u8 0, .int .u8 0, .int .u8 0, .int .u8 0, .int .u8 0, .int .u8 0]] W fun e w' => e = .returned (.int .i64 0) ∧ Gq w w' p la sc true (i + 1)) := Lib.hid (fun W hG => gq_reset hG hsc2 m HLA.out.symm)
            clear hieq
            go_wp2_with (first | (go_at_call 13; (try rw [HUA.out]); (with_reducible refine HP.out.mono ?_); rintro e w3 ⟨rfl, hq3⟩; have HQ3 := Lib.hid hq3; clear hq3) | (go_at_call 17; (with_reducible refine (HSM.out _).mono ?_); rintro e w4 ⟨rfl, hb4⟩; have HQ4 := Lib.hid (HRS.out w4 (HQ3.out.below hb4)); clear hb4) | (go_at_call 13; (with_reducible refine HQ4.out.mono ?_); rintro e w5 ⟨rfl, hq5⟩; have HQ5 := Lib.hid hq5; clear hq5) | fail)
            go_roundg (N2 - (i + 1))
            case measure => omega
            case rel => exact ⟨i + 1, by simp, by omega, by omega, HQ5⟩
          · have hieqz : ((i : Int) == (hh : Int)) = false := by simp; omega
            clear hieq
            go_wp2_with (first | (go_at_call 13; (try rw [HUA.out]); (with_reducible refine HP.out.mono ?_); rintro e w3 ⟨rfl, hq3⟩; have HQ3 := Lib.hid hq3; clear hq3) | fail)
            go_roundg (N2 - (i + 1))
            case measure => omega
            case rel => exact ⟨i + 1, by simp, by omega, by omega, HQ3⟩
        · have HP := Lib.hid (HPC.out false wr (by simp [hem]) hQ.out)
          clear HPC hem hN2
          have hrc : rs = false ∨ (rs = true ∧ (i : Int) = ((nn / 2 : Nat) : Int)) ∨ (rs = true ∧ ¬ (i : Int) = ((nn / 2 : Nat) : Int)) := by
            cases rs
            · exact .inl rfl
            · by_cases h : (i : Int) = ((nn / 2 : Nat) : Int)
              · exact .inr (.inl ⟨rfl, h⟩)
              · exact .inr (.inr ⟨rfl, h⟩)
          obtain ⟨hh, hhh⟩ : ∃ hh, hh = nn / 2 := ⟨_, rfl⟩
          have hhz : (nn : Int).tdiv 2 = (hh : Int) := by rw [hhh, Int.tdiv_eq_ediv_of_nonneg (by omega)]; omega
          rw [← hhh] at hrc
          have hhb : hh ≤ 12 := by omega
          have hnx : N2 - (i + 1) < N2 - i := by omega
          have hcut : e1 - off ≤ c0 - off := by omega
          clear hhh
          rcases hrc with rfl | ⟨rfl, hieq⟩ | ⟨rfl, hieq⟩
          · go_wp2_with (first | (go_at_call 13; (try rw [HUA.out]); (with_reducible refine HP.out.mono ?_); rintro e w3 ⟨rfl, hq3⟩; have HQ3 := Lib.hid hq3; clear hq3) | fail)
            go_roundg (N2 - (i + 1))
            case measure => omega
            case rel => exact ⟨i + 1, by simp, by omega, by omega, HQ3⟩
          · have hieqz : ((i : Int) == (hh : Int)) = true := by simp [hieq]
            have HRS : Hid (∀ W, Gq w W p la sc true (i + 1) → Calls Try.prog 13 #[.pointer (some ⟨p, 0, none⟩), .agg #[.int .i64 4, .int .u64 6, .int .u64 0, .slice none 0 0, .bool false, .int .u64 0, .int .u64 sc, .int .u64 m, .int .u64 0, .int .u64 0, .slice none 0 0, .int .u8 0, .int .u8 0, .int .u8 0, .int .u8 0, .int .u8 0, .int .u8 0, .int .u8 0, .int .u8 0]] W fun e w' => e = .returned (.int .i64 0) ∧ Gq w w' p la sc true (i + 1)) := Lib.hid (fun W hG => gq_reset hG hsc2 m HLA.out.symm)
            clear hieq
            go_wp2_with (first | (go_at_call 13; (try rw [HUA.out]); (with_reducible refine HP.out.mono ?_); rintro e w3 ⟨rfl, hq3⟩; have HQ3 := Lib.hid hq3; clear hq3) | (go_at_call 17; (with_reducible refine (HSM.out _).mono ?_); rintro e w4 ⟨rfl, hb4⟩; have HQ4 := Lib.hid (HRS.out w4 (HQ3.out.below hb4)); clear hb4) | (go_at_call 13; (with_reducible refine HQ4.out.mono ?_); rintro e w5 ⟨rfl, hq5⟩; have HQ5 := Lib.hid hq5; clear hq5) | fail)
            go_roundg (N2 - (i + 1))
            case measure => omega
            case rel => exact ⟨i + 1, by simp, by omega, by omega, HQ5⟩
          · have hieqz : ((i : Int) == (hh : Int)) = false := by simp; omega
            clear hieq
            go_wp2_with (first | (go_at_call 13; (try rw [HUA.out]); (with_reducible refine HP.out.mono ?_); rintro e w3 ⟨rfl, hq3⟩; have HQ3 := Lib.hid hq3; clear hq3) | fail)
            go_roundg (N2 - (i + 1))
            case measure => omega
            case rel => exact ⟨i + 1, by simp, by omega, by omega, HQ3⟩
      · have hcz : (i : Int) < (nn : Int) := by omega
        have hcz2 : (i : Int) < (n : Int) := by omega
        obtain ⟨x, hx⟩ : ∃ x, xs[i]? = some x := ⟨_, List.getElem?_eq_getElem (by rw [HXS.out.len]; omega)⟩
        obtain ⟨b, of, rfl, hbl, hxc⟩ := HXS.out.at_ (by omega)
        have ex : wr.cell? ⟨b, of + i, none⟩ = some (.int .i64 x) := (hb2.cell (p := ⟨b, _, none⟩) hbl).trans (hxc i x hx)
        have hwx := HXS.out.wd x (List.mem_of_getElem? hx)
        obtain ⟨n1, hn1⟩ : ∃ n1, n1 = nn - 1 := ⟨_, rfl⟩
        have hn1z : (nn : Int) - 1 = (n1 : Int) := by omega
        obtain ⟨hwa, hwb⟩ := withinS_bd x 0 n1 (by omega)
        obtain ⟨k, hk⟩ : ∃ k : Nat, withinS x 0 n1 = k := ⟨(withinS x 0 n1).toNat, by omega⟩
        have HWI : Hid (∀ W, Calls Try.prog 11 #[.int .i64 x, .int .i64 0, .int .i64 n1] W fun e w' => e = .returned (.int .i64 k) ∧ W = w') := Lib.hid (fun W => by rw [← hk]; exact within_any x 0 n1 W (by omega) (by omega) (by omega) (by omega) (by omega))
        have hkl : k < nn := by omega
        have hki : nn ≤ i → k = i - nn := fun h => by omega
        clear hkmi hk hwa hwb hxc hx hn1 hbl hwx
        obtain ⟨off, hoff⟩ : ∃ off, off = 10 * k := ⟨_, rfl⟩
        obtain ⟨e1, he1⟩ : ∃ e, e = min (off + 10) m := ⟨_, rfl⟩
        have hol : off ≤ m := by omega
        have hoe : (off : Int) ≤ (e1 : Int) := by omega
        have hec : (e1 : Int) ≤ (c0 : Int) := by omega
        have hoz : (10 : Int) * (k : Int) = (off : Int) := by omega
        have hmin : (if (m : Int) < (off : Int) + 10 then (m : Int) else (off : Int) + 10) = (e1 : Int) := by rw [he1]; split <;> omega
        have hwo : IntKind.u64.wrap (off : Int) = (off : Int) := by rw [IntKind.wrap_u64]; omega
        obtain ⟨UA, hUA⟩ : ∃ UA, Option.map (fun x => x.add off) A0 = UA := ⟨_, rfl⟩
        have HROW : Hid (Rd w w.heap.size UA (e1 - off) ((la.drop off).take (e1 - off))) := Lib.hid (by
          have h1 := (HRA.out.cutTo (show e1 ≤ m by omega)).cutFrom (c := c0) (k := off) (by omega) (by omega)
          have e2 : cutA A0 c0 off = UA := by unfold cutA; rw [if_neg (by omega)]; exact hUA
          rw [e2, List.drop_take] at h1
          exact h1)
        have HPC : Hid (∀ (F : Bool) W, F = decide (e1 = m) → Gq w W p la sc rs i → Calls Try.prog 13 #[.pointer (some ⟨p, 0, none⟩), .agg #[.int .i64 8, .int .u64 6, .int .u64 off, .slice UA (e1 - off : Nat) (c0 - off : Nat), .bool F, .int .u64 0, .int .u64 0, .int .u64 0, .int .u64 0, .int .u64 0, .slice none 0 0, .int .u8 0, .int .u8 0, .int .u8 0, .int .u8 0, .int .u8 0, .int .u8 0, .int .u8 0, .int .u8 0]] W fun e w' => e = .returned (.int .i64 0) ∧ Gq w w' p la sc rs (i + 1)) := Lib.hid (fun F W hF hG =>
          gq_piece hG k (by rw [HNP.out]; exact hkl) (by rw [HNP.out]; exact hki) (by rw [HNP.out]; omega) e1 off hoff (by rw [HLA.out]; exact he1) F (by rw [HLA.out]; exact hF) UA (c0 - off) HROW.out (by omega))
        have HUA := Lib.hid hUA
        clear hUA he1 hoff hki
        have hcs : (e1 = m ∧ ((e1 : Int) == (m : Int)) = true) ∨ (¬ e1 = m ∧ ((e1 : Int) == (m : Int)) = false) := by
          by_cases h : e1 = m
          · exact .inl ⟨h, by simp [h]⟩
          · exact .inr ⟨h, by simp; omega⟩
        rcases hcs with ⟨hem, hemz⟩ | ⟨hem, hemz⟩
        · have HP := Lib.hid (HPC.out true wr (by simp [hem]) hQ.out)
          clear HPC hem hN2
          have hrc : rs = false ∨ (rs = true ∧ (i : Int) = ((nn / 2 : Nat) : Int)) ∨ (rs = true ∧ ¬ (i : Int) = ((nn / 2 : Nat) : Int)) := by
            cases rs
            · exact .inl rfl
            · by_cases h : (i : Int) = ((nn / 2 : Nat) : Int)
              · exact .inr (.inl ⟨rfl, h⟩)
              · exact .inr (.inr ⟨rfl, h⟩)
          obtain ⟨hh, hhh⟩ : ∃ hh, hh = nn / 2 := ⟨_, rfl⟩
          have hhz : (nn : Int).tdiv 2 = (hh : Int) := by rw [hhh, Int.tdiv_eq_ediv_of_nonneg (by omega)]; omega
          rw [← hhh] at hrc
          have hhb : hh ≤ 12 := by omega
          have hnx : N2 - (i + 1) < N2 - i := by omega
          have hcut : e1 - off ≤ c0 - off := by omega
          clear hhh
          rcases hrc with rfl | ⟨rfl, hieq⟩ | ⟨rfl, hieq⟩
          · go_wp2_with (first | (go_at_call 11; (with_reducible refine (HWI.out _).mono ?_); rintro e wz ⟨rfl, hwz⟩; rw [← hwz]; clear hwz) | (go_at_call 13; (try rw [HUA.out]); (with_reducible refine HP.out.mono ?_); rintro e w3 ⟨rfl, hq3⟩; have HQ3 := Lib.hid hq3; clear hq3) | fail)
            go_roundg (N2 - (i + 1))
            case measure => omega
            case rel => exact ⟨i + 1, by simp, by omega, by omega, HQ3⟩
          · have hieqz : ((i : Int) == (hh : Int)) = true := by simp [hieq]
            have HRS : Hid (∀ W, Gq w W p la sc true (i + 1) → Calls Try.prog 13 #[.pointer (some ⟨p, 0, none⟩), .agg #[.int .i64 4, .int .u64 6, .int .u64 0, .slice none 0 0, .bool false, .int .u64 0, .int .u64 sc, .int .u64 m, .int .u64 0, .int .u64 0, .slice none 0 0, .int .u8 0, .int .u8 0, .int .u8 0, .int .u8 0, .int .u8 0, .int .u8 0, .int .u8 0, .int .u8 0]] W fun e w' => e = .returned (.int .i64 0) ∧ Gq w w' p la sc true (i + 1)) := Lib.hid (fun W hG => gq_reset hG hsc2 m HLA.out.symm)
            clear hieq
            go_wp2_with (first | (go_at_call 11; (with_reducible refine (HWI.out _).mono ?_); rintro e wz ⟨rfl, hwz⟩; rw [← hwz]; clear hwz) | (go_at_call 13; (try rw [HUA.out]); (with_reducible refine HP.out.mono ?_); rintro e w3 ⟨rfl, hq3⟩; have HQ3 := Lib.hid hq3; clear hq3) | (go_at_call 17; (with_reducible refine (HSM.out _).mono ?_); rintro e w4 ⟨rfl, hb4⟩; have HQ4 := Lib.hid (HRS.out w4 (HQ3.out.below hb4)); clear hb4) | (go_at_call 13; (with_reducible refine HQ4.out.mono ?_); rintro e w5 ⟨rfl, hq5⟩; have HQ5 := Lib.hid hq5; clear hq5) | fail)
            go_roundg (N2 - (i + 1))
            case measure => omega
            case rel => exact ⟨i + 1, by simp, by omega, by omega, HQ5⟩
          · have hieqz : ((i : Int) == (hh : Int)) = false := by simp; omega
            clear hieq
            go_wp2_with (first | (go_at_call 11; (with_reducible refine (HWI.out _).mono ?_); rintro e wz ⟨rfl, hwz⟩; rw [← hwz]; clear hwz) | (go_at_call 13; (try rw [HUA.out]); (with_reducible refine HP.out.mono ?_); rintro e w3 ⟨rfl, hq3⟩; have HQ3 := Lib.hid hq3; clear hq3) | fail)
            go_roundg (N2 - (i + 1))
            case measure => omega
            case rel => exact ⟨i + 1, by simp, by omega, by omega, HQ3⟩
        · have HP := Lib.hid (HPC.out false wr (by simp [hem]) hQ.out)
          clear HPC hem hN2
          have hrc : rs = false ∨ (rs = true ∧ (i : Int) = ((nn / 2 : Nat) : Int)) ∨ (rs = true ∧ ¬ (i : Int) = ((nn / 2 : Nat) : Int)) := by
            cases rs
            · exact .inl rfl
            · by_cases h : (i : Int) = ((nn / 2 : Nat) : Int)
              · exact .inr (.inl ⟨rfl, h⟩)
              · exact .inr (.inr ⟨rfl, h⟩)
          obtain ⟨hh, hhh⟩ : ∃ hh, hh = nn / 2 := ⟨_, rfl⟩
          have hhz : (nn : Int).tdiv 2 = (hh : Int) := by rw [hhh, Int.tdiv_eq_ediv_of_nonneg (by omega)]; omega
          rw [← hhh] at hrc
          have hhb : hh ≤ 12 := by omega
          have hnx : N2 - (i + 1) < N2 - i := by omega
          have hcut : e1 - off ≤ c0 - off := by omega
          clear hhh
          rcases hrc with rfl | ⟨rfl, hieq⟩ | ⟨rfl, hieq⟩
          · go_wp2_with (first | (go_at_call 11; (with_reducible refine (HWI.out _).mono ?_); rintro e wz ⟨rfl, hwz⟩; rw [← hwz]; clear hwz) | (go_at_call 13; (try rw [HUA.out]); (with_reducible refine HP.out.mono ?_); rintro e w3 ⟨rfl, hq3⟩; have HQ3 := Lib.hid hq3; clear hq3) | fail)
            go_roundg (N2 - (i + 1))
            case measure => omega
            case rel => exact ⟨i + 1, by simp, by omega, by omega, HQ3⟩
          · have hieqz : ((i : Int) == (hh : Int)) = true := by simp [hieq]
            have HRS : Hid (∀ W, Gq w W p la sc true (i + 1) → Calls Try.prog 13 #[.pointer (some ⟨p, 0, none⟩), .agg #[.int .i64 4, .int .u64 6, .int .u64 0, .slice none 0 0, .bool false, .int .u64 0, .int .u64 sc, .int .u64 m, .int .u64 0, .int .u64 0, .slice none 0 0, .int .u8 0, .int .u8 0, .int .u8 0, .int .u8 0, .int .u8 0, .int .u8 0, .int .u8 0, .int .u8 0]] W fun e w' => e = .returned (.int .i64 0) ∧ Gq w w' p la sc true (i + 1)) := Lib.hid (fun W hG => gq_reset hG hsc2 m HLA.out.symm)
            clear hieq
            go_wp2_with (first | (go_at_call 11; (with_reducible refine (HWI.out _).mono ?_); rintro e wz ⟨rfl, hwz⟩; rw [← hwz]; clear hwz) | (go_at_call 13; (try rw [HUA.out]); (with_reducible refine HP.out.mono ?_); rintro e w3 ⟨rfl, hq3⟩; have HQ3 := Lib.hid hq3; clear hq3) | (go_at_call 17; (with_reducible refine (HSM.out _).mono ?_); rintro e w4 ⟨rfl, hb4⟩; have HQ4 := Lib.hid (HRS.out w4 (HQ3.out.below hb4)); clear hb4) | (go_at_call 13; (with_reducible refine HQ4.out.mono ?_); rintro e w5 ⟨rfl, hq5⟩; have HQ5 := Lib.hid hq5; clear hq5) | fail)
            go_roundg (N2 - (i + 1))
            case measure => omega
            case rel => exact ⟨i + 1, by simp, by omega, by omega, HQ5⟩
          · have hieqz : ((i : Int) == (hh : Int)) = false := by simp; omega
            clear hieq
            go_wp2_with (first | (go_at_call 11; (with_reducible refine (HWI.out _).mono ?_); rintro e wz ⟨rfl, hwz⟩; rw [← hwz]; clear hwz) | (go_at_call 13; (try rw [HUA.out]); (with_reducible refine HP.out.mono ?_); rintro e w3 ⟨rfl, hq3⟩; have HQ3 := Lib.hid hq3; clear hq3) | fail)
            go_roundg (N2 - (i + 1))
            case measure => omega
            case rel => exact ⟨i + 1, by simp, by omega, by omega, HQ3⟩
    · have hiz : ¬ (i : Int) < (N2 : Int) := by omega
      have hi : i = 2 * nn := by have := HN2.out; omega
      clear hkx hi24 hgo hN24
      have HEND : Hid (nn = 0 ∨ Hq w wr p la sc rs) := Lib.hid (by
        rcases Nat.eq_zero_or_pos nn with h | h
        · exact .inl h
        · have := hQ.out
          rw [hi, ← HNP.out] at this
          exact .inr (gq_fin this (by rw [HNP.out]; exact h)))
      have HF0 : Hid (nn = 0 → Calls Try.prog 13 #[.pointer (some ⟨p, 0, none⟩), .agg #[.int .i64 8, .int .u64 6, .int .u64 0, .slice none 0 0, .bool true, .int .u64 0, .int .u64 0, .int .u64 0, .int .u64 0, .int .u64 0, .slice none 0 0, .int .u8 0, .int .u8 0, .int .u8 0, .int .u8 0, .int .u8 0, .int .u8 0, .int .u8 0, .int .u8 0]] wr fun e w' => e = .returned (.int .i64 0) ∧ Hq w w' p la sc rs) := Lib.hid (fun h => gq_fin0 hQ.out (by rw [HNP.out]; exact h))
      have HRD : Hid (∀ W, Hq w W p la sc rs → Calls Try.prog 15 #[.pointer (some ⟨p, 0, none⟩), .int .i64 1000] W fun e w' =>
        (∃ A c, e = .returned (.tuple #[.slice A m c, .bool true, .int .u64 0, .int .i64 0]) ∧ Own w' W.heap.size 5 (.slice A m c) la ∧ RdEnd w w' p 4) ∨
        (rs = true ∧ ∃ A c, e = .returned (.tuple #[.slice A 0 c, .bool false, .int .u64 sc, .int .i64 29]) ∧ RdEnd w w' p 6)) := Lib.hid (fun W h => by
        have := hq_read h (by rw [HLA.out]; exact hm2)
        rw [HLA.out] at this
        exact this)
      have hbb := bb_refl (strOfNums la)
      have HSTR : Hid (∀ (A1 : Option Addr) (c1 B : Nat) (W : World), Own W B 5 (.slice A1 m c1) la → Below w.heap.size w W → (convert 34 9 (.slice A1 m c1)).run Try.prog W = .ok (.string (strOfNums la)) W ∧ (convert 34 9 (.slice A0 m c0)).run Try.prog W = .ok (.string (strOfNums la)) W) := Lib.hid (fun A1 c1 B W ho hb => by
        obtain ⟨A4, c4, e4, _, _, hr4⟩ := ho.open_n m HLA.out
        injection e4 with e41 _ e43
        subst e41; subst e43
        exact ⟨run_text (P := Try.prog) (c := c1) hr4 34 5 9 Try.underlying34 Try.underlying5 Try.underlying9, run_text (P := Try.prog) (c := c0) (HRA.out.below hb) 34 5 9 Try.underlying34 Try.underlying5 Try.underlying9⟩)
      clear hQ hi
      have hnn1 : nn = 0 ∨ 0 < nn := by omega
      rcases hnn1 with hz | hz
      · subst hz
        have HZ := Lib.hid (HF0.out rfl)
        clear HEND HF0
        go_upto_region 22 with (go_at_call 13; (with_reducible refine HZ.out.mono ?_); rintro e w3 ⟨rfl, hq3⟩; have HQH := Lib.hid hq3; clear hq3)
        go_wp2_with (go_at_call 15; (with_reducible refine (HRD.out _ HQH.out).mono ?_); intro e w4 hr4; rcases hr4 with ⟨A1, c1, rfl, ho4, hE4⟩ | ⟨hrs, A1, c1, rfl, hE4⟩)
        · have HE4 := Lib.hid hE4
          obtain ⟨t1, t2⟩ := HSTR.out A1 c1 _ w4 ho4 hE4.bl
          clear ho4 hE4 HRD HSTR
          go_wp2_with (first | (go_at_call 15; (with_reducible refine HE4.out.rd.mono ?_); rintro e w5 ⟨rfl, hw5⟩; rw [hw5]; clear hw5) | (go_at_call 9; (with_reducible refine (HE4.out.st_ _ (Below.refl _ _)).mono ?_); rintro e w6 ⟨rfl, hw6⟩; rw [hw6]; clear hw6) | (go_at_call 16; (with_reducible refine (HK.out _).mono ?_); rintro e w7 ⟨rfl, hb7⟩; have HB7 := Lib.hid (HE4.out.bl.trans (hb7.mono HE4.out.bl.size)); clear hb7) | fail)
          go_ret
          exact ⟨rfl, HB7.out⟩
        · have HE4 := Lib.hid hE4
          subst hrs
          clear hE4 HRD HSTR
          go_wp2_with (first | (go_at_call 15; (with_reducible refine HE4.out.rd.mono ?_); rintro e w5 ⟨rfl, hw5⟩; rw [hw5]; clear hw5) | (go_at_call 17; (with_reducible refine (HSM.out _).mono ?_); rintro e w8 ⟨rfl, hb8⟩; have HB8 := Lib.hid hb8; have HB9 := Lib.hid (HE4.out.bl.trans (hb8.mono HE4.out.bl.size)); clear hb8) | (go_at_call 9; (with_reducible refine (HE4.out.st_ _ HB8.out).mono ?_); rintro e w6 ⟨rfl, hw6⟩; rw [hw6]; clear hw6) | (go_at_call 16; (with_reducible refine (HK.out _).mono ?_); rintro e w7 ⟨rfl, hb7⟩; have HB7 := Lib.hid (HB9.out.trans (hb7.mono HB9.out.size)); clear hb7) | fail)
          go_ret
          exact ⟨rfl, HB7.out⟩
      · have hzz : ((nn : Int) == 0) = false := by simp; omega
        have HQH : Hid (Hq w wr p la sc rs) := Lib.hid (HEND.out.resolve_left (by omega))
        have HZ := HQH
        clear HEND HF0
        go_upto_region 22 with fail
        go_wp2_with (go_at_call 15; (with_reducible refine (HRD.out _ HQH.out).mono ?_); intro e w4 hr4; rcases hr4 with ⟨A1, c1, rfl, ho4, hE4⟩ | ⟨hrs, A1, c1, rfl, hE4⟩)
        · have HE4 := Lib.hid hE4
          obtain ⟨t1, t2⟩ := HSTR.out A1 c1 _ w4 ho4 hE4.bl
          clear ho4 hE4 HRD HSTR
          go_wp2_with (first | (go_at_call 15; (with_reducible refine HE4.out.rd.mono ?_); rintro e w5 ⟨rfl, hw5⟩; rw [hw5]; clear hw5) | (go_at_call 9; (with_reducible refine (HE4.out.st_ _ (Below.refl _ _)).mono ?_); rintro e w6 ⟨rfl, hw6⟩; rw [hw6]; clear hw6) | (go_at_call 16; (with_reducible refine (HK.out _).mono ?_); rintro e w7 ⟨rfl, hb7⟩; have HB7 := Lib.hid (HE4.out.bl.trans (hb7.mono HE4.out.bl.size)); clear hb7) | fail)
          go_ret
          exact ⟨rfl, HB7.out⟩
        · have HE4 := Lib.hid hE4
          subst hrs
          clear hE4 HRD HSTR
          go_wp2_with (first | (go_at_call 15; (with_reducible refine HE4.out.rd.mono ?_); rintro e w5 ⟨rfl, hw5⟩; rw [hw5]; clear hw5) | (go_at_call 17; (with_reducible refine (HSM.out _).mono ?_); rintro e w8 ⟨rfl, hb8⟩; have HB8 := Lib.hid hb8; have HB9 := Lib.hid (HE4.out.bl.trans (hb8.mono HE4.out.bl.size)); clear hb8) | (go_at_call 9; (with_reducible refine (HE4.out.st_ _ HB8.out).mono ?_); rintro e w6 ⟨rfl, hw6⟩; rw [hw6]; clear hw6) | (go_at_call 16; (with_reducible refine (HK.out _).mono ?_); rintro e w7 ⟨rfl, hb7⟩; have HB7 := Lib.hid (HB9.out.trans (hb7.mono HB9.out.size)); clear hb7) | fail)
          go_ret
          exact ⟨rfl, HB7.out⟩
end Go.Proofs.Ytahalbmcijbbmaa
