/-
  SenderEnds: its walk.
-/
import Derived.Test.YtohahkjikhpamaaZf
import Derived.Deep.LoopGhost
import Derived.Deep.CutRange
import Derived.BigQuiet
namespace Go.Proofs.Ytohahkjikhpamaa
set_option linter.unusedVariables false
set_option linter.unusedSimpArgs false
open Go.RowKit
set_option maxRecDepth 100000 in
set_option maxHeartbeats 32000000 in
theorem sends_law (A0 : Option Addr) (n0 c0 : Nat) (bs0 : List Int) (A1 : Option Addr) (n1 c1 : Nat) (bs1 : List Bool) (reset : Bool) (w : World) (hu1 : InRow w A0 n0 c0 bs0) (hu3 : BoP w A1 n1 bs1) (hn3 : n1 ≤ c1) (hc3 : c1 ≤ maxLen) :
    Calls Try.prog 4 #[.slice A0 n0 c0, .slice A1 n1 c1, .bool reset] w fun e w' => e = .returned (.bool true) ∧ Below w.heap.size w w' := by
  obtain ⟨hr1, hn1, hc1, hA1⟩ := hu1
  obtain ⟨m, hm⟩ : ∃ m, m = min n0 200 := ⟨_, rfl⟩
  obtain ⟨D, hD⟩ : ∃ D, D = bs0.take m := ⟨_, rfl⟩
  have hrD : Rd w w.heap.size A0 m D := by rw [hD]; exact hr1.cutTo (by omega)
  have hDl : D.length = m := hrD.1
  have hm2 : m ≤ 200 := by omega
  have hmc : m ≤ c0 := by omega
  have HU3 := Lib.hid hu3
  have HDL := Lib.hid hDl
  have HCU : Hid (∀ W, Calls Try.prog 6 #[.slice A0 n0 c0, .int .i64 200] W fun e w' => e = .returned (.slice A0 m c0) ∧ w' = W) := Lib.hid (fun W => by
    have := kcut_any A0 n0 c0 200 W hn1 hc1 (by omega) hA1
    rw [← hm] at this
    exact this)
  have hc18 : c0 ≤ 9223372036854775807 := by unfold maxLen at hc1; omega
  have hc3b : c1 ≤ 9223372036854775807 := by unfold maxLen at hc3; omega
  have HN : Hid (Calls Try.prog 5 #[.int .u64 3] w fun e w' => ∃ q p, e = .returned (.pointer (some ⟨q, 0, none⟩)) ∧ Sm w w' q p (ss0 3) (fun _ => False)) := Lib.hid (sm_new 3 (by decide) w)
  have hwn : writeN os0 m = m := by
    show min m (2048 - 0) = m
    omega
  have HWR : Hid (∀ W q p, Sm w W q p (ss0 3) (fun _ => False) → Calls Try.prog 7 #[.pointer (some ⟨q, 0, none⟩), .slice A0 m c0] W fun e w' => e = .returned (.tuple #[.int .i64 m, .int .i64 0]) ∧ Sm w w' q p { ss0 3 with o := writeO os0 D } (fun _ => False)) := Lib.hid (fun W q p h => by
    refine (sm_write h rfl A0 m c0 D ((hrD.below h.bl).more h.bl.size) hmc (by omega) (by omega) (.inr (by decide))).mono fun e w' hP => ⟨?_, hP.2.1⟩
    have := hP.1
    rw [show (ss0 3).o = os0 from rfl, hwn] at this
    exact this)
  have HFI : Hid (∀ W q p, Sm w W q p { ss0 3 with o := writeO os0 D } (fun _ => False) → Calls Try.prog 8 #[.pointer (some ⟨q, 0, none⟩)] W fun e w' => e = .returned (.int .i64 0) ∧ Sm w w' q p { ss0 3 with cl := true, o := finO (writeO os0 D) } (fun _ => False)) := Lib.hid (fun W q p h => (sm_finish h rfl).mono fun e w' hP => ⟨hP.1, hP.2.1⟩)
  have HLI : Hid (∀ W q p, Sm w W q p { ss0 3 with cl := true, o := finO (writeO os0 D) } (fun _ => False) → Calls Try.prog 10 #[.pointer (some ⟨q, 0, none⟩), .int .u64 1000] W fun e w' => e = .returned (.tuple #[]) ∧ ∃ X, Sm w w' q p X (fun _ => False) ∧ EnR D 0 X reset) := Lib.hid (fun W q p h => (sm_limit h 1000 (by decide)).mono fun e w' hP => ⟨hP.1, _, hP.2.1, EnR.start (by omega) _ _ rfl rfl rfl rfl⟩)
  have HK := Lib.hid (fun W => known16_any W)
  clear hu3 hrD hr1 hD hDl hm hc1 hwn
  go_enter Try.func4, Try.ntmps4
  go_wp2_with (first
    | (go_at_call 5; (with_reducible refine HN.out.mono ?_); rintro e w1 ⟨q, p, rfl, hS1⟩; have H1 := Lib.hid (HWR.out w1 q p hS1); clear hS1)
    | (go_at_call 6; (with_reducible refine (HCU.out _).mono ?_); rintro e w2 ⟨rfl, hw2⟩; rw [hw2]; clear hw2)
    | (go_at_call 7; (with_reducible refine H1.out.mono ?_); rintro e w3 ⟨rfl, hS3⟩; have H3 := Lib.hid (HFI.out w3 q p hS3); clear hS3)
    | (go_at_call 8; (with_reducible refine H3.out.mono ?_); rintro e w4 ⟨rfl, hS4⟩; have H4 := Lib.hid (HLI.out w4 q p hS4); clear hS4)
    | (go_at_call 10; (with_reducible refine H4.out.mono ?_); rintro e w5 ⟨rfl, hS5⟩; have HQ := Lib.hid hS5; clear hS5))
  go_loopg [10] 400 (fun kx s10 wr => ∃ (i : Nat), s10 = .int .i64 i ∧ i ≤ 211 ∧ 400 - i ≤ kx ∧ Hid (∃ X, Sm w wr q p X (fun _ => False) ∧ EnR D i X reset))
  case atStart => exact ⟨0, rfl, by omega, by omega, HQ⟩
  case round =>
    clear HQ H1 H3 H4 HLI HFI HWR HN HCU
    obtain ⟨i, rfl, hi5, hkx, hQ⟩ := hrel
    have hiz : (i : Int) < 400 := by omega
    obtain ⟨X, hS, hR⟩ := hQ.out
    have HS := Lib.hid hS
    have HR := Lib.hid hR
    clear hS hR hQ
    go_upto_region 12 with fail
    go_cut [59] from 45 to 58 (fun s59 wx => s59 = .bool false ∧ Hid (∃ X, Sm w wx q p X (fun _ => False) ∧ EnR D i X reset))
    case first =>
      cases reset with
      | false =>
        go_wp2_with fail
        go_meet
        exact ⟨rfl, Lib.hid ⟨X, HS.out, HR.out⟩⟩
      | true =>
        by_cases h3 : i = 3
        · have h3z : ((i : Int) == 3) = true := by simp; omega
          have HST := Lib.hid (sm_state HS.out)
          by_cases h4 : X.st < 4
          · have h4z : (X.st : Int) < 4 := by omega
            have HRE : Hid (Calls Try.prog 9 #[.pointer (some ⟨q, 0, none⟩), .int .u64 9] wr fun e w' => e = .returned (.int .i64 0) ∧ Hid (∃ X, Sm w w' q p X (fun _ => False) ∧ EnR D i X true)) := Lib.hid ((sm_reset HS.out (by omega) 9 (by decide)).mono fun e w' hP => ⟨hP.1, Lib.hid ⟨_, hP.2.1, HR.out.reset_ h3⟩⟩)
            clear h4 h3
            go_wp2_with (first
              | (go_at_call 17; (with_reducible refine HST.out.mono ?_); rintro e w6 ⟨rfl, hw6⟩; rw [hw6]; clear hw6)
              | (go_at_call 9; (with_reducible refine HRE.out.mono ?_); rintro e w7 ⟨rfl, hQ7⟩; have HQ7 := Lib.hid hQ7; clear hQ7))
            go_meet
            exact ⟨rfl, HQ7.out⟩
          · have h4z : ¬ (X.st : Int) < 4 := by omega
            clear h4 h3
            go_wp2_with (go_at_call 17; (with_reducible refine HST.out.mono ?_); rintro e w6 ⟨rfl, hw6⟩; rw [hw6]; clear hw6)
            go_meet
            exact ⟨rfl, Lib.hid ⟨X, HS.out, HR.out⟩⟩
        · have h3z : ((i : Int) == 3) = false := by simp; omega
          go_wp2_with fail
          go_meet
          exact ⟨rfl, Lib.hid ⟨X, HS.out, HR.out⟩⟩
    case rest =>
      clear HS HR
      obtain ⟨rfl, hQ⟩ := hcut
      obtain ⟨X, hS, hR⟩ := hQ.out
      have HS := Lib.hid hS
      have HR := Lib.hid hR
      have HNX := Lib.hid (ends_next hS hR)
      clear hS hR hQ
      go_upto_region 15 with (first
        | (go_at_call 11; (with_reducible refine HNX.out.mono ?_); rintro e w5 ⟨L, b, X', rfl, hl1, hl2, hS5, hb5⟩; have HL1 := Lib.hid hl1; have HL2 := Lib.hid hl2; have HS5 := Lib.hid hS5; have HB5 := Lib.hid hb5; clear hl1 hl2 hS5 hb5)
        | ((with_reducible refine at_st (x := .tmp 11) ?_); refine st_top _ _ L (by rfl) _ (by rfl) (by simp) (by rfl) (by rfl) HL1.out HL2.out ?_)
        | fail)
      have hA6 := At.new w5 43 L
      have hB6 : Below w5.heap.size w5 (w5.alloc (.cells L.toArray 43)) := (Below.refl _ _).alloc (Nat.le_refl _) _
      have hS6 := HS5.out.below hB6
      generalize w5.alloc (.cells L.toArray 43) = W6 at hA6 hS6 ⊢
      generalize w5.heap.size = g at hA6 ⊢
      have HA6 := Lib.hid hA6
      have HS6 := Lib.hid hS6
      have HB6 := Lib.hid hS6.bl
      clear hA6 hB6 hS6 HS5 HNX
      rcases HB5.out with ⟨rfl, hX, hst⟩ | ⟨rfl, hcont⟩
      · rw [hX] at HS6
        clear HB5 hX HL1 HL2 HA6
        have HS7 := HS6
        have hok := HS6.out.oz.ok
        have hlenX : X.o.bs.length ≤ 1099511627776 := by rw [HR.out.bs]; have := HR.out.D2; omega
        have HN2 : Hid (Calls Try.prog 11 #[.pointer (some ⟨q, 0, none⟩), .int .i64 400, .int .u64 1000] W6 fun e w' => ∃ L : List Value, e = .returned (.tuple #[.agg L.toArray, .bool false]) ∧ L.length = 19 ∧ L.all (·.oneCell') = true ∧ Sm w w' q p X (fun _ => False)) := Lib.hid ((sm_next HS6.out hlenX 400 (by omega) 1000 (by omega)).mono fun e w' ⟨L, b, X', v, bs, he, hG, _, hS, _⟩ => by
          have hl := hG.len
          rcases hG with ⟨rfl, _, _, _, rfl⟩ | ⟨_, k, _⟩ | ⟨_, k, _⟩
          · exact ⟨L, he, hl.1, hl.2, hS⟩
          · have := k.1
            omega
          · have := k.1
            omega)
        have HR2 : Hid (∀ W (o : Obj), Sm w W q p X (fun _ => False) → (Calls Try.prog 9 #[.pointer (some ⟨q, 0, none⟩), .int .u64 1] (W.alloc o) fun e w' => e = .returned (.int .i64 24) ∧ w' = W.alloc o) ∧ Below w.heap.size w (W.alloc o)) := Lib.hid (fun W o h => ⟨sm_reset_no (h.below ((Below.refl _ _).alloc (Nat.le_refl _) _)) (by omega) 1, h.bl.alloc h.bl.size _⟩)
        have HST := Lib.hid (sm_state HS6.out)
        have hnr := HR.out.nr
        clear hok hlenX HS7 HR
        have hfin : (reset = true ∧ X.st = 4) ∨ (reset = false ∧ X.st = 4) ∨ (reset = true ∧ X.st = 6) := by
          cases reset with
          | true => exact hst.elim (fun h => .inl ⟨rfl, h⟩) (fun h => .inr (.inr ⟨rfl, h⟩))
          | false => exact .inr (.inl ⟨rfl, by have := hnr rfl; omega⟩)
        clear hnr hst
        rcases hfin with ⟨rfl, hst⟩ | ⟨rfl, hst⟩ | ⟨rfl, hst⟩
        all_goals
          rw [hst] at HST
          clear hst
          go_wp2_with (first
            | (go_at_call 17; (with_reducible refine HST.out.mono ?_); rintro e w7 ⟨rfl, hw7⟩; rw [hw7]; clear hw7)
            | (go_at_call 11; (with_reducible refine HN2.out.mono ?_); rintro e w8 ⟨L2, rfl, hl1, hl2, hS8⟩; have HL3 := Lib.hid hl1; have HL4 := Lib.hid hl2; have H8 := Lib.hid (fun o => HR2.out w8 o hS8); clear hl1 hl2 hS8)
            | ((with_reducible refine at_st (x := .tmp 13) ?_); refine st_top _ _ L2 (by rfl) _ (by rfl) (by simp) (by rfl) (by rfl) HL3.out HL4.out ?_)
            | (go_at_call 9; (with_reducible refine (H8.out _).1.mono ?_); rintro e w9 ⟨rfl, hw9⟩; rw [hw9]; have HB9 := Lib.hid (H8.out (.cells L2.toArray 43)).2; clear hw9)
            | (go_at_call 16; (with_reducible refine (HK.out _).mono ?_); rintro e w10 ⟨rfl, hb10⟩; have HB10 := Lib.hid hb10; clear hb10)
            | fail)
          go_ret
          exact ⟨rfl, HB9.out.trans (HB10.out.mono HB9.out.size)⟩
      · have hc1 := hcont W6 HS6.out
        have HLO := Lib.hid hc1.1
        have HAC := Lib.hid hc1.2
        clear hc1 hcont HB5 HR HS HS6
        go_upto_region 16 with fail
        go_cut [80] from 67 to 79 (fun s80 wx => ∃ ls : Bool, s80 = .bool ls ∧ (ls = true → i < 200) ∧ wx = W6)
        case first =>
          by_cases h1 : i < n1
          · have h1z : (i : Int) < (n1 : Int) := by omega
            obtain ⟨b3, off3, rfl, _, hc⟩ := (HU3.out.below HB6.out).at_ (by omega)
            obtain ⟨lb, hlb⟩ : ∃ lb, bs1[i]? = some lb := ⟨_, List.getElem?_eq_getElem (by rw [HU3.out.len]; exact h1)⟩
            have cx3 := hc i lb hlb
            clear hc hlb
            by_cases h2 : i < 200
            · have h2z : (i : Int) < 200 := by omega
              go_wp2
              go_meet
              exact ⟨lb, rfl, fun _ => h2, rfl⟩
            · have h2z : ¬ (i : Int) < 200 := by omega
              go_wp2
              go_meet
              exact ⟨false, rfl, fun h => (by cases h), rfl⟩
          · have h1z : ¬ (i : Int) < (n1 : Int) := by omega
            go_wp2
            go_meet
            exact ⟨false, rfl, fun h => (by cases h), rfl⟩
        case rest =>
          obtain ⟨ls, rfl, hls, hwc⟩ := hcut
          rw [hwc]
          clear hwc
          cases ls with
          | true =>
            have HLX := Lib.hid (HLO.out (hls rfl))
            clear hls
            go_wp2_with (first
              | ((with_reducible refine at_ld ?_); refine ld_fr_g g L (by rfl) (by rfl) HA6.out HL1.out ?_)
              | (go_at_call 14; (with_reducible refine HLX.out.mono ?_); rintro e w7 ⟨rfl, hq7⟩; have HQ7 := Lib.hid hq7; clear hq7)
              | fail)
            go_roundg (400 - (i + 1))
            case measure => omega
            case rel => exact ⟨i + 1, by simp, (by obtain ⟨X2, _, h⟩ := HQ7.out; exact h.i2), by omega, HQ7⟩
          | false =>
            clear hls
            go_wp2_with (first
              | ((with_reducible refine at_ld ?_); refine ld_fr_g g L (by rfl) (by rfl) HA6.out HL1.out ?_)
              | (go_at_call 15; (with_reducible refine HAC.out.mono ?_); rintro e w7 ⟨rfl, hq7⟩; have HQ7 := Lib.hid hq7; clear hq7)
              | fail)
            go_roundg (400 - (i + 1))
            case measure => omega
            case rel => exact ⟨i + 1, by simp, (by obtain ⟨X2, _, h⟩ := HQ7.out; exact h.i2), by omega, HQ7⟩
end Go.Proofs.Ytohahkjikhpamaa
