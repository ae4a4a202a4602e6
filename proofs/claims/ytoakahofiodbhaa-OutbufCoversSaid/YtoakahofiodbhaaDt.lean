/-
  OutbufCovers: its walk.
-/
import Derived.Test.YtoakahofiodbhaaDs
import Derived.Deep.LoopGhost
import Derived.Deep.CutRange
import Derived.BigQuiet
namespace Go.Proofs.Ytoakahofiodbhaa
set_option linter.unusedVariables false
set_option linter.unusedSimpArgs false
open Go.RowKit
set_option maxRecDepth 100000 in
set_option maxHeartbeats 32000000 in
theorem ocovers_law (A1 : Option Addr) (n1 c1 : Nat) (bs1 : List Int) (A2 : Option Addr) (n2 c2 : Nat) (xs2 : List Int) (A3 : Option Addr) (n3 c3 : Nat) (bs3 : List Bool) (w : World) (hu1 : InRow w A1 n1 c1 bs1) (hs1 : c1 ≤ 140737488351232) (hu2 : InN w A2 n2 xs2) (hn2 : n2 ≤ c2) (hc2 : c2 ≤ maxLen) (hs2 : c2 * 8 ≤ 140737488351232) (hu3 : BoP w A3 n3 bs3) (hn3 : n3 ≤ c3) (hc3 : c3 ≤ maxLen) :
    Calls Try.prog 4 #[.slice A1 n1 c1, .slice A2 n2 c2, .slice A3 n3 c3] w fun e w' => e = .returned (.bool true) ∧ Below w.heap.size w w' := by
  obtain ⟨hr1, hn1, hc1, hA1⟩ := hu1
  obtain ⟨m, hm⟩ : ∃ m, m = min n1 200 := ⟨_, rfl⟩
  obtain ⟨D, hD⟩ : ∃ D, D = bs1.take m := ⟨_, rfl⟩
  have hrD : Rd w w.heap.size A1 m D := by rw [hD]; exact hr1.cutTo (by omega)
  have hDl : D.length = m := hrD.1
  have hm2 : m ≤ 200 := by omega
  have hmc : m ≤ c1 := by omega
  have HU2 := Lib.hid hu2
  have HU3 := Lib.hid hu3
  have HRD := Lib.hid hrD
  have HDL := Lib.hid hDl
  have HCU : Hid (∀ W, Calls Try.prog 11 #[.slice A1 n1 c1, .int .i64 200] W fun e w' => e = .returned (.slice A1 m c1) ∧ w' = W) := Lib.hid (fun W => by
    have := kcut_any A1 n1 c1 200 W hn1 hc1 (by omega) hA1
    rw [← hm] at this
    exact this)
  have hc18 : c1 ≤ 9223372036854775807 := by unfold maxLen at hc1; omega
  have hc3b : c3 ≤ 9223372036854775807 := by unfold maxLen at hc3; omega
  unfold maxLen at hc2
  have HN := Lib.hid (oz_new w)
  have HWR : Hid (∀ W p, Oz w W p os0 (fun _ => False) → Calls Try.prog 8 #[.pointer (some ⟨p, 0, none⟩), .slice A1 m c1] W fun e w' => e = .returned (.int .i64 m) ∧ Oz w w' p (writeO os0 D) (fun _ => False)) := Lib.hid (fun W p h => by
    refine (oz_write h A1 m c1 D ((hrD.below h.bl).more h.bl.size) hmc (by omega) (by omega)).mono fun e w' hP => ⟨?_, hP.2.1⟩
    rw [hP.1]
    have : writeN os0 m = m := by
      show min m (2048 - 0) = m
      omega
    rw [this])
  have HFN : Hid (∀ W p, Oz w W p (writeO os0 D) (fun _ => False) → Calls Try.prog 12 #[.pointer (some ⟨p, 0, none⟩)] W fun e w' => e = .returned (.bool true) ∧ Oz w w' p (finO (writeO os0 D)) (fun _ => False)) := Lib.hid (fun W p h => (oz_finish h).mono fun e w' hP => ⟨hP.1, hP.2.1⟩)
  have HST : Hid (∀ W p g w7, Oz w W p (finO (writeO os0 D)) (fun _ => False) → At w7 g 4 (madeL (.bool false) m) → g = W.heap.size → Below W.heap.size W w7 → Cq w w7 p g D (finO (writeO os0 D)) (fun _ => false) 0 false) := Lib.hid (fun W p g w7 h hA hg hB => by
    rw [madeLB, ← hDl] at hA
    exact cq_start (h.fresh hB fun b e => .inr ⟨by omega, by rw [e]; exact hA.lt⟩) (by omega) hA (by rw [hg]; exact h.bl.size))
  obtain ⟨ib, hib, hb0, hb1, hb2⟩ := oBl.hi
  have HK := Lib.hid (fun W => known15_any W)
  clear hu2 hu3 hrD hr1 hD hDl hm hc1
  go_enter Try.func4, Try.ntmps4
  go_wp2_with (first
    | (go_at_call 6; (with_reducible refine HN.out.mono ?_); rintro e w1 ⟨p, rfl, hO1⟩; have HO1 := Lib.hid (HWR.out w1 p hO1); clear hO1)
    | (go_at_call 11; (with_reducible refine (HCU.out _).mono ?_); rintro e w2 ⟨rfl, hw2⟩; rw [hw2]; clear hw2)
    | (go_at_call 8; (with_reducible refine HO1.out.mono ?_); rintro e w3 ⟨rfl, hO3⟩; have HO3 := Lib.hid (HFN.out w3 p hO3); clear hO3)
    | (go_at_call 12; (with_reducible refine HO3.out.mono ?_); rintro e w4 ⟨rfl, hO4⟩; have HO4 := Lib.hid (HST.out w4 p); have HB4 := Lib.hid hO4.bl; have HO5 := Lib.hid hO4; clear hO4)
    | (at_make; refine wpList_make_lc rfl (.tmp 37) (.tmp 37) 31 rfl 4 ib (.bool false) Try.underlying31 hib hb0 hb1 .i64 .i64 m m m m rfl rfl rfl rfl (Nat.le_refl _) (by rw [hb2]; omega) (by unfold maxLen; omega) w.heap.size w HB4.out HB4.out.size ?_; intro w7 g7 G1 G2 G3 G4 G5; have HQ7 := Lib.hid (HO4.out g7 w7 HO5.out G1.out G2.out G5); clear G1 G2 G3 G4 G5))
  go_loopg [9, 10] 700 (fun kx s9 s10 wr => ∃ (i : Nat) (en : Bool), s9 = .bool en ∧ s10 = .int .i64 i ∧ i ≤ 501 ∧ 700 - i ≤ kx ∧ Hid (∃ S f, Cq w wr p g7 D S f i en))
  case atStart => exact ⟨0, false, rfl, rfl, by omega, by omega, Lib.hid ⟨_, _, HQ7.out⟩⟩
  case round =>
    clear HQ7 HO1 HO3 HO4 HO5 HB4 HST HWR HFN HCU HN
    obtain ⟨i, en, rfl, rfl, hi5, hkx, hQ⟩ := hrel
    obtain ⟨S, f, hq⟩ := hQ.out
    have hiz : (i : Int) < 700 := by omega
    have HW2 : Hid (∀ (x : Int) (W : World), -9223372036854775808 ≤ x → x < 9223372036854775808 → Calls Try.prog 13 #[.int .i64 x, .int .i64 1, .int .i64 50] W fun e w' => (∃ k : Nat, e = .returned (.int .i64 k) ∧ 1 ≤ k ∧ k ≤ 50) ∧ w' = W) := Lib.hid (fun x W h0 h1 => (within_any x 1 50 W h0 (by omega) (by omega) (by omega) (by omega)).mono fun e w' hP => ⟨⟨(withinS x 1 50).toNat, by have := withinS_bd x 1 50 (by omega); rw [hP.1, show (((withinS x 1 50).toNat : Nat) : Int) = withinS x 1 50 by omega], by have := withinS_bd x 1 50 (by omega); omega, by have := withinS_bd x 1 50 (by omega); omega⟩, hP.2.symm⟩)
    have HBLr := Lib.hid hq.oz.bl
    have HQr := Lib.hid hq
    clear hq hQ
    go_upto_if 46 with fail
    go_cut [11] from 43 to 51 (fun s11 wx => ∃ (k : Nat), s11 = .int .i64 k ∧ 1 ≤ k ∧ k ≤ 50 ∧ wx = wr)
    case first =>
      by_cases hin : i < n2
      · have hinz : (i : Int) < (n2 : Int) := by omega
        obtain ⟨b2, off2, rfl, hb2', hcc2⟩ := (HU2.out.below HBLr.out).at_ (by omega)
        obtain ⟨x, hx⟩ : ∃ x, xs2[i]? = some x := ⟨_, List.getElem?_eq_getElem (by rw [HU2.out.len]; exact hin)⟩
        have hxb := HU2.out.wd x (List.mem_of_getElem? hx)
        have cx := hcc2 i x hx
        have HWX := Lib.hid (HW2.out x wr hxb.1 hxb.2)
        clear hcc2 hb2' hx
        go_wp2_with (go_at_call 13; (with_reducible refine HWX.out.mono ?_); rintro e w6 ⟨⟨k, rfl, hk1, hk2⟩, hw6⟩; rw [hw6]; clear hw6)
        go_meet
        exact ⟨k, rfl, hk1, hk2, rfl⟩
      · have hinz : ¬ (i : Int) < (n2 : Int) := by omega
        go_wp2
        go_meet
        exact ⟨7, rfl, by omega, by omega, rfl⟩
    case rest =>
      obtain ⟨k, rfl, hk1, hk2, rfl⟩ := hcut
      generalize hWO : wc = WO at *
      clear hWO
      obtain ⟨r, hr⟩ : ∃ r, r = nextR S k 1000 := ⟨_, rfl⟩
      have HNX := Lib.hid (oz_next HQr.out.oz (by rw [HQr.out.bs, HDL.out]; omega) k (by omega) 1000 (by omega))
      have htold := HQr.out.told k
      rw [HDL.out, ← hr] at htold
      have HR := Lib.hid hr
      have hgF : Hid (∀ W : World, W.heap[g7]? = WO.heap[g7]? → At W g7 4 ((tabB f D.length).map Value.bool)) := Lib.hid (fun W hW => hW.trans HQr.out.fl)
      cases hyes : r.yes with
      | false =>
        have HAL := Lib.hid (HQr.out.all k (by omega) (by rw [HDL.out]; exact hm2) (by rw [← hr]; exact hyes))
        have HNE : Hid (Calls Try.prog 14 #[.pointer (some ⟨p, 0, none⟩), .int .i64 k, .int .u64 1000] WO fun e w' => ∃ (o : Nat) (Ax : Option Addr) (nx cx : Nat) (fi : Bool), e = .returned (.tuple #[.int .u64 o, .slice Ax nx cx, .bool fi, .bool false]) ∧ Oz w w' p S (fun b => b = g7) ∧ At w' g7 4 ((tabB f m).map Value.bool)) := Lib.hid (HNX.out.mono fun e w' ⟨v, he, ho, hz, hg, _⟩ => by
          obtain ⟨Ax, cx, e1, _⟩ := ho.open_
          rw [show ((k : Int)).toNat = k by omega] at he hz
          rw [nextO_none HQr.out.cv.ok (by rw [← HR.out]; exact hyes)] at hz
          rw [show (nextR S k 1000).yes = false by rw [← HR.out]; exact hyes, e1] at he
          have := hgF.out w' (hg g7 rfl)
          rw [HDL.out] at this
          exact ⟨_, _, _, _, _, he, hz, this⟩)
        have HFL := Lib.hid (fun (W : World) (h : At W g7 4 ((tabB f m).map Value.bool)) (j : Nat) (hj : j < m) => (show W.cell? ⟨g7, j, none⟩ = some (.bool true) by
          rw [h.cell, List.getElem?_map, tabB_get _ _ _ hj, HAL.out.1 j (by rw [HDL.out]; exact hj)]
          rfl))
        have hen := HAL.out.2.1
        have HWH := Lib.hid (fun (W : World) (h : Oz w W p S (fun b => b = g7)) => (oz_whole h))
        rw [HAL.out.2.2.1] at HWH
        have HWT : Hid (∀ W, Oz w W p S (fun b => b = g7) → Calls Try.prog 18 #[.pointer (some ⟨p, 0, none⟩), .int .u64 1000] W fun e w' => e = .returned (.bool false) ∧ Below w.heap.size w w') := Lib.hid (fun W h => (oz_waits h (by rw [HQr.out.bs, HDL.out]; omega) 1000 (by omega)).mono fun e w' hP => ⟨by rw [hP.1, HAL.out.2.2.2], hP.2.1.bl⟩)
        subst hen
        clear hr htold HR hyes HNX hgF HQr HAL
        go_wp2_with (go_at_call 14; (with_reducible refine HNE.out.mono ?_); rintro e w9 ⟨o, Ax, nx, cx, fi, rfl, hz9, hf9⟩; have HZ9 := Lib.hid hz9; have HF9 := Lib.hid (HFL.out w9 hf9); clear hz9 hf9)
        go_loopg [17] m (fun ky s17 wi => ∃ (t : Nat), s17 = .int .i64 t ∧ t ≤ m ∧ m - t ≤ ky ∧ wi = w9)
        case atStart => exact ⟨0, rfl, by omega, by omega, rfl⟩
        case round =>
          obtain ⟨t, rfl, htm, hky, rfl⟩ := hrel
          by_cases htl : t < m
          · have htz : (t : Int) < (m : Int) := by omega
            have ct := HF9.out t htl
            go_wp2
            go_roundg (m - (t + 1))
            case measure => omega
            case rel => exact ⟨t + 1, by simp, by omega, by omega, rfl⟩
          · have htz : ¬ (t : Int) < (m : Int) := by omega
            have HWH9 := Lib.hid (HWH.out _ HZ9.out)
            have HWT9 := Lib.hid (HWT.out _ HZ9.out)
            go_wp2_with (first
              | (go_at_call 17; (with_reducible refine HWH9.out.mono ?_); rintro e w10 ⟨rfl, hw10⟩; rw [hw10]; clear hw10)
              | (go_at_call 18; (with_reducible refine HWT9.out.mono ?_); rintro e w11 ⟨rfl, hz11⟩; have HZ11 := Lib.hid hz11; clear hz11)
              | (go_at_call 10; (with_reducible refine (HK.out _).mono ?_); rintro e w12 ⟨rfl, hb12⟩; have HB12 := Lib.hid hb12; clear hb12))
            go_ret
            exact ⟨by first | rfl | simp, HZ11.out.trans (HB12.out.mono HZ11.out.size)⟩
      | true =>
        obtain ⟨ro, rn, rf, ry⟩ := r
        simp only at hyes htold
        subst hyes
        obtain ⟨ht1, ht2, ht3⟩ := htold
        have HNE : Hid (Calls Try.prog 14 #[.pointer (some ⟨p, 0, none⟩), .int .i64 k, .int .u64 1000] WO fun e w' => ∃ (Ax : Option Addr) (cx : Nat), e = .returned (.tuple #[.int .u64 ro, .slice Ax rn cx, .bool rf, .bool true]) ∧ rn ≤ cx ∧ cx ≤ maxLen ∧ Rd w' w'.heap.size Ax rn ((D.drop ro).take rn) ∧ Oz w w' p (nextO S k 1000) (fun b => b = g7) ∧ w'.heap[g7]? = WO.heap[g7]?) := Lib.hid (HNX.out.mono fun e w' ⟨v, he, ho, hz, hg, _⟩ => by
          rw [show ((k : Int)).toNat = k by omega, ← HR.out] at he ho
          rw [show ((k : Int)).toNat = k by omega] at hz
          rw [HQr.out.bs] at ho
          have hl : ((D.drop ro).take rn).length = rn := by
            rw [List.length_take, List.length_drop, HDL.out]
            omega
          obtain ⟨Ax, cx, e1, h1, h2, h3⟩ := ho.open_n rn hl
          rw [e1] at he
          exact ⟨Ax, cx, he, h1, h2, h3, hz, hg g7 rfl⟩)
        have hro : ro ≤ 200 := by omega
        have hrn : rn ≤ 200 := by omega
        obtain ⟨ee, hee⟩ : ∃ ee, ee = ro + rn := ⟨_, rfl⟩
        have zee : (ro : Int) + (rn : Int) = (ee : Int) := by omega
        have hee2 : ee ≤ m := by omega
        have zro : ¬ (m : Int) < (ro : Int) := by omega
        have zrn : ¬ (k : Int) < (rn : Int) := by omega
        have zem : ¬ (m : Int) < (ee : Int) := by omega
        have zoe : (ro : Int) ≤ (ee : Int) := by omega
        have zec : (ee : Int) ≤ (c1 : Int) := by omega
        have wrn : IntKind.u64.wrap (rn : Int) = (rn : Int) := by rw [IntKind.wrap_u64]; omega
        have wm : IntKind.u64.wrap (m : Int) = (m : Int) := by rw [IntKind.wrap_u64]; omega
        have wee : IntKind.u64.wrap (ee : Int) = (ee : Int) := by rw [IntKind.wrap_u64]; omega
        have wro : IntKind.i64.wrap (ro : Int) = (ro : Int) := by rw [IntKind.wrap_i64]; omega
        obtain ⟨UA, hUA⟩ : ∃ UA, (if c1 = ro then A1 else Option.map (fun x => x.add ro) A1) = UA := ⟨_, rfl⟩
        have HRW : Hid (Rd w w.heap.size UA (ee - ro) ((D.drop ro).take rn)) := Lib.hid (by
          have h1 := (HRD.out.cutTo hee2).cutFrom (c := c1) (k := ro) (by omega) (by omega)
          have e1 : cutA A1 c1 ro = UA := hUA
          rw [e1, List.drop_take, show ee - ro = rn by omega] at h1
          rw [show ee - ro = rn by omega]
          exact h1)
        have htf : rf = true → (ee : Int) = (m : Int) := fun e => by have := ht3 e; omega
        have HEE := Lib.hid hee
        have HTF := Lib.hid htf
        obtain ⟨T, hT⟩ : ∃ T, T = strOfNums ((D.drop ro).take rn) := ⟨_, rfl⟩
        have HT := Lib.hid hT
        have hbb := bb_refl T
        clear hr ht3 HNX htf hT hee hgF
        go_upto_region 15 with (go_at_call 14; (with_reducible refine HNE.out.mono ?_); rintro e w9 ⟨Ax, cx, rfl, hcx, hcm9, hr9, hz9, hg9⟩; have HZ9 := Lib.hid hz9; have HG9 := Lib.hid hg9; have HR9 := Lib.hid hr9; clear hz9 hg9 hr9)
        go_cut [111] from 62 to 110 (fun s111 wx => s111 = .bool false ∧ ∃ d, wx = w9.drewN d)
        case first =>
          have hstr : Hid (∀ j, (convert 22 9 (.slice UA (ee - ro) (c1 - ro))).run Try.prog (w9.drewN j) = .ok (.string T) (w9.drewN j) ∧ (convert 22 9 (.slice Ax rn cx)).run Try.prog (w9.drewN j) = .ok (.string T) (w9.drewN j)) := Lib.hid (fun j => by
            rw [HT.out]
            exact ⟨run_text (P := Try.prog) (c := c1 - ro) ((HRW.out.below HZ9.out.bl).drewN j) 22 5 9 Try.underlying22 Try.underlying5 Try.underlying9, run_text (P := Try.prog) (c := cx) (HR9.out.drewN j) 22 5 9 Try.underlying22 Try.underlying5 Try.underlying9⟩)
          have t1 := fun j => (hstr.out j).1
          have t2 := fun j => (hstr.out j).2
          cases rf
          · have zro : ¬ (m : Int) < (ro : Int) := by omega
            have zrn : ¬ (k : Int) < (rn : Int) := by omega
            have zem : ¬ (m : Int) < (ee : Int) := by omega
            go_quiet (fail)
            go_wp2_with fail
            go_meet
            exact ⟨rfl, _, rfl⟩
          · have hem : m = ee := by have := HTF.out rfl; omega
            subst hem
            have zro : ¬ (m : Int) < (ro : Int) := by omega
            have zrn : ¬ (k : Int) < (rn : Int) := by omega
            go_quiet (fail)
            go_wp2_with fail
            go_meet
            exact ⟨rfl, _, rfl⟩
        case rest =>
          obtain ⟨rfl, d, hd⟩ := hcut
          have HZc : Hid (Oz w wc p (nextO S k 1000) (fun b => b = g7)) := Lib.hid (by rw [hd]; exact HZ9.out.drewN d)
          have HFc : Hid (At wc g7 4 ((tabB f m).map Value.bool)) := Lib.hid (by
            rw [hd]
            have h1 : At w9 g7 4 ((tabB f D.length).map Value.bool) := HG9.out.trans HQr.out.fl
            rw [HDL.out] at h1
            exact h1.drewN d)
          have HGc := Lib.hid (show wc.heap[g7]? = WO.heap[g7]? by rw [hd]; exact HG9.out)
          have HBLc := Lib.hid HZc.out.bl
          clear hd HZ9 HR9 HRW HTF hUA hbb HT
          generalize hW : wc = W at *
          clear hW
          go_upto_region 17 with fail
          go_cut [125] from 112 to 124 (fun s125 wx => ∃ ls : Bool, s125 = .bool ls ∧ (ls = true → i < 300) ∧ wx = W)
          case first =>
            by_cases h1 : i < n3
            · have h1z : (i : Int) < (n3 : Int) := by omega
              obtain ⟨b3, off3, rfl, _, hc⟩ := (HU3.out.below HBLc.out).at_ (by omega)
              obtain ⟨lb, hlb⟩ : ∃ lb, bs3[i]? = some lb := ⟨_, List.getElem?_eq_getElem (by rw [HU3.out.len]; exact h1)⟩
              have cx3 := hc i lb hlb
              clear hc hlb
              by_cases h2 : i < 300
              · have h2z : (i : Int) < 300 := by omega
                go_wp2
                go_meet
                exact ⟨lb, rfl, fun _ => h2, rfl⟩
              · have h2z : ¬ (i : Int) < 300 := by omega
                go_wp2
                go_meet
                exact ⟨false, rfl, fun h => (by cases h), rfl⟩
            · have h1z : ¬ (i : Int) < (n3 : Int) := by omega
              go_wp2
              go_meet
              exact ⟨false, rfl, fun h => (by cases h), rfl⟩
          case rest =>
            obtain ⟨ls, rfl, hls, hwc⟩ := hcut
            subst hwc
            cases ls with
            | true =>
              have hi3 := hls rfl
              have HLO : Hid (Calls Try.prog 15 #[.pointer (some ⟨p, 0, none⟩), .int .u64 ro, .int .i64 rn, .bool rf] wc fun e w' => e = .returned (.tuple #[]) ∧ ∃ S' f', Cq w w' p g7 D S' f' (i + 1) en) := Lib.hid ((oz_lost HZc.out (by show S.bs.length ≤ _; rw [HQr.out.bs, HDL.out]; omega) ro (by omega) rn (by omega) rf).mono fun e w' hP => by
                refine ⟨hP.1, lostO (nextO S k 1000) ro rn rf, f, ?_⟩
                have hh := fun hz hg => HQr.out.lost k hi3 (W1 := w') hz hg
                rw [← HR.out] at hh
                exact hh (by have := hP.2.1; rw [show ((rn : Nat) : Int).toNat = rn by omega] at this; exact this) ((hP.2.2.1 g7 rfl).trans HGc.out))
              clear hls hi3
              go_wp2_with (go_at_call 15; (with_reducible refine HLO.out.mono ?_); rintro e w10 ⟨rfl, hq10⟩; have HQ10 := Lib.hid hq10; clear hq10)
              go_roundg (700 - (i + 1))
              case measure => omega
              case rel => exact ⟨i + 1, en, rfl, by simp, (by obtain ⟨S', f', h⟩ := HQ10.out; exact h.i700), by omega, HQ10⟩
            | false =>
              have HAC : Hid (Calls Try.prog 16 #[.pointer (some ⟨p, 0, none⟩), .int .u64 ro, .int .i64 rn, .bool rf] wc fun e w' => e = .returned (.tuple #[]) ∧ Oz w w' p (ackO (nextO S k 1000) ro rn rf) (fun b => b = g7) ∧ At w' g7 4 ((tabB f m).map Value.bool)) := Lib.hid ((oz_acked HZc.out (by show S.bs.length ≤ _; rw [HQr.out.bs, HDL.out]; omega) ro (by omega) rn (by omega) rf).mono fun e w' hP => by
                refine ⟨hP.1, ?_, (hP.2.2.1 g7 rfl).trans HFc.out⟩
                have := hP.2.1
                rw [show ((rn : Nat) : Int).toNat = rn by omega] at this
                exact this)
              clear hls
              go_upto_region 20 with (go_at_call 16; (with_reducible refine HAC.out.mono ?_); rintro e w10 ⟨rfl, hz10, hf10⟩; have HZ10 := Lib.hid hz10; have HF10 := Lib.hid hf10; clear hz10 hf10)
              go_cut [9] from 138 to 141 (fun s9 wx => s9 = .bool (en || rf) ∧ wx = w10)
              case first =>
                cases en
                · go_wp2
                  go_meet
                  exact ⟨by simp, rfl⟩
                · go_wp2
                  go_meet
                  exact ⟨by simp, rfl⟩
              case rest =>
                obtain ⟨rfl, hw10⟩ := hcut
                subst hw10
                obtain ⟨en2, hen2⟩ : ∃ en2, en2 = (en || rf) := ⟨_, rfl⟩
                rw [← hen2]
                have HEN := Lib.hid hen2
                clear hen2
                have HST0 : Hid (At wc g7 4 ((tabB (fun j => f j || (decide (ro ≤ j) && decide (j < ro + 0))) m).map Value.bool) ∧ Kept (fun b => b = g7) wc wc) := Lib.hid ⟨by
                  have e : tabB (fun j => f j || (decide (ro ≤ j) && decide (j < ro + 0))) m = tabB f m := tabB_congr fun j _ => by
                    have : (decide (ro ≤ j) && decide (j < ro + 0)) = false := by simp
                    rw [this, Bool.or_false]
                  rw [e]
                  exact HF10.out, Kept.refl _ _⟩
                generalize hW10 : wc = W10 at *
                clear hW10
                go_wp2
                go_loopg [144] rn (fun ky s144 wi => ∃ (t : Nat), s144 = .int .i64 t ∧ t ≤ rn ∧ rn - t ≤ ky ∧ Hid (At wi g7 4 ((tabB (fun j => f j || (decide (ro ≤ j) && decide (j < ro + t))) m).map Value.bool) ∧ Kept (fun b => b = g7) W10 wi))
                case atStart => exact ⟨0, rfl, Nat.zero_le _, by omega, HST0⟩
                case round =>
                  clear HST0
                  obtain ⟨t, rfl, htr, hky, hI⟩ := hrel
                  by_cases htl : t < rn
                  · have htz : (t : Int) < (rn : Int) := by omega
                    obtain ⟨q, hq⟩ : ∃ q, q = ro + t := ⟨_, rfl⟩
                    have zq : (ro : Int) + (t : Int) = (q : Int) := by omega
                    have hqm : q < m := by have := HEE.out; omega
                    have zqm : (q : Int) < (m : Int) := by omega
                    obtain ⟨x, cq⟩ : ∃ x, wr.cell? ⟨g7, q, none⟩ = some (.bool x) := ⟨_, by rw [hI.out.1.cell, List.getElem?_map, tabB_get _ _ _ hqm]; rfl⟩
                    have fq := hI.out.1.frozen q
                    have HNX2 : Hid (At (wr.setCell ⟨g7, q, none⟩ (.bool true)) g7 4 ((tabB (fun j => f j || (decide (ro ≤ j) && decide (j < ro + (t + 1)))) m).map Value.bool) ∧ Kept (fun b => b = g7) W10 (wr.setCell ⟨g7, q, none⟩ (.bool true))) := Lib.hid ⟨by
                      have h1 := hI.out.1.set q (.bool true)
                      have e : ((tabB (fun j => f j || (decide (ro ≤ j) && decide (j < ro + t))) m).map Value.bool).set q (.bool true) = (tabB (fun j => f j || (decide (ro ≤ j) && decide (j < ro + (t + 1)))) m).map Value.bool := by
                        rw [show (Value.bool true) = Value.bool true from rfl, ← List.map_set, tabB_set]
                        congr 1
                        refine tabB_congr fun j _ => ?_
                        by_cases hj : j = q
                        · rw [if_pos hj]
                          have h1 : decide (ro ≤ j) = true := by simp; omega
                          have h2 : decide (j < ro + (t + 1)) = true := by simp; omega
                          rw [h1, h2]
                          simp
                        · rw [if_neg hj]
                          congr 2
                          rw [decide_eq_decide]
                          omega
                      rw [e] at h1
                      exact h1, hI.out.2.setAt q _⟩
                    clear hI hq
                    go_wp2
                    go_roundg (rn - (t + 1))
                    case measure => omega
                    case rel => exact ⟨t + 1, by simp, by omega, by omega, HNX2⟩
                  · have htz : ¬ (t : Int) < (rn : Int) := by omega
                    obtain rfl : t = rn := by omega
                    have HQ10 : Hid (Cq w wr p g7 D (ackO (nextO S k 1000) ro t rf) (fun j => f j || (decide (ro ≤ j) && decide (j < ro + t))) (i + 1) en2) := Lib.hid (by
                      have hy : (nextR S k 1000).yes = true := by rw [← HR.out]
                      have hh := fun hz hf => HQr.out.acked k hy (W1 := wr) hz hf
                      rw [← HR.out, HDL.out] at hh
                      have := hh (HZ10.out.other rfl HQr.out.ge hI.out.2) hI.out.1
                      rw [HEN.out]
                      exact this)
                    clear hI
                    go_wp2
                    go_roundg (700 - (i + 1))
                    case measure => omega
                    case rel => exact ⟨i + 1, en2, rfl, by simp, HQ10.out.i700, by omega, Lib.hid ⟨_, _, HQ10.out⟩⟩
end Go.Proofs.Ytoakahofiodbhaa
