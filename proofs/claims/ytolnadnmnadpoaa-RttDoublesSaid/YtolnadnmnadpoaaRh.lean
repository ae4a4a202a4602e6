/-
  RttDoubles and RttStands: their walks.
-/
import Derived.Test.YtolnadnmnadpoaaRf
import Derived.Test.YtolnadnmnadpoaaRefInts
namespace Go.Proofs.Ytolnadnmnadpoaa
set_option linter.unusedVariables false
set_option linter.unusedSimpArgs false
open Go.RowKit
theorem perS_dbl (s : ES) (i : Nat) (hi : i < 6) : perS s (i + 1 : Nat) = 2 * perS s i := by
  unfold perS
  obtain ⟨x, hx⟩ : ∃ x, s.sm + max (4 * s.dv) 1 + 2 = x := ⟨_, rfl⟩
  rw [hx]
  rw [show (min (max ((i + 1 : Nat) : Int) 0) 6).toNat = i + 1 by omega, show (min (max (i : Int) 0) 6).toNat = i by omega, Int.pow_succ, Int.mul_comm 2, Int.mul_assoc]
theorem perS_hi (s : ES) (k : Int) (hk : 6 ≤ k) : perS s k = perS s 6 := by unfold perS; rw [show (min (max k 0) 6).toNat = 6 by omega, show (min (max (6 : Int) 0) 6).toNat = 6 by decide]
theorem perS_lo (s : ES) (k : Int) (hk : k ≤ 0) : perS s k = perS s 0 := by unfold perS; rw [show (min (max k 0) 6).toNat = 0 by omega, show (min (max (0 : Int) 0) 6).toNat = 0 by decide]
theorem perS_0 (s : ES) (ok : s.ok) : 3 ≤ perS s 0 := by
  obtain ⟨h0, h1, h2, h3, h4, h5⟩ := ok
  unfold perS; rw [show (min (max (0 : Int) 0) 6).toNat = 0 by decide]; simp; omega
theorem pow_mono2 {a b : Nat} (h : a ≤ b) : (2 : Int) ^ a ≤ 2 ^ b := by
  obtain ⟨d, rfl⟩ : ∃ d, b = a + d := ⟨b - a, by omega⟩
  rw [Int.pow_add]
  have h1 := pow1 a
  have h2 := Int.mul_le_mul_of_nonneg_left (pow1 d) (show (0 : Int) ≤ 2 ^ a by omega)
  omega
theorem perS_le (s : ES) (ok : s.ok) (a b : Int) (h : min (max a 0) 6 ≤ min (max b 0) 6) : perS s a ≤ perS s b := by
  obtain ⟨h0, h1, h2, h3, h4, h5⟩ := ok
  unfold perS
  obtain ⟨x, hx⟩ : ∃ x, s.sm + max (4 * s.dv) 1 + 2 = x := ⟨_, rfl⟩
  rw [hx]
  have hx0 : 0 ≤ x := by omega
  exact Int.mul_le_mul_of_nonneg_left (pow_mono2 (by omega)) hx0
/-- An estimator of the call's own. -/
structure On (w0 wr : World) (p : Nat) (s : ES) : Prop where
  ok : s.ok
  ap : At wr p 38 s.l
  bl : Below w0.heap.size w0 wr
  lp : w0.heap.size ≤ p
theorem On.drewN {w0 wr : World} {p : Nat} {s : ES} (h : On w0 wr p s) (d : Nat) : On w0 (wr.drewN d) p s := ⟨h.ok, h.ap, ⟨h.bl.os, h.bl.tape, h.bl.output, h.bl.size, h.bl.block⟩, h.lp⟩
theorem On.next {w0 wr w1 : World} {p : Nat} {s : ES} (h : On w0 wr p s) (x : Int) (a : At w1 p 38 (sampS s x).l) (k : Kept (· = p) wr w1) : On w0 w1 p (sampS s x) :=
  ⟨sampS_ok h.ok x, a, k.below h.bl h.bl.size (fun j hj => by rw [hj]; exact h.lp), h.lp⟩
theorem On.below {w0 wr w1 : World} {p : Nat} {s : ES} (h : On w0 wr p s) (k : Below wr.heap.size wr w1) : On w0 w1 p s := ⟨h.ok, h.ap.below k h.ap.lt, h.bl.trans (k.mono h.bl.size), h.lp⟩
set_option maxRecDepth 100000 in
set_option maxHeartbeats 8000000 in
theorem rdoubles_law (A : Option Addr) (n c : Nat) (xs : List Int) (k : Int) (w : World) (hu : InN w A n xs) (hnc : n ≤ c) (hcm : c ≤ maxLen) (hc8 : c * 8 ≤ 140737488351232) (hk : (Lit.int .i64 k).wf = true) :
    Calls Try.prog 6 #[.slice A n c, .int .i64 k] w fun e w' => e = .returned (.bool true) ∧ Below w.heap.size w w' := by
  have hkb := bounds_i64 hk
  have HU := Lib.hid hu
  unfold maxLen at hcm
  have hyb := withinS_bd k 0 1000 (by decide)
  have HW := Lib.hid (fun W => within_any k 0 1000 W hkb.1 hkb.2 (by decide) (by decide) (by decide))
  obtain ⟨y, hy⟩ : ∃ y, withinS k 0 1000 = y := ⟨_, rfl⟩
  rw [hy] at HW hyb
  obtain ⟨hy0, hy1⟩ := hyb
  clear hu hk hkb hy
  go_enter Try.func6, Try.ntmps6
  go_wp2_with (go_at_call 10; refine (enew_any _).mono ?_; rintro e w1 ⟨rfl, hA1, hB1⟩)
  obtain ⟨p, hp⟩ : ∃ p, w.heap.size = p := ⟨_, rfl⟩
  rw [hp] at hA1 ⊢
  have HT : Hid (On w w1 p es0) := Lib.hid ⟨es0_ok, hA1, hB1, Nat.le_of_eq hp⟩
  clear hp hA1 hB1
  go_wp2
  go_loopg [6] 30 (fun kx s6 wr => ∃ (i : Nat) (s : ES), s6 = .int .i64 i ∧ i ≤ n ∧ i ≤ 30 ∧ 30 - i ≤ kx ∧ Hid (On w wr p s))
  case atStart => exact ⟨0, _, rfl, Nat.zero_le _, by omega, by omega, HT⟩
  case round =>
    clear HT
    obtain ⟨i, s, rfl, hin, hi30, hkx, hT⟩ := hrel
    by_cases hgo : i < n ∧ i < 30
    · obtain ⟨g1, g2⟩ := hgo
      obtain ⟨b, off, rfl, hb, hc⟩ := (HU.out.below hT.out.bl).at_ (by omega)
      obtain ⟨x, hx⟩ : ∃ x, xs[i]? = some x := ⟨_, List.getElem?_eq_getElem (by rw [HU.out.len]; exact g1)⟩
      have hxb := HU.out.wd x (List.mem_of_getElem? hx)
      have cx := hc i x hx
      clear hc hb hx
      have hiz : (i : Int) < (n : Int) := by omega
      have hi6 : (i : Int) < 30 := by omega
      go_wp2_with (go_at_call 11; (with_reducible refine (esample_any hT.out.ap hT.out.ok x hxb).mono ?_); rintro e w3 ⟨rfl, hA3, hk3⟩; have H3 := Lib.hid (hT.out.next x hA3 hk3); clear hA3 hk3)
      go_roundg (30 - (i + 1))
      case measure => omega
      case rel => exact ⟨i + 1, _, by simp, by omega, by omega, by omega, H3⟩
    · have hgo2 : (i = n ∧ ¬ (i : Int) < (n : Int)) ∨ ((30 : Int) < (n : Int) ∧ i = 30) := by omega
      clear hgo
      have HP := Lib.hid (fun (W : World) (a : At W p 38 s.l) (j : Int) (hj : -9223372036854775808 ≤ j ∧ j < 9223372036854775808) => eperiod_any a hT.out.ok j hj)
      obtain ⟨B, hB⟩ : ∃ B, perS s 0 = B := ⟨_, rfl⟩
      have H0 := perS_0 s hT.out.ok
      have H6 := (perS_bd s hT.out.ok 6).2
      have H0u := (perS_bd s hT.out.ok 0).2
      have HPB := Lib.hid (perS_bd s hT.out.ok)
      have HPD := Lib.hid (perS_dbl s)
      obtain ⟨T, hT6⟩ : ∃ T, perS s 6 = T := ⟨_, rfl⟩
      rw [hB] at H0 H0u
      rw [hT6] at H6
      have HY1 := Lib.hid ((perS_hi s (7 + y) (by omega)).trans hT6)
      have HY2 := Lib.hid ((perS_lo s (-1 - y) (by omega)).trans hB)
      have HB := Lib.hid hB
      have HT6 := Lib.hid hT6
      have HA := Lib.hid (fun d : Nat => (hT.out.drewN d).ap)
      clear hB hT6
      rcases hgo2 with ⟨rfl, hgo2⟩ | ⟨hgo2, rfl⟩
      all_goals
        go_wp2_with (go_at_call 15; (with_reducible refine (HP.out _ hT.out.ap 0 (by decide)).mono ?_); rintro e w4 ⟨rfl, d4, rfl⟩; rw [HB.out])
        go_wp2
        go_loopg [7, 8] 7 (fun kx s7 s8 wr2 => ∃ (j : Nat) (q : Int) (d : Nat), s7 = .int .i64 q ∧ s8 = .int .i64 j ∧ j ≤ 7 ∧ 7 - j ≤ kx ∧ Hid (j ≤ 6 → q = perS s j) ∧ 0 ≤ q ∧ q ≤ 2621696 ∧ wr2 = wr.drewN d)
        case atStart => exact ⟨0, B, d4, rfl, rfl, by omega, by omega, Lib.hid (fun _ => HB.out.symm), by omega, by omega, rfl⟩
        case round =>
          obtain ⟨j, q, d, rfl, rfl, hj7, hkx2, hq, hq0, hq1, rfl⟩ := hrel
          by_cases hj : j < 7
          · have hjz : (j : Int) ≤ 6 := by omega
            have hqj := hq.out (by omega)
            have hqb := HPB.out j
            rw [← hqj] at hqb
            obtain ⟨hqb0, hqb1⟩ := hqb
            have HQJ := Lib.hid hqj.symm
            have hnx : Hid (j + 1 ≤ 6 → 2 * q = perS s ((j + 1 : Nat) : Int)) := Lib.hid (fun h => by rw [HPD.out j (by omega), HQJ.out])
            clear hqj hq
            go_wp2_with (go_at_call 15; (with_reducible refine (HP.out _ (HA.out d) j (by omega)).mono ?_); rintro e w5 ⟨rfl, d5, rfl⟩; rw [HQJ.out, World.drewN_drewN])
            go_roundg (7 - (j + 1))
            case measure => omega
            case rel => exact ⟨j + 1, 2 * q, _, rfl, by simp, by omega, by omega, hnx, by omega, by omega, rfl⟩
          · obtain rfl : j = 7 := by omega
            clear hq
            have hy7 : -9223372036854775808 ≤ 7 + y ∧ 7 + y < 9223372036854775808 := by omega
            have hym : -9223372036854775808 ≤ -1 - y ∧ -1 - y < 9223372036854775808 := by omega
            have hB3 : 3 ≤ B := H0
            have hT2 : T < 2097152 := by omega
            go_wp2_with (first
              | (go_at_call 9; refine (HW.out _).mono ?_; rintro e w6 ⟨rfl, rfl⟩)
              | (go_at_call 8; refine (eknown_any _).mono ?_; rintro e w8 ⟨rfl, hB8⟩; have H8 := Lib.hid hB8; clear hB8)
              | (go_at_call 15; (with_reducible refine (HP.out _ (HA.out _) (7 + y) hy7).mono ?_); rintro e w7 ⟨rfl, d7, rfl⟩; rw [HY1.out, World.drewN_drewN])
              | (go_at_call 15; (with_reducible refine (HP.out _ (HA.out _) (-1 - y) hym).mono ?_); rintro e w7 ⟨rfl, d7, rfl⟩; rw [HY2.out, World.drewN_drewN])
              | (go_at_call 15; (with_reducible refine (HP.out _ (HA.out _) 6 (by decide)).mono ?_); rintro e w7 ⟨rfl, d7, rfl⟩; rw [HT6.out, World.drewN_drewN])
              | (go_at_call 15; (with_reducible refine (HP.out _ (HA.out _) 0 (by decide)).mono ?_); rintro e w7 ⟨rfl, d7, rfl⟩; rw [HB.out, World.drewN_drewN]))
            go_ret
            exact ⟨rfl, (hT.out.drewN _).bl.trans (H8.out.mono (hT.out.drewN _).bl.size)⟩
end Go.Proofs.Ytolnadnmnadpoaa
