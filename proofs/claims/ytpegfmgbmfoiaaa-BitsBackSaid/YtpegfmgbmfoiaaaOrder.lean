/-
  BitsOrder returns true at every pair of numbers: its walk.
-/
import Derived.Test.YtpegfmgbmfoiaaaOrderMath
import Derived.Test.YtpegfmgbmfoiaaaKeep
import Derived.Test.YtpegfmgbmfoiaaaKnown
namespace Go.Proofs.Ytpegfmgbmfoiaaa
set_option linter.unusedVariables false
open Go.RowKit
theorem Rd.drop {w : World} {B n g off : Nat} {bs : List Int} (h : Rd w B (some ⟨g, off, none⟩) n bs) {k : Nat} (hk : k ≤ n) : Rd w B (some ⟨g, off + k, none⟩) (n - k) (bs.drop k) := by
  refine ⟨by rw [List.length_drop, h.1], h.2.1.drop k, fun hp => ?_⟩
  obtain ⟨b, off', e, hb, hc⟩ := h.2.2 (by omega)
  injection e with e
  injection e with e1 e2
  subst e1; subst e2
  refine ⟨g, off + k, rfl, hb, fun i hi => ?_⟩
  rw [show off + k + i = off + (k + i) by omega, hc (k + i) (by omega), List.getD_eq_getElem?_getD, List.getD_eq_getElem?_getD, List.getElem?_drop]
set_option maxRecDepth 100000 in
set_option maxHeartbeats 4000000 in
theorem order_walk (a b : Int) (w0 : (Lit.int .u64 a).wf = true) (w1 : (Lit.int .u64 b).wf = true) (w : World) :
    Calls Try.prog 7 #[.int .u64 a, .int .u64 b] w fun e w' => e = .returned (.bool true) ∧ Below w.heap.size w w' := by
  obtain ⟨ha0, ha1⟩ := bounds_u64 w0
  obtain ⟨hb0, hb1⟩ := bounds_u64 w1
  clear w0 w1
  obtain ⟨hx0, hx1⟩ := smallS_bd a ha0
  obtain ⟨hy0, hy1⟩ := smallS_bd b hb0
  obtain ⟨x, hx⟩ : ∃ x, smallS a = x := ⟨_, rfl⟩
  obtain ⟨y, hy⟩ : ∃ y, smallS b = y := ⟨_, rfl⟩
  rw [hx] at hx0 hx1
  rw [hy] at hy0 hy1
  have SX := Lib.hid hx
  have SY := Lib.hid hy
  clear hx hy
  have hord : Op.bytesLess (strOfNums (putS x)).toList (strOfNums (putS y)).toList = decide (x < y) := by
    rw [less_text _ _ (putS_byt x) (putS_byt y), put_less x y hx0 hx1 hy0 hy1]
  have hs1 := size_pos x hx1
  have hs8 := size_le x
  have hr1 := size_pos y hy1
  have hr8 := size_le y
  have hmono : x ≤ y → sizeS x ≤ sizeS y := fun h => size_mono x y h hy1
  have hlx := putS_len x
  have hly := putS_len y
  have hgx := get_put x hx0 hx1 (putS y)
  have hgy : getS ((putS x ++ putS y).drop (sizeS x)) = (y, (sizeS y : Int)) := by
    rw [show (putS x ++ putS y).drop (sizeS x) = putS y ++ [] by rw [← hlx, List.drop_left, List.append_nil]]
    exact get_put y hy0 hy1 []
  obtain ⟨s, hs⟩ : ∃ s, sizeS x = s := ⟨_, rfl⟩
  obtain ⟨r, hr⟩ : ∃ r, sizeS y = r := ⟨_, rfl⟩
  obtain ⟨tx, htx⟩ : ∃ tx, strOfNums (putS x) = tx := ⟨_, rfl⟩
  obtain ⟨ty, hty⟩ : ∃ ty, strOfNums (putS y) = ty := ⟨_, rfl⟩
  rw [hs] at hs1 hs8 hmono hlx hgx hgy
  rw [hr] at hr1 hr8 hmono hly hgy
  rw [htx, hty] at hord
  have GX := Lib.hid hgx
  have GY := Lib.hid hgy
  have TX := Lib.hid htx
  have TY := Lib.hid hty
  have LX := Lib.hid hlx
  have LY := Lib.hid hly
  clear hs hr htx hty hgx hgy hlx hly
  have hcases : (x < y ∧ s ≤ r ∧ Op.bytesLess tx.toList ty.toList = true) ∨ (y ≤ x ∧ x ≤ y ∧ s ≤ r ∧ Op.bytesLess tx.toList ty.toList = false) ∨ (y < x ∧ Op.bytesLess tx.toList ty.toList = false) := by
    rcases Int.lt_trichotomy x y with h | h | h
    · exact .inl ⟨h, hmono (by omega), by rw [hord]; simp [h]⟩
    · exact .inr (.inl ⟨by omega, by omega, hmono (by omega), by rw [hord]; simp; omega⟩)
    · exact .inr (.inr ⟨h, by rw [hord]; simp; omega⟩)
  clear hmono hord
  rcases hcases with ⟨q1, q2, q3⟩ | ⟨q0, q1, q2, q3⟩ | ⟨q1, q3⟩
  all_goals
    go_enter Try.func7, Try.ntmps7
    go_wp2_with fail
    refine (small_any a _ ha0 (by omega)).mono ?_
    rintro e v1 ⟨rfl, k1⟩
    rw [SX.out]
    go_wp2_with fail
    refine (small_any b _ hb0 (by omega)).mono ?_
    rintro e v2 ⟨rfl, k2⟩
    rw [SY.out]
    go_wp2_with fail
    refine (putvar_yes none 0 0 [] x v2 (Rd.none_ _ _ _) (by omega) hx0 hx1).mono ?_
    rintro e v3 ⟨p, rfl, hp, k3⟩
    obtain ⟨Ap, cp, rfl, hp1, hp2, hrp⟩ := (show Own v3 _ _ p (putS x) from hp).open_n s LX.out
    go_wp2_with fail
    refine (putvar_yes none 0 0 [] y v3 (Rd.none_ _ _ _) (by omega) hy0 hy1).mono ?_
    rintro e v4 ⟨q, rfl, hq, k4⟩
    obtain ⟨Aq, cq, rfl, hq1, hq2, hrq⟩ := (show Own v4 _ _ q (putS y) from hq).open_n r LY.out
    have hrp4 := hrp.below k4
    have t1 := run_text (P := Try.prog) (c := cp) hrp4 28 5 9 Try.underlying28 Try.underlying5 Try.underlying9
    have t2 := run_text (P := Try.prog) (c := cq) hrq 28 5 9 Try.underlying28 Try.underlying5 Try.underlying9
    rw [TX.out] at t1
    rw [TY.out] at t2
    have hsz : ((s : Int) == 0) = false := by simp; omega
    clear hp hq hrq hrp
    go_wp2_with fail
    refine (putvar_yes Ap s cp (putS x) y v4 (hrp4.more k4.size) (by omega) hy0 hy1).mono ?_
    rintro e v5 ⟨bo, rfl, hbo, k5⟩
    obtain ⟨A3, c3, rfl, h31, h32, hr3⟩ := hbo.open_n (s + r) (by rw [List.length_append, LX.out, LY.out])
    obtain ⟨g, off, rfl, hg, hcell⟩ := hr3.2.2 (by omega)
    clear hcell hbo t1 t2
    have hr4 := hr3.drop (k := s) (by omega)
    rw [Nat.add_sub_cancel_left] at hr4
    have h32' := h32
    unfold maxLen at h32'
    go_wp2_with fail
    refine (get_any _ (s + r) c3 (putS x ++ putS y) v5 _ hr3 h31 h32).mono ?_
    rintro e v6 ⟨rfl, rfl⟩
    rw [GX.out]
    go_wp2_with fail
    refine (get_any _ r (c3 - s) ((putS x ++ putS y).drop s) v5 _ hr4 (by omega) (by unfold maxLen; omega)).mono ?_
    rintro e v6 ⟨rfl, rfl⟩
    rw [GY.out]
    go_wp2_with (go_at_call 11; refine (known_any _).mono ?_; rintro e v7 ⟨rfl, k7⟩)
    go_ret
    exact ⟨rfl, k1.trans ((k2.trans ((k3.trans ((k4.trans ((k5.trans (k7.mono k5.size)).mono k4.size)).mono k3.size)).mono k2.size)).mono k1.size)⟩
end Go.Proofs.Ytpegfmgbmfoiaaa
