/-
  What may be of a frame's ranges (frame.rangesRight).
-/
import Derived.Test.YtcobcgbpmkpljaaRg
import Derived.IntWalk
namespace Go.Proofs.Ytcobcgbpmkpljaa
set_option linter.unusedVariables false
open Go.RowKit
def stepsOK : Int → RS → Bool
  | _, [] => true
  | p, (a, b) :: t => decide (p < a) && decide (a < b) && stepsOK b t
def lastHi (rs : RS) : Int := (rs.getLast?.getD (0, 0)).2
def rrB (rs : RS) : Bool := decide (1 ≤ rs.length) && decide (rs.length ≤ 16) && stepsOK (-1) rs && decide (lastHi rs ≤ 4611686018427387904)
def prv (rs : RS) (k : Nat) : Int := if k = 0 then -1 else (rs.getD (k - 1) (0, 0)).2
theorem prv_succ (rs : RS) (k : Nat) (r : Int × Int) (h : rs[k]? = some r) : prv rs (k + 1) = r.2 := by
  unfold prv
  rw [if_neg (by omega), Nat.add_sub_cancel, List.getD_eq_getElem?_getD, h]; rfl
theorem steps_drop (rs : RS) (k : Nat) (r : Int × Int) (h : rs[k]? = some r) (p : Int) : stepsOK p (rs.drop k) = (decide (p < r.1) && decide (r.1 < r.2) && stepsOK r.2 (rs.drop (k + 1))) := by
  obtain ⟨hk, e⟩ := List.getElem?_eq_some_iff.1 h
  rw [List.drop_eq_getElem_cons hk, e]
  obtain ⟨a, b⟩ := r
  rfl
theorem lastHi_get (rs : RS) (k : Nat) (hk : rs.length = k + 1) (r : Int × Int) (h : rs[k]? = some r) : lastHi rs = r.2 := by
  unfold lastHi
  rw [List.getLast?_eq_getElem?, hk, Nat.add_sub_cancel, h]; rfl
set_option maxRecDepth 100000 in
set_option maxHeartbeats 4000000 in
theorem rr_any (P : Nat → Prop) (r : Sl) (rs : RS) (w : World) (hr : InR w P r rs) : Calls Try.prog 53 #[.slice r.A r.n r.c] w (FrPost (.bool (rrB rs)) w) := by
  obtain ⟨A, n, c⟩ := r
  obtain ⟨hrd, hnc, hcm, hA⟩ := hr
  simp only at hrd hnc hcm hA
  obtain ⟨hlen, hbd, hcell⟩ := hrd
  unfold maxLen at hcm
  have HL := Lib.hid hlen
  by_cases h16 : 1 ≤ n ∧ n ≤ 16
  · obtain ⟨h1, h16⟩ := h16
    obtain ⟨b, off, rfl, hb, _, hc⟩ := hcell (by omega)
    have HC := Lib.hid hc
    have HB := Lib.hid hbd
    have hn0 : ((n : Int) == 0) = false := by simp; omega
    have hfin : stepsOK (-1) rs = true → rrB rs = decide (lastHi rs ≤ 4611686018427387904) := fun h => by unfold rrB; rw [h, hlen]; simp [h1, h16]
    have hbad : stepsOK (-1) rs = false → rrB rs = false := fun h => by unfold rrB; rw [h]; simp
    have HF := Lib.hid hfin
    have HX := Lib.hid hbad
    clear hlen hbd hcell hc hA hfin hbad
    go_enter Try.func53, Try.ntmps53
    go_wp2
    go_loopw [15] (fun i wr => ∃ k : Nat, k ≤ n ∧ i = .int .i64 k ∧ Below w.heap.size w wr ∧ Hid (stepsOK (-1) rs = stepsOK (prv rs k) (rs.drop k))) (fun i _ => n - (intOf i).toNat)
    case atStart => exact ⟨0, by omega, rfl, Below.refl _ _, Lib.hid (by simp [prv])⟩
    case round =>
      obtain ⟨k, hk, rfl, hbr, hst⟩ := hrel
      have hbs := hbr.size
      by_cases hlt : k < n
      · obtain ⟨x, hx⟩ : ∃ x, rs[k]? = some x := ⟨_, List.getElem?_eq_getElem (by rw [HL.out]; exact hlt)⟩
        obtain ⟨lo, hi⟩ := x
        obtain ⟨ca, cb⟩ := HC.out k (lo, hi) hx
        have ca' : wr.cell? ⟨b, off + k * 2, none⟩ = some (.int .u64 lo) := (hbr.cell (p := ⟨b, _, none⟩) hb).trans ca
        have cb' : wr.cell? ⟨b, off + k * 2 + 1, none⟩ = some (.int .u64 hi) := (hbr.cell (p := ⟨b, _, none⟩) hb).trans cb
        have hbr2 : Below w.heap.size w (wr.alloc (.cells #[.int .u64 lo, .int .u64 hi] 60)) := hbr.alloc hbs _
        have hsd := steps_drop rs k (lo, hi) hx (prv rs k)
        have hpv := prv_succ rs k (lo, hi) hx
        have HS : Hid (stepsOK (-1) rs = (decide (prv rs k < lo) && decide (lo < hi) && stepsOK hi (rs.drop (k + 1)))) := Lib.hid (hst.out.trans hsd)
        have HP := Lib.hid hpv
        have HBR := Lib.hid hbr2
        have hlb := HB.out (lo, hi) (List.mem_of_getElem? hx)
        simp only at hlb
        obtain ⟨l0, l1, l2, l3⟩ := hlb
        clear hsd hpv hst ca cb hbr2
        rcases Int.lt_or_le lo hi with hlh | hlh
        · have hg1 : decide (hi ≤ lo) = false := by simp; omega
          rcases Nat.eq_zero_or_pos k with rfl | hk0
          · have HS2 : Hid (stepsOK (-1) rs = stepsOK hi (rs.drop (0 + 1))) := Lib.hid (by rw [HS.out]; simp [prv, hlh]; omega)
            have ca0 : wr.cell? ⟨b, off, none⟩ = some (.int .u64 lo) := by simpa using ca'
            have cb0 : wr.cell? ⟨b, off + 1, none⟩ = some (.int .u64 hi) := by simpa using cb'
            clear ca' cb' hx
            go_wp2
            go_quiet (fail)
            go_wp2
            go_roundw
            case rel => exact ⟨1, by omega, rfl, belowN HBR.out _, Lib.hid (by rw [HS2.out, HP.out])⟩
            case measure => simp [intOf]; omega
          · obtain ⟨j, rfl⟩ : ∃ j, k = j + 1 := ⟨k - 1, by omega⟩
            obtain ⟨x2, hx2⟩ : ∃ x, rs[j]? = some x := ⟨_, List.getElem?_eq_getElem (by rw [HL.out]; omega)⟩
            obtain ⟨lo2, hi2⟩ := x2
            have cb2 : wr.cell? ⟨b, off + j * 2 + 1, none⟩ = some (.int .u64 hi2) := (hbr.cell (p := ⟨b, _, none⟩) hb).trans (HC.out j (lo2, hi2) hx2).2
            have HP2 := Lib.hid (prv_succ rs j (lo2, hi2) hx2)
            clear hx hx2
            have hj1 : (j : Int) < (n : Int) := by omega
            have hj0 : (0 : Int) ≤ (j : Int) := by omega
            have hjn : j < n := by omega
            have hbw : b < wr.heap.size := by omega
            rcases Int.lt_or_le hi2 lo with hh | hh
            · have hg2 : decide (lo ≤ hi2) = false := by simp; omega
              have HS2 : Hid (stepsOK (-1) rs = stepsOK hi (rs.drop (j + 1 + 1))) := Lib.hid (by rw [HS.out, HP2.out]; simp [hlh, hh])
              have hw : IntKind.i64.wrap (j : Int) = j := IntWalk.i64_in _ (by omega)
              go_wp2
              go_quiet (fail)
              clear hw
              go_wp2
              go_roundw
              case rel => exact ⟨j + 1 + 1, by omega, by go_num, belowN HBR.out _, Lib.hid (by rw [HS2.out, HP.out])⟩
              case measure => simp [intOf]; omega
            · have hg2 : decide (lo ≤ hi2) = true := by simp; omega
              have HS2 : Hid (stepsOK (-1) rs = false) := Lib.hid (by rw [HS.out, HP2.out]; simp; omega)
              have hw : IntKind.i64.wrap (j : Int) = j := IntWalk.i64_in _ (by omega)
              go_wp2
              go_quiet (fail)
              clear hw
              go_wp2
              go_ret
              exact ⟨by rw [HX.out HS2.out]; rfl, belowN HBR.out _⟩
        · have hg1 : decide (hi ≤ lo) = true := by simp; omega
          have HS2 : Hid (stepsOK (-1) rs = false) := Lib.hid (by rw [HS.out]; simp; omega)
          clear hx
          go_wp2
          go_quiet (fail)
          go_wp2
          go_ret
          exact ⟨by rw [HX.out HS2.out]; rfl, belowN HBR.out _⟩
      · obtain rfl : k = n := by omega
        obtain ⟨j, rfl⟩ : ∃ j, k = j + 1 := ⟨k - 1, by omega⟩
        obtain ⟨x, hx⟩ : ∃ x, rs[j]? = some x := ⟨_, List.getElem?_eq_getElem (by rw [HL.out]; omega)⟩
        obtain ⟨lo, hi⟩ := x
        have cb' : wr.cell? ⟨b, off + j * 2 + 1, none⟩ = some (.int .u64 hi) := (hbr.cell (p := ⟨b, _, none⟩) hb).trans (HC.out j (lo, hi) hx).2
        have HT : Hid (stepsOK (-1) rs = true) := Lib.hid (by rw [hst.out, List.drop_eq_nil_of_le (by rw [HL.out]; exact Nat.le_refl _)]; rfl)
        have HR : Hid (rrB rs = decide (hi ≤ 4611686018427387904)) := Lib.hid (by rw [HF.out HT.out, lastHi_get rs j HL.out _ hx])
        have hlb := HB.out (lo, hi) (List.mem_of_getElem? hx)
        simp only at hlb
        obtain ⟨l0, l1, l2, l3⟩ := hlb
        clear hx hst hlt
        go_wp2
        go_ret
        exact ⟨by rw [HR.out]; rfl, hbr⟩
  · have HR : Hid (rrB rs = false) := Lib.hid (by
      unfold rrB
      rw [hlen]
      by_cases h1 : 1 ≤ n
      · have : ¬ n ≤ 16 := by omega
        simp [this]
      · simp [h1])
    have hcs : n = 0 ∨ 16 < n := by omega
    clear hlen hbd hcell hA h16
    rcases hcs with rfl | h
    · go_enter Try.func53, Try.ntmps53
      go_wp2
      go_ret
      exact ⟨by rw [HR.out]; rfl, Below.refl _ _⟩
    · go_enter Try.func53, Try.ntmps53
      go_wp2
      go_ret
      exact ⟨by rw [HR.out]; rfl, Below.refl _ _⟩
end Go.Proofs.Ytcobcgbpmkpljaa
