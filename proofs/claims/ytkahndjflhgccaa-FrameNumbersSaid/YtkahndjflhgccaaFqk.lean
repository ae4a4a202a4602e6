/-
  What may be of a frame, by the document's own answer (narthexref4.Right): at an Ack; as frame.Right says, for every frame.
-/
import Derived.Test.YtkahndjflhgccaaFqr
import Derived.Test.YtkahndjflhgccaaMf
namespace Go.Proofs.Ytkahndjflhgccaa
set_option linter.unusedVariables false
set_option linter.unusedSimpArgs false
open Go.RowKit
def stepsM : Int → RS → Bool
  | _, [] => true
  | p, (a, b) :: t => decide (p < a) && decide (a < b) && decide (b ≤ 4611686018427387904) && stepsM b t
theorem stepsM_eq : ∀ (rs : RS) (p : Int), stepsM p rs = (stepsOK p rs && rs.all fun r => decide (r.2 ≤ 4611686018427387904))
  | [], _ => rfl
  | (a, b) :: t, p => by
    simp only [stepsM, stepsOK, stepsM_eq t b, List.all_cons]
    cases decide (p < a) <;> cases decide (a < b) <;> cases decide (b ≤ 4611686018427387904) <;> cases stepsOK b t <;> rfl
theorem rrB_M (rs : RS) : rrB rs = (decide (1 ≤ rs.length) && decide (rs.length ≤ 16) && stepsM (-1) rs) := by
  unfold rrB
  rw [stepsM_eq]
  by_cases h1 : 1 ≤ rs.length
  · cases hs : stepsOK (-1) rs with
    | false => simp
    | true =>
      have hle := steps_le rs (-1) hs
      have : decide (lastHi rs ≤ 4611686018427387904) = rs.all fun r => decide (r.2 ≤ 4611686018427387904) := by
        rw [Bool.eq_iff_iff, decide_eq_true_eq, List.all_eq_true]
        constructor
        · intro h r hr
          obtain ⟨i, hi, e⟩ := List.mem_iff_getElem.1 hr
          have := hle i r (by rw [List.getElem?_eq_getElem hi, e])
          simp; omega
        · intro h
          have hk : rs.length = (rs.length - 1) + 1 := by omega
          obtain ⟨x, hx⟩ : ∃ x, rs[rs.length - 1]? = some x := ⟨_, List.getElem?_eq_getElem (by omega)⟩
          rw [lastHi_get rs _ hk x hx]
          simpa using h x (List.mem_of_getElem? hx)
      rw [this]
      cases decide (1 ≤ rs.length) <;> cases decide (rs.length ≤ 16) <;> rfl
  · simp [h1]
theorem stepsM_drop (rs : RS) (k : Nat) (r : Int × Int) (h : rs[k]? = some r) (p : Int) : stepsM p (rs.drop k) = (decide (p < r.1) && decide (r.1 < r.2) && decide (r.2 ≤ 4611686018427387904) && stepsM r.2 (rs.drop (k + 1))) := by
  obtain ⟨hk, e⟩ := List.getElem?_eq_some_iff.1 h
  rw [List.drop_eq_getElem_cons hk, e]
  obtain ⟨a, b⟩ := r
  rfl
set_option maxRecDepth 100000 in
set_option maxHeartbeats 4000000 in
theorem rright_2 (P : Nat → Prop) (s o l c f q y c0 c1 c2 c3 c4 c5 c6 c7 : Int) (fin : Bool) (dA : Option Addr) (dn dc : Nat) (rA : Option Addr) (rn rc : Nat) (rs : RS) (w : World) (hr : InR w P ⟨rA, rn, rc⟩ rs) (y0 : 0 ≤ y) (y1 : y < 18446744073709551616) :
    Calls Try.prog 11 #[frV ⟨2, s, o, fin, l, c, f, q, y, c0, c1, c2, c3, c4, c5, c6, c7⟩ ⟨dA, dn, dc⟩ ⟨rA, rn, rc⟩] w (FrPost (.bool (rrB rs && smL [y])) w) := by
  obtain ⟨hrd, hnc, hcm, hA⟩ := hr
  simp only at hrd hnc hcm hA
  obtain ⟨hlen, hbd, hcell⟩ := hrd
  unfold maxLen at hcm
  have HL := Lib.hid hlen
  by_cases h16 : 1 ≤ rn ∧ rn ≤ 16
  · obtain ⟨h1, h16⟩ := h16
    obtain ⟨b, off, rfl, hb, _, hc⟩ := hcell (by omega)
    have HC := Lib.hid hc
    have HB := Lib.hid hbd
    have hfin : rrB rs = stepsM (-1) rs := by rw [rrB_M, hlen]; simp [h1, h16]
    have HF := Lib.hid hfin
    clear hlen hbd hcell hc hA hfin
    have g1 : decide ((rn : Int) < 1) = false := by simp; omega
    have g2 : decide ((16 : Int) < (rn : Int)) = false := by simp; omega
    cases hsm : smL [y] with
    | false =>
      rw [Bool.and_false]
      simp only [frV, frL]
      have hb0 : Below w.heap.size w (w.alloc (.cells #[.int .i64 2, .int .u64 s, .int .u64 o, .slice dA dn dc, .bool fin, .int .u64 l, .int .u64 c, .int .u64 f, .int .u64 q, .int .u64 y, .slice (some ⟨b, off, none⟩) rn rc,
            .int .u8 c0, .int .u8 c1, .int .u8 c2, .int .u8 c3, .int .u8 c4, .int .u8 c5, .int .u8 c6, .int .u8 c7] 31)) := (Below.refl _ _).alloc (Nat.le_refl _) _
      have hu := UsP.new (w.alloc (.cells #[.int .i64 2, .int .u64 s, .int .u64 o, .slice dA dn dc, .bool fin, .int .u64 l, .int .u64 c, .int .u64 f, .int .u64 q, .int .u64 y, .slice (some ⟨b, off, none⟩) rn rc,
            .int .u8 c0, .int .u8 c1, .int .u8 c2, .int .u8 c3, .int .u8 c4, .int .u8 c5, .int .u8 c6, .int .u8 c7] 31)) (fun _ => True) 25 [y] (by intro x hx; simp at hx; omega) #[.int .u64 y] rfl (w.heap.size + 1) (by simp) trivial
      have hs := small_l_any _ _ 1 1 [y] _ hu (by decide) (by decide)
      have hb2 := hb0.alloc (by simp) (.cells #[.int .u64 y] 25)
      have ea : ((w.alloc (.cells #[.int .i64 2, .int .u64 s, .int .u64 o, .slice dA dn dc, .bool fin, .int .u64 l, .int .u64 c, .int .u64 f, .int .u64 q, .int .u64 y, .slice (some ⟨b, off, none⟩) rn rc,
            .int .u8 c0, .int .u8 c1, .int .u8 c2, .int .u8 c3, .int .u8 c4, .int .u8 c5, .int .u8 c6, .int .u8 c7] 31)).alloc (.cells #[.int .u64 y] 25)).cell? ⟨w.heap.size, 10, none⟩ = some (.slice (some ⟨b, off, none⟩) rn rc) := (((At.new w 31 (frL ⟨2, s, o, fin, l, c, f, q, y, c0, c1, c2, c3, c4, c5, c6, c7⟩ ⟨dA, dn, dc⟩ ⟨(some ⟨b, off, none⟩), rn, rc⟩)).alloc _).cell 10).trans rfl
      have ez : w.heap.size < ((w.alloc (.cells #[.int .i64 2, .int .u64 s, .int .u64 o, .slice dA dn dc, .bool fin, .int .u64 l, .int .u64 c, .int .u64 f, .int .u64 q, .int .u64 y, .slice (some ⟨b, off, none⟩) rn rc,
            .int .u8 c0, .int .u8 c1, .int .u8 c2, .int .u8 c3, .int .u8 c4, .int .u8 c5, .int .u8 c6, .int .u8 c7] 31)).alloc (.cells #[.int .u64 y] 25)).heap.size := by simp; omega
      rw [hsm] at hs
      have HS := Lib.hid hs
      have HB2 := Lib.hid hb2
      have EA := Lib.hid ea
      have EZ := Lib.hid ez
      clear hs hb2 hb0 hu ea ez
      go_enter Try.func11, Try.ntmps11
      go_wp2_with fail
      refine (HS.out).mono ?_
      rintro e w' ⟨rfl, rfl⟩
      go_wp2_with fail
      go_ret
      exact ⟨by rfl, HB2.out⟩
    | true =>
      rw [Bool.and_true]
      simp only [frV, frL]
      have hb0 : Below w.heap.size w (w.alloc (.cells #[.int .i64 2, .int .u64 s, .int .u64 o, .slice dA dn dc, .bool fin, .int .u64 l, .int .u64 c, .int .u64 f, .int .u64 q, .int .u64 y, .slice (some ⟨b, off, none⟩) rn rc,
            .int .u8 c0, .int .u8 c1, .int .u8 c2, .int .u8 c3, .int .u8 c4, .int .u8 c5, .int .u8 c6, .int .u8 c7] 31)) := (Below.refl _ _).alloc (Nat.le_refl _) _
      have hu := UsP.new (w.alloc (.cells #[.int .i64 2, .int .u64 s, .int .u64 o, .slice dA dn dc, .bool fin, .int .u64 l, .int .u64 c, .int .u64 f, .int .u64 q, .int .u64 y, .slice (some ⟨b, off, none⟩) rn rc,
            .int .u8 c0, .int .u8 c1, .int .u8 c2, .int .u8 c3, .int .u8 c4, .int .u8 c5, .int .u8 c6, .int .u8 c7] 31)) (fun _ => True) 25 [y] (by intro x hx; simp at hx; omega) #[.int .u64 y] rfl (w.heap.size + 1) (by simp) trivial
      have hs := small_l_any _ _ 1 1 [y] _ hu (by decide) (by decide)
      have hb2 := hb0.alloc (by simp) (.cells #[.int .u64 y] 25)
      have ea : ((w.alloc (.cells #[.int .i64 2, .int .u64 s, .int .u64 o, .slice dA dn dc, .bool fin, .int .u64 l, .int .u64 c, .int .u64 f, .int .u64 q, .int .u64 y, .slice (some ⟨b, off, none⟩) rn rc,
            .int .u8 c0, .int .u8 c1, .int .u8 c2, .int .u8 c3, .int .u8 c4, .int .u8 c5, .int .u8 c6, .int .u8 c7] 31)).alloc (.cells #[.int .u64 y] 25)).cell? ⟨w.heap.size, 10, none⟩ = some (.slice (some ⟨b, off, none⟩) rn rc) := (((At.new w 31 (frL ⟨2, s, o, fin, l, c, f, q, y, c0, c1, c2, c3, c4, c5, c6, c7⟩ ⟨dA, dn, dc⟩ ⟨(some ⟨b, off, none⟩), rn, rc⟩)).alloc _).cell 10).trans rfl
      have ez : w.heap.size < ((w.alloc (.cells #[.int .i64 2, .int .u64 s, .int .u64 o, .slice dA dn dc, .bool fin, .int .u64 l, .int .u64 c, .int .u64 f, .int .u64 q, .int .u64 y, .slice (some ⟨b, off, none⟩) rn rc,
            .int .u8 c0, .int .u8 c1, .int .u8 c2, .int .u8 c3, .int .u8 c4, .int .u8 c5, .int .u8 c6, .int .u8 c7] 31)).alloc (.cells #[.int .u64 y] 25)).heap.size := by simp; omega
      rw [hsm] at hs
      have HS := Lib.hid hs
      have HB2 := Lib.hid hb2
      have EA := Lib.hid ea
      have EZ := Lib.hid ez
      clear hs hb2 hb0 hu ea ez
      go_enter Try.func11, Try.ntmps11
      go_wp2_with fail
      refine (HS.out).mono ?_
      rintro e w' ⟨rfl, rfl⟩
      go_wp2_with fail
      go_loopw [3] (fun i wr => ∃ k : Nat, k ≤ rn ∧ i = .int .i64 k ∧ Below w.heap.size w wr ∧ w.heap.size < wr.heap.size ∧ wr.cell? ⟨w.heap.size, 10, none⟩ = some (.slice (some ⟨b, off, none⟩) rn rc) ∧ Hid (stepsM (-1) rs = stepsM (prv rs k) (rs.drop k))) (fun i _ => rn - (intOf i).toNat)
      case atStart => exact ⟨0, by omega, rfl, HB2.out, EZ.out, EA.out, Lib.hid (by simp [prv])⟩
      case round =>
        obtain ⟨k, hk, rfl, hbr, hzr, e10, hst⟩ := hrel
        have hbs := hbr.size
        by_cases hlt : k < rn
        · obtain ⟨x, hx⟩ : ∃ x, rs[k]? = some x := ⟨_, List.getElem?_eq_getElem (by rw [HL.out]; exact hlt)⟩
          obtain ⟨lo, hi⟩ := x
          obtain ⟨ca, cb⟩ := HC.out k (lo, hi) hx
          have ca' : wr.cell? ⟨b, off + k * 2, none⟩ = some (.int .u64 lo) := (hbr.cell (p := ⟨b, _, none⟩) hb).trans ca
          have cb' : wr.cell? ⟨b, off + k * 2 + 1, none⟩ = some (.int .u64 hi) := (hbr.cell (p := ⟨b, _, none⟩) hb).trans cb
          have hsd := stepsM_drop rs k (lo, hi) hx (prv rs k)
          have hpv := prv_succ rs k (lo, hi) hx
          have HSt : Hid (stepsM (-1) rs = (decide (prv rs k < lo) && decide (lo < hi) && decide (hi ≤ 4611686018427387904) && stepsM hi (rs.drop (k + 1)))) := Lib.hid (hst.out.trans hsd)
          have HP := Lib.hid hpv
          have HBR := Lib.hid hbr
          have hlb := HB.out (lo, hi) (List.mem_of_getElem? hx)
          simp only at hlb
          obtain ⟨l0, l1, l2, l3⟩ := hlb
          have E10 := Lib.hid e10
          have ZR := Lib.hid hzr
          clear hsd hpv hst ca cb hbr
          rcases Int.lt_or_le lo hi with hlh | hlh
          · have hg1 : decide (hi ≤ lo) = false := by simp; omega
            rcases Int.lt_or_le 4611686018427387904 hi with hbg | hbg
            · have hg3 : decide (4611686018427387904 < hi) = true := by simp; omega
              have HS2 : Hid (stepsM (-1) rs = false) := Lib.hid (by rw [HSt.out, show decide (hi ≤ 4611686018427387904) = false from by simp; omega]; simp)
              rcases Nat.eq_zero_or_pos k with rfl | hk0
              · have ca0 : wr.cell? ⟨b, off, none⟩ = some (.int .u64 lo) := by simpa using ca'
                have cb0 : wr.cell? ⟨b, off + 1, none⟩ = some (.int .u64 hi) := by simpa using cb'
                clear ca' cb' hx
                go_wp2
                go_quiet (fail)
                go_wp2
                go_ret
                exact ⟨by rw [HF.out, HS2.out]; rfl, belowN HBR.out _⟩
              · obtain ⟨j, rfl⟩ : ∃ j, k = j + 1 := ⟨k - 1, by omega⟩
                obtain ⟨x2, hx2⟩ : ∃ x, rs[j]? = some x := ⟨_, List.getElem?_eq_getElem (by rw [HL.out]; omega)⟩
                obtain ⟨lo2, hi2⟩ := x2
                have cb2 : wr.cell? ⟨b, off + j * 2 + 1, none⟩ = some (.int .u64 hi2) := (HBR.out.cell (p := ⟨b, _, none⟩) hb).trans (HC.out j (lo2, hi2) hx2).2
                clear hx hx2
                have hj1 : (j : Int) < (rn : Int) := by omega
                have hj0 : (0 : Int) ≤ (j : Int) := by omega
                have hjn : j < rn := by omega
                have hbw : b < wr.heap.size := by omega
                have hw : IntKind.i64.wrap (j : Int) = j := IntWalk.i64_in _ (by omega)
                rcases Int.lt_or_le hi2 lo with hh | hh
                · have hg2 : decide (lo ≤ hi2) = false := by simp; omega
                  go_wp2
                  go_quiet (fail)
                  clear hw
                  go_wp2
                  go_ret
                  exact ⟨by rw [HF.out, HS2.out]; rfl, belowN HBR.out _⟩
                · have hg2 : decide (lo ≤ hi2) = true := by simp; omega
                  go_wp2
                  go_quiet (fail)
                  clear hw
                  go_wp2
                  go_ret
                  exact ⟨by rw [HF.out, HS2.out]; rfl, belowN HBR.out _⟩
            · have hg3 : decide (4611686018427387904 < hi) = false := by simp; omega
              rcases Nat.eq_zero_or_pos k with rfl | hk0
              · have HS2 : Hid (stepsM (-1) rs = stepsM hi (rs.drop (0 + 1))) := Lib.hid (by rw [HSt.out]; simp [prv, hlh, hbg]; omega)
                have ca0 : wr.cell? ⟨b, off, none⟩ = some (.int .u64 lo) := by simpa using ca'
                have cb0 : wr.cell? ⟨b, off + 1, none⟩ = some (.int .u64 hi) := by simpa using cb'
                clear ca' cb' hx
                go_wp2
                go_quiet (fail)
                go_wp2
                go_roundw
                case rel => exact ⟨1, by omega, rfl, belowN HBR.out _, ZR.out, E10.out, Lib.hid (by rw [HS2.out, HP.out])⟩
                case measure => simp [intOf]; omega
              · obtain ⟨j, rfl⟩ : ∃ j, k = j + 1 := ⟨k - 1, by omega⟩
                obtain ⟨x2, hx2⟩ : ∃ x, rs[j]? = some x := ⟨_, List.getElem?_eq_getElem (by rw [HL.out]; omega)⟩
                obtain ⟨lo2, hi2⟩ := x2
                have cb2 : wr.cell? ⟨b, off + j * 2 + 1, none⟩ = some (.int .u64 hi2) := (HBR.out.cell (p := ⟨b, _, none⟩) hb).trans (HC.out j (lo2, hi2) hx2).2
                have HP2 := Lib.hid (prv_succ rs j (lo2, hi2) hx2)
                clear hx hx2
                have hj1 : (j : Int) < (rn : Int) := by omega
                have hj0 : (0 : Int) ≤ (j : Int) := by omega
                have hjn : j < rn := by omega
                have hbw : b < wr.heap.size := by omega
                rcases Int.lt_or_le hi2 lo with hh | hh
                · have hg2 : decide (lo ≤ hi2) = false := by simp; omega
                  have HS2 : Hid (stepsM (-1) rs = stepsM hi (rs.drop (j + 1 + 1))) := Lib.hid (by rw [HSt.out, HP2.out]; simp [hlh, hh, hbg])
                  have hw : IntKind.i64.wrap (j : Int) = j := IntWalk.i64_in _ (by omega)
                  go_wp2
                  go_quiet (fail)
                  clear hw
                  go_wp2
                  go_roundw
                  case rel => exact ⟨j + 1 + 1, by omega, by go_num, belowN HBR.out _, ZR.out, E10.out, Lib.hid (by rw [HS2.out, HP.out])⟩
                  case measure => simp [intOf]; omega
                · have hg2 : decide (lo ≤ hi2) = true := by simp; omega
                  have HS2 : Hid (stepsM (-1) rs = false) := Lib.hid (by rw [HSt.out, HP2.out, show decide ((lo2, hi2).2 < lo) = false from by simp; omega]; simp)
                  have hw : IntKind.i64.wrap (j : Int) = j := IntWalk.i64_in _ (by omega)
                  go_wp2
                  go_quiet (fail)
                  clear hw
                  go_wp2
                  go_ret
                  exact ⟨by rw [HF.out, HS2.out]; rfl, belowN HBR.out _⟩
          · have hg1 : decide (hi ≤ lo) = true := by simp; omega
            have HS2 : Hid (stepsM (-1) rs = false) := Lib.hid (by rw [HSt.out, show decide (lo < hi) = false from by simp; omega]; simp)
            clear hx
            go_wp2
            go_quiet (fail)
            go_wp2
            go_ret
            exact ⟨by rw [HF.out, HS2.out]; rfl, belowN HBR.out _⟩
        · obtain rfl : k = rn := by omega
          have HT : Hid (stepsM (-1) rs = true) := Lib.hid (by rw [hst.out, List.drop_eq_nil_of_le (by rw [HL.out]; exact Nat.le_refl _)]; rfl)
          clear hst hlt
          go_wp2
          go_ret
          exact ⟨by rw [HF.out, HT.out]; rfl, hbr⟩
  · have HR : Hid ((rrB rs && smL [y]) = false) := Lib.hid (by
      unfold rrB
      rw [hlen]
      by_cases h1 : 1 ≤ rn
      · have : ¬ rn ≤ 16 := by omega
        simp [this]
      · simp [h1])
    have hcs : rn = 0 ∨ 16 < rn := by omega
    rw [HR.out]
    clear hlen hbd hcell hA h16
    have hb0 : Below w.heap.size w (w.alloc (.cells #[.int .i64 2, .int .u64 s, .int .u64 o, .slice dA dn dc, .bool fin, .int .u64 l, .int .u64 c, .int .u64 f, .int .u64 q, .int .u64 y, .slice rA rn rc,
      .int .u8 c0, .int .u8 c1, .int .u8 c2, .int .u8 c3, .int .u8 c4, .int .u8 c5, .int .u8 c6, .int .u8 c7] 31)) := (Below.refl _ _).alloc (Nat.le_refl _) _
    have HB0 := Lib.hid hb0
    clear hb0
    rcases hcs with rfl | h
    · simp only [frV, frL]
      go_enter Try.func11, Try.ntmps11
      go_wp2
      go_ret
      exact ⟨by rfl, HB0.out⟩
    · simp only [frV, frL]
      have g2 : decide ((16 : Int) < (rn : Int)) = true := by simp; omega
      have g1 : decide ((rn : Int) < 1) = false := by simp; omega
      go_enter Try.func11, Try.ntmps11
      go_wp2
      go_ret
      exact ⟨by rfl, HB0.out⟩
theorem rightB_0 (s o l c f q y c0 c1 c2 c3 c4 c5 c6 c7 : Int) (fin : Bool) (ds : List Int) (rs : RS) (dn : Nat) (hd : ds.length = dn) (s0 : 0 ≤ s) (o0 : 0 ≤ o) (l0 : 0 ≤ l) (c_0 : 0 ≤ c) (f0 : 0 ≤ f) (q0 : 0 ≤ q) (y0 : 0 ≤ y) :
    rightB ⟨0, s, o, fin, l, c, f, q, y, c0, c1, c2, c3, c4, c5, c6, c7⟩ ds rs = (true) := by
  subst hd
  rw [Bool.eq_iff_iff]
  simp [rightB, knownB, nrB, smB, askN, drB, askDs, FN.zero, glS, smL]
  try omega
theorem rightB_1 (s o l c f q y c0 c1 c2 c3 c4 c5 c6 c7 : Int) (fin : Bool) (ds : List Int) (rs : RS) (dn : Nat) (hd : ds.length = dn) (s0 : 0 ≤ s) (o0 : 0 ≤ o) (l0 : 0 ≤ l) (c_0 : 0 ≤ c) (f0 : 0 ≤ f) (q0 : 0 ≤ q) (y0 : 0 ≤ y) :
    rightB ⟨1, s, o, fin, l, c, f, q, y, c0, c1, c2, c3, c4, c5, c6, c7⟩ ds rs = (true) := by
  subst hd
  rw [Bool.eq_iff_iff]
  simp [rightB, knownB, nrB, smB, askN, drB, askDs, FN.zero, glS, smL]
  try omega
theorem rightB_30 (s o l c f q y c0 c1 c2 c3 c4 c5 c6 c7 : Int) (fin : Bool) (ds : List Int) (rs : RS) (dn : Nat) (hd : ds.length = dn) (s0 : 0 ≤ s) (o0 : 0 ≤ o) (l0 : 0 ≤ l) (c_0 : 0 ≤ c) (f0 : 0 ≤ f) (q0 : 0 ≤ q) (y0 : 0 ≤ y) :
    rightB ⟨30, s, o, fin, l, c, f, q, y, c0, c1, c2, c3, c4, c5, c6, c7⟩ ds rs = (true) := by
  subst hd
  rw [Bool.eq_iff_iff]
  simp [rightB, knownB, nrB, smB, askN, drB, askDs, FN.zero, glS, smL]
  try omega
theorem rightB_2 (s o l c f q y c0 c1 c2 c3 c4 c5 c6 c7 : Int) (fin : Bool) (ds : List Int) (rs : RS) (dn : Nat) (hd : ds.length = dn) (s0 : 0 ≤ s) (o0 : 0 ≤ o) (l0 : 0 ≤ l) (c_0 : 0 ≤ c) (f0 : 0 ≤ f) (q0 : 0 ≤ q) (y0 : 0 ≤ y) :
    rightB ⟨2, s, o, fin, l, c, f, q, y, c0, c1, c2, c3, c4, c5, c6, c7⟩ ds rs = (rrB rs && smL [y]) := by
  subst hd
  rw [Bool.eq_iff_iff]
  simp [rightB, knownB, nrB, smB, askN, drB, askDs, FN.zero, glS, smL]
  exact and_comm
theorem rightB_4 (s o l c f q y c0 c1 c2 c3 c4 c5 c6 c7 : Int) (fin : Bool) (ds : List Int) (rs : RS) (dn : Nat) (hd : ds.length = dn) (s0 : 0 ≤ s) (o0 : 0 ≤ o) (l0 : 0 ≤ l) (c_0 : 0 ≤ c) (f0 : 0 ≤ f) (q0 : 0 ≤ q) (y0 : 0 ≤ y) :
    rightB ⟨4, s, o, fin, l, c, f, q, y, c0, c1, c2, c3, c4, c5, c6, c7⟩ ds rs = (smL [s, c] && (decide (f ≤ 1099511627776))) := by
  subst hd
  rw [Bool.eq_iff_iff]
  simp [rightB, knownB, nrB, smB, askN, drB, askDs, FN.zero, glS, smL]
  try omega
theorem rightB_5 (s o l c f q y c0 c1 c2 c3 c4 c5 c6 c7 : Int) (fin : Bool) (ds : List Int) (rs : RS) (dn : Nat) (hd : ds.length = dn) (s0 : 0 ≤ s) (o0 : 0 ≤ o) (l0 : 0 ≤ l) (c_0 : 0 ≤ c) (f0 : 0 ≤ f) (q0 : 0 ≤ q) (y0 : 0 ≤ y) :
    rightB ⟨5, s, o, fin, l, c, f, q, y, c0, c1, c2, c3, c4, c5, c6, c7⟩ ds rs = (smL [s, c]) := by
  subst hd
  rw [Bool.eq_iff_iff]
  simp [rightB, knownB, nrB, smB, askN, drB, askDs, FN.zero, glS, smL]
  try omega
theorem rightB_6 (s o l c f q y c0 c1 c2 c3 c4 c5 c6 c7 : Int) (fin : Bool) (ds : List Int) (rs : RS) (dn : Nat) (hd : ds.length = dn) (s0 : 0 ≤ s) (o0 : 0 ≤ o) (l0 : 0 ≤ l) (c_0 : 0 ≤ c) (f0 : 0 ≤ f) (q0 : 0 ≤ q) (y0 : 0 ≤ y) :
    rightB ⟨6, s, o, fin, l, c, f, q, y, c0, c1, c2, c3, c4, c5, c6, c7⟩ ds rs = (decide ((dn : Int) ≤ 512) && decide (o ≤ 1099511627776) && decide (o + (dn : Int) ≤ 1099511627776)) := by
  subst hd
  rw [Bool.eq_iff_iff]
  simp [rightB, knownB, nrB, smB, askN, drB, askDs, FN.zero, glS, smL]
  try omega
theorem rightB_8 (s o l c f q y c0 c1 c2 c3 c4 c5 c6 c7 : Int) (fin : Bool) (ds : List Int) (rs : RS) (dn : Nat) (hd : ds.length = dn) (s0 : 0 ≤ s) (o0 : 0 ≤ o) (l0 : 0 ≤ l) (c_0 : 0 ≤ c) (f0 : 0 ≤ f) (q0 : 0 ≤ q) (y0 : 0 ≤ y) :
    rightB ⟨8, s, o, fin, l, c, f, q, y, c0, c1, c2, c3, c4, c5, c6, c7⟩ ds rs = (smL [s] && (decide ((dn : Int) ≤ 512) && decide (o ≤ 1099511627776) && decide (o + (dn : Int) ≤ 1099511627776))) := by
  subst hd
  rw [Bool.eq_iff_iff]
  simp [rightB, knownB, nrB, smB, askN, drB, askDs, FN.zero, glS, smL]
  try omega
theorem rightB_16 (s o l c f q y c0 c1 c2 c3 c4 c5 c6 c7 : Int) (fin : Bool) (ds : List Int) (rs : RS) (dn : Nat) (hd : ds.length = dn) (s0 : 0 ≤ s) (o0 : 0 ≤ o) (l0 : 0 ≤ l) (c_0 : 0 ≤ c) (f0 : 0 ≤ f) (q0 : 0 ≤ q) (y0 : 0 ≤ y) :
    rightB ⟨16, s, o, fin, l, c, f, q, y, c0, c1, c2, c3, c4, c5, c6, c7⟩ ds rs = (decide (l ≤ 1099511627776)) := by
  subst hd
  rw [Bool.eq_iff_iff]
  simp [rightB, knownB, nrB, smB, askN, drB, askDs, FN.zero, glS, smL]
  try omega
theorem rightB_18 (s o l c f q y c0 c1 c2 c3 c4 c5 c6 c7 : Int) (fin : Bool) (ds : List Int) (rs : RS) (dn : Nat) (hd : ds.length = dn) (s0 : 0 ≤ s) (o0 : 0 ≤ o) (l0 : 0 ≤ l) (c_0 : 0 ≤ c) (f0 : 0 ≤ f) (q0 : 0 ≤ q) (y0 : 0 ≤ y) :
    rightB ⟨18, s, o, fin, l, c, f, q, y, c0, c1, c2, c3, c4, c5, c6, c7⟩ ds rs = (decide (l ≤ 1048576)) := by
  subst hd
  rw [Bool.eq_iff_iff]
  simp [rightB, knownB, nrB, smB, askN, drB, askDs, FN.zero, glS, smL]
  try omega
theorem rightB_20 (s o l c f q y c0 c1 c2 c3 c4 c5 c6 c7 : Int) (fin : Bool) (ds : List Int) (rs : RS) (dn : Nat) (hd : ds.length = dn) (s0 : 0 ≤ s) (o0 : 0 ≤ o) (l0 : 0 ≤ l) (c_0 : 0 ≤ c) (f0 : 0 ≤ f) (q0 : 0 ≤ q) (y0 : 0 ≤ y) :
    rightB ⟨20, s, o, fin, l, c, f, q, y, c0, c1, c2, c3, c4, c5, c6, c7⟩ ds rs = (smL [l]) := by
  subst hd
  rw [Bool.eq_iff_iff]
  simp [rightB, knownB, nrB, smB, askN, drB, askDs, FN.zero, glS, smL]
  try omega
theorem rightB_17 (s o l c f q y c0 c1 c2 c3 c4 c5 c6 c7 : Int) (fin : Bool) (ds : List Int) (rs : RS) (dn : Nat) (hd : ds.length = dn) (s0 : 0 ≤ s) (o0 : 0 ≤ o) (l0 : 0 ≤ l) (c_0 : 0 ≤ c) (f0 : 0 ≤ f) (q0 : 0 ≤ q) (y0 : 0 ≤ y) :
    rightB ⟨17, s, o, fin, l, c, f, q, y, c0, c1, c2, c3, c4, c5, c6, c7⟩ ds rs = (smL [s] && (decide (l ≤ 1099511627776))) := by
  subst hd
  rw [Bool.eq_iff_iff]
  simp [rightB, knownB, nrB, smB, askN, drB, askDs, FN.zero, glS, smL]
  try omega
theorem rightB_24 (s o l c f q y c0 c1 c2 c3 c4 c5 c6 c7 : Int) (fin : Bool) (ds : List Int) (rs : RS) (dn : Nat) (hd : ds.length = dn) (s0 : 0 ≤ s) (o0 : 0 ≤ o) (l0 : 0 ≤ l) (c_0 : 0 ≤ c) (f0 : 0 ≤ f) (q0 : 0 ≤ q) (y0 : 0 ≤ y) :
    rightB ⟨24, s, o, fin, l, c, f, q, y, c0, c1, c2, c3, c4, c5, c6, c7⟩ ds rs = (smL [q, l] && (decide (l ≤ q))) := by
  subst hd
  rw [Bool.eq_iff_iff]
  simp [rightB, knownB, nrB, smB, askN, drB, askDs, FN.zero, glS, smL]
  try omega
theorem rightB_25 (s o l c f q y c0 c1 c2 c3 c4 c5 c6 c7 : Int) (fin : Bool) (ds : List Int) (rs : RS) (dn : Nat) (hd : ds.length = dn) (s0 : 0 ≤ s) (o0 : 0 ≤ o) (l0 : 0 ≤ l) (c_0 : 0 ≤ c) (f0 : 0 ≤ f) (q0 : 0 ≤ q) (y0 : 0 ≤ y) :
    rightB ⟨25, s, o, fin, l, c, f, q, y, c0, c1, c2, c3, c4, c5, c6, c7⟩ ds rs = (smL [q]) := by
  subst hd
  rw [Bool.eq_iff_iff]
  simp [rightB, knownB, nrB, smB, askN, drB, askDs, FN.zero, glS, smL]
  try omega
theorem rightB_26 (s o l c f q y c0 c1 c2 c3 c4 c5 c6 c7 : Int) (fin : Bool) (ds : List Int) (rs : RS) (dn : Nat) (hd : ds.length = dn) (s0 : 0 ≤ s) (o0 : 0 ≤ o) (l0 : 0 ≤ l) (c_0 : 0 ≤ c) (f0 : 0 ≤ f) (q0 : 0 ≤ q) (y0 : 0 ≤ y) :
    rightB ⟨26, s, o, fin, l, c, f, q, y, c0, c1, c2, c3, c4, c5, c6, c7⟩ ds rs = (true) := by
  subst hd
  rw [Bool.eq_iff_iff]
  simp [rightB, knownB, nrB, smB, askN, drB, askDs, FN.zero, glS, smL]
  try omega
theorem rightB_27 (s o l c f q y c0 c1 c2 c3 c4 c5 c6 c7 : Int) (fin : Bool) (ds : List Int) (rs : RS) (dn : Nat) (hd : ds.length = dn) (s0 : 0 ≤ s) (o0 : 0 ≤ o) (l0 : 0 ≤ l) (c_0 : 0 ≤ c) (f0 : 0 ≤ f) (q0 : 0 ≤ q) (y0 : 0 ≤ y) :
    rightB ⟨27, s, o, fin, l, c, f, q, y, c0, c1, c2, c3, c4, c5, c6, c7⟩ ds rs = (true) := by
  subst hd
  rw [Bool.eq_iff_iff]
  simp [rightB, knownB, nrB, smB, askN, drB, askDs, FN.zero, glS, smL]
  try omega
theorem rightB_28 (s o l c f q y c0 c1 c2 c3 c4 c5 c6 c7 : Int) (fin : Bool) (ds : List Int) (rs : RS) (dn : Nat) (hd : ds.length = dn) (s0 : 0 ≤ s) (o0 : 0 ≤ o) (l0 : 0 ≤ l) (c_0 : 0 ≤ c) (f0 : 0 ≤ f) (q0 : 0 ≤ q) (y0 : 0 ≤ y) :
    rightB ⟨28, s, o, fin, l, c, f, q, y, c0, c1, c2, c3, c4, c5, c6, c7⟩ ds rs = (smL [c] && (decide ((dn : Int) ≤ 32))) := by
  subst hd
  rw [Bool.eq_iff_iff]
  simp [rightB, knownB, nrB, smB, askN, drB, askDs, FN.zero, glS, smL]
  try omega
theorem rightB_k (k s o l c f q y c0 c1 c2 c3 c4 c5 c6 c7 : Int) (fin : Bool) (ds : List Int) (rs : RS) (e0 : (k == 0) = false) (e1 : (k == 1) = false) (e30 : (k == 30) = false) (e2 : (k == 2) = false) (e4 : (k == 4) = false) (e5 : (k == 5) = false) (e6 : (k == 6) = false) (e8 : (k == 8) = false) (e16 : (k == 16) = false) (e18 : (k == 18) = false) (e20 : (k == 20) = false) (e17 : (k == 17) = false) (e24 : (k == 24) = false) (e25 : (k == 25) = false) (e26 : (k == 26) = false) (e27 : (k == 27) = false) (e28 : (k == 28) = false) :
    rightB ⟨k, s, o, fin, l, c, f, q, y, c0, c1, c2, c3, c4, c5, c6, c7⟩ ds rs = false := by
  simp [rightB, knownB, e0, e1, e30, e2, e4, e5, e6, e8, e16, e18, e20, e17, e24, e25, e26, e27, e28]
theorem rright_any (P : Nat → Prop) (m : FN) (d r : Sl) (ds : List Int) (rs : RS) (w : World) (hf : Fits w P m d r ds rs) : Calls Try.prog 11 #[frV m d r] w (FrPost (.bool (rightB m ds rs)) w) := by
  obtain ⟨hwf, hdt, hrg⟩ := hf
  obtain ⟨k, s, o, fin, l, c, f, q, y, c0, c1, c2, c3, c4, c5, c6, c7⟩ := m
  obtain ⟨dA, dn, dc⟩ := d
  obtain ⟨rA, rn, rc⟩ := r
  have s0 := hwf.s0
  have o0 := hwf.o0
  have l0 := hwf.l0
  have c_0 := hwf.c0
  have f0 := hwf.f0
  have q0 := hwf.q0
  have y0 := hwf.y0
  have s1 := hwf.s1
  have o1 := hwf.o1
  have l1 := hwf.l1
  have c_1 := hwf.c1
  have f1 := hwf.f1
  have q1 := hwf.q1
  have y1 := hwf.y1
  simp only at s0 o0 l0 c_0 f0 q0 y0 s1 o1 l1 c_1 f1 q1 y1
  have hd := hdt.rd.len
  have dn_ := hdt.lc
  have dcm := hdt.cm
  unfold maxLen at dcm
  simp only at hd dn_ dcm
  rcases kind_cases k with rfl | rfl | rfl | rfl | rfl | rfl | rfl | rfl | rfl | rfl | rfl | rfl | rfl | rfl | rfl | rfl | rfl | ⟨e0, e1, e30, e2, e4, e5, e6, e8, e16, e18, e20, e17, e24, e25, e26, e27, e28⟩
  · rw [rightB_0 s o l c f q y c0 c1 c2 c3 c4 c5 c6 c7 fin ds rs dn hd s0 o0 l0 c_0 f0 q0 y0]
    exact rright_0 s o l c f q y c0 c1 c2 c3 c4 c5 c6 c7 fin dA dn dc rA rn rc w dn_ (by omega) s0 o0 l0 c_0 f0 q0 y0 s1 o1 l1 c_1 f1 q1 y1
  · rw [rightB_1 s o l c f q y c0 c1 c2 c3 c4 c5 c6 c7 fin ds rs dn hd s0 o0 l0 c_0 f0 q0 y0]
    exact rright_1 s o l c f q y c0 c1 c2 c3 c4 c5 c6 c7 fin dA dn dc rA rn rc w dn_ (by omega) s0 o0 l0 c_0 f0 q0 y0 s1 o1 l1 c_1 f1 q1 y1
  · rw [rightB_30 s o l c f q y c0 c1 c2 c3 c4 c5 c6 c7 fin ds rs dn hd s0 o0 l0 c_0 f0 q0 y0]
    exact rright_30 s o l c f q y c0 c1 c2 c3 c4 c5 c6 c7 fin dA dn dc rA rn rc w dn_ (by omega) s0 o0 l0 c_0 f0 q0 y0 s1 o1 l1 c_1 f1 q1 y1
  · rw [rightB_2 s o l c f q y c0 c1 c2 c3 c4 c5 c6 c7 fin ds rs dn hd s0 o0 l0 c_0 f0 q0 y0]
    exact rright_2 P s o l c f q y c0 c1 c2 c3 c4 c5 c6 c7 fin dA dn dc rA rn rc rs w hrg y0 y1
  · rw [rightB_4 s o l c f q y c0 c1 c2 c3 c4 c5 c6 c7 fin ds rs dn hd s0 o0 l0 c_0 f0 q0 y0]
    exact rright_4 s o l c f q y c0 c1 c2 c3 c4 c5 c6 c7 fin dA dn dc rA rn rc w dn_ (by omega) s0 o0 l0 c_0 f0 q0 y0 s1 o1 l1 c_1 f1 q1 y1
  · rw [rightB_5 s o l c f q y c0 c1 c2 c3 c4 c5 c6 c7 fin ds rs dn hd s0 o0 l0 c_0 f0 q0 y0]
    exact rright_5 s o l c f q y c0 c1 c2 c3 c4 c5 c6 c7 fin dA dn dc rA rn rc w dn_ (by omega) s0 o0 l0 c_0 f0 q0 y0 s1 o1 l1 c_1 f1 q1 y1
  · rw [rightB_6 s o l c f q y c0 c1 c2 c3 c4 c5 c6 c7 fin ds rs dn hd s0 o0 l0 c_0 f0 q0 y0]
    exact rright_6 s o l c f q y c0 c1 c2 c3 c4 c5 c6 c7 fin dA dn dc rA rn rc w dn_ (by omega) s0 o0 l0 c_0 f0 q0 y0 s1 o1 l1 c_1 f1 q1 y1
  · rw [rightB_8 s o l c f q y c0 c1 c2 c3 c4 c5 c6 c7 fin ds rs dn hd s0 o0 l0 c_0 f0 q0 y0]
    exact rright_8 s o l c f q y c0 c1 c2 c3 c4 c5 c6 c7 fin dA dn dc rA rn rc w dn_ (by omega) s0 o0 l0 c_0 f0 q0 y0 s1 o1 l1 c_1 f1 q1 y1
  · rw [rightB_16 s o l c f q y c0 c1 c2 c3 c4 c5 c6 c7 fin ds rs dn hd s0 o0 l0 c_0 f0 q0 y0]
    exact rright_16 s o l c f q y c0 c1 c2 c3 c4 c5 c6 c7 fin dA dn dc rA rn rc w dn_ (by omega) s0 o0 l0 c_0 f0 q0 y0 s1 o1 l1 c_1 f1 q1 y1
  · rw [rightB_18 s o l c f q y c0 c1 c2 c3 c4 c5 c6 c7 fin ds rs dn hd s0 o0 l0 c_0 f0 q0 y0]
    exact rright_18 s o l c f q y c0 c1 c2 c3 c4 c5 c6 c7 fin dA dn dc rA rn rc w dn_ (by omega) s0 o0 l0 c_0 f0 q0 y0 s1 o1 l1 c_1 f1 q1 y1
  · rw [rightB_20 s o l c f q y c0 c1 c2 c3 c4 c5 c6 c7 fin ds rs dn hd s0 o0 l0 c_0 f0 q0 y0]
    exact rright_20 s o l c f q y c0 c1 c2 c3 c4 c5 c6 c7 fin dA dn dc rA rn rc w dn_ (by omega) s0 o0 l0 c_0 f0 q0 y0 s1 o1 l1 c_1 f1 q1 y1
  · rw [rightB_17 s o l c f q y c0 c1 c2 c3 c4 c5 c6 c7 fin ds rs dn hd s0 o0 l0 c_0 f0 q0 y0]
    exact rright_17 s o l c f q y c0 c1 c2 c3 c4 c5 c6 c7 fin dA dn dc rA rn rc w dn_ (by omega) s0 o0 l0 c_0 f0 q0 y0 s1 o1 l1 c_1 f1 q1 y1
  · rw [rightB_24 s o l c f q y c0 c1 c2 c3 c4 c5 c6 c7 fin ds rs dn hd s0 o0 l0 c_0 f0 q0 y0]
    exact rright_24 s o l c f q y c0 c1 c2 c3 c4 c5 c6 c7 fin dA dn dc rA rn rc w dn_ (by omega) s0 o0 l0 c_0 f0 q0 y0 s1 o1 l1 c_1 f1 q1 y1
  · rw [rightB_25 s o l c f q y c0 c1 c2 c3 c4 c5 c6 c7 fin ds rs dn hd s0 o0 l0 c_0 f0 q0 y0]
    exact rright_25 s o l c f q y c0 c1 c2 c3 c4 c5 c6 c7 fin dA dn dc rA rn rc w dn_ (by omega) s0 o0 l0 c_0 f0 q0 y0 s1 o1 l1 c_1 f1 q1 y1
  · rw [rightB_26 s o l c f q y c0 c1 c2 c3 c4 c5 c6 c7 fin ds rs dn hd s0 o0 l0 c_0 f0 q0 y0]
    exact rright_26 s o l c f q y c0 c1 c2 c3 c4 c5 c6 c7 fin dA dn dc rA rn rc w dn_ (by omega) s0 o0 l0 c_0 f0 q0 y0 s1 o1 l1 c_1 f1 q1 y1
  · rw [rightB_27 s o l c f q y c0 c1 c2 c3 c4 c5 c6 c7 fin ds rs dn hd s0 o0 l0 c_0 f0 q0 y0]
    exact rright_27 s o l c f q y c0 c1 c2 c3 c4 c5 c6 c7 fin dA dn dc rA rn rc w dn_ (by omega) s0 o0 l0 c_0 f0 q0 y0 s1 o1 l1 c_1 f1 q1 y1
  · rw [rightB_28 s o l c f q y c0 c1 c2 c3 c4 c5 c6 c7 fin ds rs dn hd s0 o0 l0 c_0 f0 q0 y0]
    exact rright_28 s o l c f q y c0 c1 c2 c3 c4 c5 c6 c7 fin dA dn dc rA rn rc w dn_ (by omega) s0 o0 l0 c_0 f0 q0 y0 s1 o1 l1 c_1 f1 q1 y1
  · rw [rightB_k k s o l c f q y c0 c1 c2 c3 c4 c5 c6 c7 fin ds rs e0 e1 e30 e2 e4 e5 e6 e8 e16 e18 e20 e17 e24 e25 e26 e27 e28]
    exact rright_k k s o l c f q y c0 c1 c2 c3 c4 c5 c6 c7 fin dA dn dc rA rn rc w dn_ (by omega) s0 o0 l0 c_0 f0 q0 y0 s1 o1 l1 c_1 f1 q1 y1 e0 e1 e30 e2 e4 e5 e6 e8 e16 e18 e20 e17 e24 e25 e26 e27 e28
end Go.Proofs.Ytkahndjflhgccaa
