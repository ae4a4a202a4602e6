/-
  The document's own Same of two Acks.
-/
import Derived.Test.YtkahndjflhgccaaSame
import Derived.IntWalk
import Derived.BigRegion
namespace Go.Proofs.Ytkahndjflhgccaa
set_option linter.unusedVariables false
set_option linter.unusedSimpArgs false
open Go.RowKit
theorem rs_drop_eq (rs rs' : RS) (k : Nat) (x x' : Int × Int) (h : rs[k]? = some x) (h' : rs'[k]? = some x') : decide (rs.drop k = rs'.drop k) = (decide (x = x') && decide (rs.drop (k + 1) = rs'.drop (k + 1))) := by
  obtain ⟨hk, e⟩ := List.getElem?_eq_some_iff.1 h
  obtain ⟨hk', e'⟩ := List.getElem?_eq_some_iff.1 h'
  rw [List.drop_eq_getElem_cons hk, List.drop_eq_getElem_cons hk', e, e']
  simp
set_option maxRecDepth 100000 in
set_option maxHeartbeats 4000000 in
theorem rsame_2 (P : Nat → Prop) (s o l c f q y c0 c1 c2 c3 c4 c5 c6 c7 s' o' l' c' f' q' y' c0' c1' c2' c3' c4' c5' c6' c7' : Int) (fin fin' : Bool) (d d' r r' : Sl) (ds ds' : List Int) (rs rs' : RS) (w : World)
    (hf : Fits w P ⟨2, s, o, fin, l, c, f, q, y, c0, c1, c2, c3, c4, c5, c6, c7⟩ d r ds rs) (hf' : Fits w P ⟨2, s', o', fin', l', c', f', q', y', c0', c1', c2', c3', c4', c5', c6', c7'⟩ d' r' ds' rs') :
    Calls Try.prog 10 #[frV ⟨2, s, o, fin, l, c, f, q, y, c0, c1, c2, c3, c4, c5, c6, c7⟩ d r, frV ⟨2, s', o', fin', l', c', f', q', y', c0', c1', c2', c3', c4', c5', c6', c7'⟩ d' r'] w
      (FrPost (.bool (sameB ⟨2, s, o, fin, l, c, f, q, y, c0, c1, c2, c3, c4, c5, c6, c7⟩ ⟨2, s', o', fin', l', c', f', q', y', c0', c1', c2', c3', c4', c5', c6', c7'⟩ ds ds' rs rs')) w) := by
  have hB : Below w.heap.size w ((w.alloc (.cells (frL ⟨2, s, o, fin, l, c, f, q, y, c0, c1, c2, c3, c4, c5, c6, c7⟩ d r).toArray 31)).alloc (.cells (frL ⟨2, s', o', fin', l', c', f', q', y', c0', c1', c2', c3', c4', c5', c6', c7'⟩ d' r').toArray 31)) := ((Below.refl _ _).alloc (Nat.le_refl _) _).alloc (by simp) _
  obtain ⟨hlen, hbd, hcell⟩ := hf.rg.rd
  obtain ⟨hlen', hbd', hcell'⟩ := hf'.rg.rd
  have hcm := Nat.le_trans hf.rg.lc hf.rg.cm
  unfold maxLen at hcm
  have hv : sameB ⟨2, s, o, fin, l, c, f, q, y, c0, c1, c2, c3, c4, c5, c6, c7⟩ ⟨2, s', o', fin', l', c', f', q', y', c0', c1', c2', c3', c4', c5', c6', c7'⟩ ds ds' rs rs' = (y == y' && decide (rs = rs')) := by simp [sameB]
  have HV := Lib.hid hv
  have HL := Lib.hid hlen
  have HL' := Lib.hid hlen'
  have HC := Lib.hid hcell
  have HC' := Lib.hid hcell'
  clear hv hf hf' hbd hbd' hlen hlen' hcell hcell'
  obtain ⟨dA, dn, dc⟩ := d
  obtain ⟨rA, rn, rc⟩ := r
  obtain ⟨dA', dn', dc'⟩ := d'
  obtain ⟨rA', rn', rc'⟩ := r'
  simp only at HL HL' HC HC' hcm
  simp only [frV, frL]
  simp only [frL] at hB
  by_cases e_y : y = y'
  · subst e_y
    by_cases e_n : rn = rn'
    · subst e_n
      have HB := Lib.hid hB
      clear hB
      go_enter Try.func10, Try.ntmps10
      go_wp2
      go_loopw [5] (fun i wr => ∃ k : Nat, k ≤ rn ∧ i = .int .i64 k ∧ Hid (Below w.heap.size w wr) ∧ wr.cell? ⟨w.heap.size, 10, none⟩ = some (.slice rA rn rc) ∧ wr.cell? ⟨w.heap.size + 1, 10, none⟩ = some (.slice rA' rn rc') ∧ Hid (decide (rs = rs') = decide (rs.drop k = rs'.drop k))) (fun i _ => rn - (intOf i).toNat)
      case atStart => exact ⟨0, by omega, rfl, HB, by go_simp, by go_simp, Lib.hid (by simp)⟩
      case round =>
        obtain ⟨k, hk, rfl, hbr, z1, z2, hst⟩ := hrel
        by_cases hlt : k < rn
        · obtain ⟨x, hx⟩ : ∃ x, rs[k]? = some x := ⟨_, List.getElem?_eq_getElem (by rw [HL.out]; exact hlt)⟩
          obtain ⟨x', hx'⟩ : ∃ x, rs'[k]? = some x := ⟨_, List.getElem?_eq_getElem (by rw [HL'.out]; exact hlt)⟩
          obtain ⟨b, off, eA, hb, _, hc⟩ := HC.out (by omega)
          obtain ⟨b', off', eA', hb', _, hc'⟩ := HC'.out (by omega)
          subst eA
          subst eA'
          obtain ⟨lo, hi⟩ := x
          obtain ⟨lo', hi'⟩ := x'
          obtain ⟨ca, cb⟩ := hc k _ hx
          obtain ⟨ca', cb'⟩ := hc' k _ hx'
          have ga : wr.cell? ⟨b, off + k * 2, none⟩ = some (.int .u64 lo) := (hbr.out.cell (p := ⟨b, _, none⟩) hb).trans ca
          have gb : wr.cell? ⟨b, off + k * 2 + 1, none⟩ = some (.int .u64 hi) := (hbr.out.cell (p := ⟨b, _, none⟩) hb).trans cb
          have ga' : wr.cell? ⟨b', off' + k * 2, none⟩ = some (.int .u64 lo') := (hbr.out.cell (p := ⟨b', _, none⟩) hb').trans ca'
          have gb' : wr.cell? ⟨b', off' + k * 2 + 1, none⟩ = some (.int .u64 hi') := (hbr.out.cell (p := ⟨b', _, none⟩) hb').trans cb'
          have HS : Hid (decide (rs = rs') = (decide ((lo, hi) = (lo', hi')) && decide (rs.drop (k + 1) = rs'.drop (k + 1)))) := Lib.hid (hst.out.trans (rs_drop_eq rs rs' k _ _ hx hx'))
          have hki : (k : Int) < (rn : Int) := by omega
          have hk0 : (0 : Int) ≤ (k : Int) := by omega
          clear ca cb ca' cb' hc hc' hst hx hx' hb hb'
          by_cases e1 : lo = lo'
          · subst e1
            by_cases e2 : hi = hi'
            · subst e2
              go_wp2_with fail
              go_region
              go_wp2_with fail
              go_roundw
              case rel => exact ⟨k + 1, by omega, by go_num, Lib.hid (belowN hbr.out _), by go_simp, by go_simp, Lib.hid (by rw [HS.out]; simp)⟩
              case measure => simp [intOf]; omega
            · have n2 : (hi == hi') = false := by simpa using e2
              have HT : Hid (decide (rs = rs') = false) := Lib.hid (by rw [HS.out]; simp [e2])
              go_wp2_with fail
              go_region
              go_wp2_with fail
              go_ret
              exact ⟨by rw [HV.out, HT.out]; simp, belowN hbr.out _⟩
          · have n1 : (lo == lo') = false := by simpa using e1
            have HT : Hid (decide (rs = rs') = false) := Lib.hid (by rw [HS.out]; simp [e1])
            go_wp2_with fail
            go_region
            go_wp2_with fail
            go_ret
            exact ⟨by rw [HV.out, HT.out]; simp, belowN hbr.out _⟩
        · obtain rfl : k = rn := by omega
          have HT : Hid (decide (rs = rs') = true) := Lib.hid (by rw [hst.out, List.drop_eq_nil_of_le (by rw [HL.out]; exact Nat.le_refl _), List.drop_eq_nil_of_le (by rw [HL'.out]; exact Nat.le_refl _)]; simp)
          clear hst hlt
          go_wp2
          go_ret
          exact ⟨by rw [HV.out, HT.out]; simp, hbr.out⟩
    · have HT : Hid (decide (rs = rs') = false) := Lib.hid (by
        simp only [decide_eq_false_iff_not]
        intro e
        exact e_n (by rw [← HL.out, ← HL'.out, e]))
      have en2 : ((rn : Int) == (rn' : Int)) = false := by simp; omega
      have en3 : ((rn : Int) != (rn' : Int)) = true := by simp; omega
      have HB := Lib.hid hB
      clear hB
      go_enter Try.func10, Try.ntmps10
      go_wp2
      go_ret
      exact ⟨by rw [HV.out, HT.out]; simp, HB.out⟩
  · have ny : (y == y') = false := by simpa using e_y
    have HB := Lib.hid hB
    clear hB
    go_enter Try.func10, Try.ntmps10
    go_wp2
    go_ret
    exact ⟨by rw [HV.out, ny]; simp, HB.out⟩
end Go.Proofs.Ytkahndjflhgccaa
