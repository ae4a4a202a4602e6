/-
  frame.Right, for every frame.
-/
import Derived.Test.YtohahkjikhpamaaRight
import Derived.Test.YtohahkjikhpamaaProg
import Derived.Test.YtohahkjikhpamaaMq8
import Derived.Test.YtohahkjikhpamaaBytes
namespace Go.Proofs.Ytohahkjikhpamaa
section
set_option linter.unusedVariables false
set_option linter.unusedSimpArgs false
open Go.RowKit
def rightB (m : FN) (ds : List Int) (rs : RS) : Bool := knownB m.k && nrB (askN m) && drB (askN m) (askDs m.k ds).length && (m.k != 2 || rrB rs)
section
variable {ops : Array Oper} {rest : List Oper} {a : Act} {w : World} {Q : Exit → Act → World → Prop} {dst : Option Tmp} {x y : Operand} {t : TypeId} {pos : String} {after : Array Edge} {g : Option (Nat × Bool)}
/-- A whole frame's load, its guard met. -/
theorem ld_fr_g (p : Nat) (l : List Value) (hg : Region.wanted ⟨dst, .load 43 x, t, pos, after, g⟩ (yielded ops a.tmps) = true) (hx : a.eval x = .pointer (some ⟨p, 0, none⟩)) (hA : At w p 43 l) (hl : l.length = 19)
    (h : wpList Try.prog ops Q rest (a.put dst (.agg l.toArray)) w) : wpList Try.prog ops Q (⟨dst, .load 43 x, t, pos, after, g⟩ :: rest) a w := by
  refine wpList_step fun K hK => ?_
  rw [if_pos hg]
  exact wp_load_mid _ _ rfl p 0 hx l _ hA.rangeAt Try.underlying43 rfl (by rw [hl]; exact fr_info) (hK _ _ h)
end
theorem askD_n {w : World} {P : Nat → Prop} {d : Sl} {ds : List Int} (k : Int) (h : InD w P d ds) : (askD k d).n = (askDs k ds).length := by
  unfold askD askDs
  split
  · exact h.rd.len.symm
  · rfl
set_option maxRecDepth 100000 in
set_option maxHeartbeats 1000000 in
theorem right_any (P : Nat → Prop) (m : FN) (d r : Sl) (ds : List Int) (rs : RS) (w : World) (hf : Fits w P m d r ds rs) : Calls Try.prog 42 #[frV m d r] w (FrPost (.bool (rightB m ds rs)) w) := by
  have hak := hf.ask
  have hdn := askD_n m.k hf.dt
  obtain ⟨m', hm'⟩ : ∃ m', askN m = m' := ⟨_, rfl⟩
  obtain ⟨d', hd'⟩ : ∃ x, askD m.k d = x := ⟨_, rfl⟩
  obtain ⟨r', hr'⟩ : ∃ x, askR m.k r = x := ⟨_, rfl⟩
  obtain ⟨ds', hds'⟩ : ∃ x, askDs m.k ds = x := ⟨_, rfl⟩
  obtain ⟨rs', hrs'⟩ : ∃ x, askRs m.k rs = x := ⟨_, rfl⟩
  have hkk : m'.k = m.k := by rw [← hm']; exact askN_k m
  have hrr : m.k = 2 → rs' = rs := fun h => by rw [← hrs']; unfold askRs; rw [if_pos h]
  have hR : rightB m ds rs = (knownB m.k && nrB m' && drB m' ds'.length && (m.k != 2 || rrB rs')) := by
    unfold rightB
    rw [hm', hds']
    by_cases h : m.k = 2
    · rw [hrr h]
    · have : (m.k != 2) = true := by simpa using h
      rw [this]; simp
  have hC := asked_any m d r
  unfold AskedPost at hC
  rw [hm', hd', hr'] at hC
  rw [hm', hd', hr', hds', hrs'] at hak
  rw [hd', hds'] at hdn
  clear hm' hd' hr' hds' hrs' hrr
  obtain ⟨kb, hkb⟩ : ∃ x, knownB m.k = x := ⟨_, rfl⟩
  rw [hkb] at hC hR
  clear hkb hf
  have HC := Lib.hid hC
  have HR := Lib.hid hR
  have HD := Lib.hid hdn
  have HK := Lib.hid hkk
  obtain ⟨k1, hk1⟩ : ∃ x, m.k = x := ⟨_, rfl⟩
  rw [hk1] at HR HK
  clear hC hR hdn hk1 hkk
  have hA0 : At (w.alloc (.cells (frL m d r).toArray 43)) w.heap.size 43 (frL m d r) := At.new w _ _
  have hB0 : Below w.heap.size w (w.alloc (.cells (frL m d r).toArray 43)) := (Below.refl _ _).alloc (Nat.le_refl _) _
  have hs0 : (w.alloc (.cells (frL m d r).toArray 43)).heap.size = w.heap.size + 1 := by simp
  have HA0 := Lib.hid hA0
  have HB0 := Lib.hid hB0
  have HS0 := Lib.hid hs0
  clear hA0 hB0 hs0
  obtain ⟨L, hL⟩ : ∃ L, frL m d r = L := ⟨_, rfl⟩
  have hLl : L.length = 19 := by rw [← hL]; rfl
  have hfv : frV m d r = .agg L.toArray := by rw [← hL]; rfl
  rw [hL] at HA0 HB0 HS0
  rw [hfv] at HC ⊢
  clear hL hfv
  have HLl := Lib.hid hLl
  clear hLl
  have HNR := Lib.hid (fun W => nr_any m' d' r' W hak.wf)
  have HDR := Lib.hid (fun (W : World) (h1 : m'.o ≤ 1099511627776) => dr_any m' d' r' W hak.wf.o0 h1 hak.dt.lc hak.dt.cm)
  have HFI := Lib.hid hak
  clear hak
  obtain ⟨L', hL'⟩ : ∃ L, frL m' d' r' = L := ⟨_, rfl⟩
  have hLl' : L'.length = 19 := by rw [← hL']; rfl
  have hone : L'.all (·.oneCell') = true := by rw [← hL']; rfl
  have hc0 : L'[0]? = some (.int .i64 m'.k) := by rw [← hL']; rfl
  have hc10 : L'[10]? = some (.slice r'.A r'.n r'.c) := by rw [← hL']; rfl
  have hfv' : frV m' d' r' = .agg L'.toArray := by rw [← hL']; rfl
  rw [hfv'] at HC HNR HDR
  clear hL' hfv'
  have HLl' := Lib.hid hLl'
  have HO := Lib.hid hone
  have HC0 := Lib.hid hc0
  have HC10 := Lib.hid hc10
  clear hLl' hone hc0 hc10
  have hnb : nrB m' = true → m'.o ≤ 1099511627776 := fun h => by
    simp [nrB] at h; exact h.1.1.2
  obtain ⟨nb, hnb'⟩ : ∃ x, nrB m' = x := ⟨_, rfl⟩
  rw [hnb'] at hnb HNR HR
  rw [HD.out] at HDR
  obtain ⟨db, hdb'⟩ : ∃ x, drB m' ds'.length = x := ⟨_, rfl⟩
  rw [hdb'] at HDR HR
  clear hnb' hdb'
  obtain ⟨kk, hkk⟩ : ∃ x, m'.k = x := ⟨_, rfl⟩
  rw [hkk] at HK HC0
  have HNB := Lib.hid hnb
  clear hnb hkk
  have hk : (kk == 2) = (k1 == 2) := by rw [HK.out]
  obtain ⟨rA, rn, rc⟩ := r'
  cases kb with
  | false =>
    have HRR : Hid (rightB m ds rs = false) := Lib.hid (by rw [HR.out]; simp)
    go_enter Try.func42, Try.ntmps42
    go_wp2_with (first | ((with_reducible refine at_ld ?_); refine ld_fr_g _ _ (by rfl) (by rfl) HA0.out HLl.out ?_) | fail)
    refine (HC.out _).mono ?_
    rintro e w1 ⟨rfl, hb1⟩
    have hA1 := HA0.out.below hb1 (by rw [HS0.out]; omega)
    have hB1 : Below w.heap.size w w1 := HB0.out.trans (hb1.mono (by rw [HS0.out]; omega))
    have HA1 := Lib.hid hA1
    have HB1 := Lib.hid hB1
    have hp1 : w.heap.size < w1.heap.size := hA1.lt
    clear hb1 hA1 hB1
    go_wp2_with (first | ((with_reducible refine at_st ?_); refine st_at _ _ _ (by rfl) (by rfl) HA1.out HLl.out HLl'.out HO.out ?_; intro w2 hA2 hK2) | ((with_reducible refine at_ld ?_); refine ld_fr_g _ _ (by rfl) (by rfl) hA2 HLl'.out ?_) | fail)
    all_goals
      go_ret
      exact ⟨by rw [HRR.out]; rfl, hK2.below HB1.out (by omega) (fun j hj => by omega)⟩
  | true =>
    go_enter Try.func42, Try.ntmps42
    go_wp2_with (first | ((with_reducible refine at_ld ?_); refine ld_fr_g _ _ (by rfl) (by rfl) HA0.out HLl.out ?_) | fail)
    refine (HC.out _).mono ?_
    rintro e w1 ⟨rfl, hb1⟩
    have hA1 := HA0.out.below hb1 (by rw [HS0.out]; omega)
    have hB1 : Below w.heap.size w w1 := HB0.out.trans (hb1.mono (by rw [HS0.out]; omega))
    have HA1 := Lib.hid hA1
    have HB1 := Lib.hid hB1
    have hp1 : w.heap.size < w1.heap.size := hA1.lt
    clear hb1 hA1 hB1
    go_wp2_with (first | ((with_reducible refine at_st ?_); refine st_at _ _ _ (by rfl) (by rfl) HA1.out HLl.out HLl'.out HO.out ?_; intro w2 hA2 hK2) | ((with_reducible refine at_ld ?_); refine ld_fr_g _ _ (by rfl) (by rfl) hA2 HLl'.out ?_) | fail)
    have hB2 : Below w.heap.size w w2 := hK2.below HB1.out (by omega) (fun j hj => by omega)
    have hp2 : w.heap.size < w2.heap.size := hA2.lt
    have HA2 := Lib.hid hA2
    have HB2 := Lib.hid hB2
    have HF2 := Lib.hid (HFI.out.below hB2)
    clear hA2 hB2 hK2 hp1
    refine (HNR.out _).mono ?_
    rintro e w3 ⟨rfl, hb3⟩
    have hA3 := HA2.out.below hb3 hp2
    have hB3 : Below w.heap.size w w3 := HB2.out.trans (hb3.mono (by omega))
    have hp3 : w.heap.size < w3.heap.size := hA3.lt
    have HF3 := Lib.hid (HF2.out.below hb3)
    have HA3 := Lib.hid hA3
    have HB3 := Lib.hid hB3
    clear hA3 hB3 hb3
    cases nb with
    | false =>
      have HRR : Hid (rightB m ds rs = false) := Lib.hid (by rw [HR.out]; simp)
      go_wp2_with fail
      all_goals
        go_ret
        exact ⟨by rw [HRR.out]; rfl, HB3.out⟩
    | true =>
      go_wp2_with (first | ((with_reducible refine at_ld ?_); refine ld_fr_g _ _ (by rfl) (by rfl) HA3.out HLl'.out ?_) | fail)
      refine (HDR.out _ (HNB.out (by trivial))).mono ?_
      rintro e w4 ⟨rfl, hb4⟩
      have hA4 := HA3.out.below hb4 hp3
      have hB4 : Below w.heap.size w w4 := HB3.out.trans (hb4.mono (by omega))
      have HF4 := Lib.hid (HF3.out.below hb4)
      have e0 := (hA4.cell 0).trans HC0.out
      have e10 := (hA4.cell 10).trans HC10.out
      have HB4 := Lib.hid hB4
      clear hA4 hB4 hb4
      cases db with
      | false =>
        have HRR : Hid (rightB m ds rs = false) := Lib.hid (by rw [HR.out]; simp)
        go_wp2_with fail
        all_goals
          go_ret
          exact ⟨by rw [HRR.out]; rfl, HB4.out⟩
      | true =>
        cases h2 : (k1 == 2) with
        | false =>
          have hk2 : (kk == 2) = false := hk.trans h2
          have hk3 : (kk != 2) = true := by simp only [bne, hk2]; rfl
          have HRR : Hid (rightB m ds rs = true) := Lib.hid (by rw [HR.out]; simp [bne, h2])
          clear hk h2
          go_wp2_with fail
          all_goals
            go_ret
            exact ⟨by rw [HRR.out]; rfl, HB4.out⟩
        | true =>
          have hk2 : (kk == 2) = true := hk.trans h2
          have hk3 : (kk != 2) = false := by simp only [bne, hk2]; rfl
          have HRR : Hid (rightB m ds rs = rrB rs') := Lib.hid (by rw [HR.out]; simp [bne, h2])
          clear hk h2
          go_wp2_with fail
          refine (rr_any _ ⟨rA, rn, rc⟩ _ _ HF4.out.rg).mono ?_
          rintro e w5 ⟨rfl, hb5⟩
          go_wp2_with fail
          all_goals
            go_ret
            exact ⟨by rw [HRR.out]; rfl, HB4.out.trans (hb5.mono HB4.out.size)⟩
end
section
set_option linter.unusedVariables false
open Go.RowKit
end
end Go.Proofs.Ytohahkjikhpamaa
