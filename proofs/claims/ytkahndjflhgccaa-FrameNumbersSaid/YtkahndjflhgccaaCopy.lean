/-
  frame.Copy.
-/
import Derived.Test.YtkahndjflhgccaaSclone
import Derived.Test.YtkahndjflhgccaaMe
import Derived.Test.YtkahndjflhgccaaMg
namespace Go.Proofs.Ytkahndjflhgccaa
set_option linter.unusedVariables false
set_option linter.unusedSimpArgs false
open Go.RowKit
/-- .. and the bytes are the call's own. -/
def CopyPost2 (a : FN) (da : List Int) (ra : RS) (w : World) (e : Ending) (w' : World) : Prop :=
  ∃ d' r', e = .returned (frV a d' r') ∧ Fits w' (fun b => w.heap.size ≤ b) a d' r' da ra ∧ Below w.heap.size w w' ∧ Own w' w.heap.size 5 (.slice d'.A d'.n d'.c) da
theorem frL_sets (a : FN) (d r d' r' : Sl) : ((frL a d r).set 3 (.slice d'.A d'.n d'.c)).set 10 (.slice r'.A r'.n r'.c) = frL a d' r' := rfl
set_option maxRecDepth 100000 in
set_option maxHeartbeats 2000000 in
theorem copy2_any (P : Nat → Prop) (m : FN) (d0 r0 : Sl) (ds : List Int) (rs : RS) (w : World) (hf : Fits w P m d0 r0 ds rs) (hld' : (askDs m.k ds).length ≤ 100000) (hlr' : (askRs m.k rs).length ≤ 100000) :
    Calls Try.prog 25 #[frV m d0 r0] w (CopyPost2 (askN m) (askDs m.k ds) (askRs m.k rs) w) := by
  have hak := hf.ask
  have hC := asked_any m d0 r0
  unfold AskedPost at hC
  obtain ⟨a, ha⟩ : ∃ x, askN m = x := ⟨_, rfl⟩
  obtain ⟨d, hd⟩ : ∃ x, askD m.k d0 = x := ⟨_, rfl⟩
  obtain ⟨r, hr⟩ : ∃ x, askR m.k r0 = x := ⟨_, rfl⟩
  obtain ⟨da, hda⟩ : ∃ x, askDs m.k ds = x := ⟨_, rfl⟩
  obtain ⟨ra, hra⟩ : ∃ x, askRs m.k rs = x := ⟨_, rfl⟩
  obtain ⟨ka0, hka0⟩ : ∃ x, knownB m.k = x := ⟨_, rfl⟩
  rw [ha, hd, hr, hda, hra] at hak
  rw [ha, hd, hr, hka0] at hC
  rw [hda] at hld'
  rw [hra] at hlr'
  rw [ha, hda, hra]
  clear ha hd hr hda hra hka0 hf
  have hdn : d.n ≤ 100000 := by rw [← hak.dt.rd.len]; exact hld'
  have hrn : r.n ≤ 100000 := by rw [← hak.rg.rd.1]; exact hlr'
  obtain ⟨M, hM⟩ : ∃ L, frL m d0 r0 = L := ⟨_, rfl⟩
  have hMl : M.length = 19 := by rw [← hM]; rfl
  have hMv : frV m d0 r0 = .agg M.toArray := by rw [← hM]; rfl
  rw [hMv] at hC ⊢
  clear hM hMv
  obtain ⟨dA, dn, dc⟩ := d
  obtain ⟨rA, rn, rc⟩ := r
  simp only at hdn hrn
  have hsets := fun (d' r' : Sl) => frL_sets a ⟨dA, dn, dc⟩ ⟨rA, rn, rc⟩ d' r'
  obtain ⟨L, hL⟩ : ∃ L, frL a ⟨dA, dn, dc⟩ ⟨rA, rn, rc⟩ = L := ⟨_, rfl⟩
  have hLl : L.length = 19 := by rw [← hL]; rfl
  have hLo : L.all (·.oneCell') = true := by rw [← hL]; rfl
  have hL3 : L[3]? = some (.slice dA dn dc) := by rw [← hL]; rfl
  have hL10 : L[10]? = some (.slice rA rn rc) := by rw [← hL]; rfl
  have hLv : frV a ⟨dA, dn, dc⟩ ⟨rA, rn, rc⟩ = .agg L.toArray := by rw [← hL]; rfl
  rw [hLv] at hC
  rw [hL] at hsets
  clear hL hLv
  have HC := Lib.hid hC
  have HAK := Lib.hid hak
  have HMl := Lib.hid hMl
  have HLl := Lib.hid hLl
  have HLO := Lib.hid hLo
  have HSETS := Lib.hid hsets
  have HL3 := Lib.hid hL3
  have HL10 := Lib.hid hL10
  clear hC hak hMl hLl hLo hsets hL3 hL10 hld' hlr'
  have hP0 := fun o => (At.new w 31 M).alloc o
  go_enter Try.func25, Try.ntmps25
  go_wp2_with (first | ((with_reducible refine at_ld ?_); refine ld_fr_g _ _ (by rfl) (by rfl) (hP0 _) HMl.out ?_) | fail)
  refine (HC.out _).mono ?_
  rintro e w1 ⟨rfl, hb1⟩
  have hP1 := (hP0 _).below hb1 (hP0 _).lt
  have hQ1 := (At.new_ _ _ _ (by simp : w.heap.size + 1 = (w.alloc (.cells M.toArray 31)).heap.size)).below hb1 (by simp)
  have hB1 : Below w.heap.size w w1 := (((Below.refl _ w).alloc (Nat.le_refl _) (.cells M.toArray 31)).alloc (by simp) _).trans (hb1.mono (by simp; omega))
  obtain ⟨Z, hQ1, hZl⟩ : ∃ Z : List Value, At w1 (w.heap.size + 1) 31 Z ∧ Z.length = 19 := ⟨_, hQ1, rfl⟩
  have HP1 := Lib.hid hP1
  have HQ1 := Lib.hid hQ1
  have HB1 := Lib.hid hB1
  have HZl := Lib.hid hZl
  clear hb1 hP0 hP1 hQ1 hB1 hZl
  go_wp2_with (first | ((with_reducible refine at_st ?_); refine st_at _ _ _ (by rfl) (by rfl) HP1.out HMl.out HLl.out HLO.out ?_; intro w2 hP2 hK2; have e3 := (hP2.cell 3).trans HL3.out) | fail)
  have hB2 : Below w.heap.size w w2 := hK2.below HB1.out (by have := HP1.out.lt; omega) (fun j hj => by omega)
  have hQ2 := HQ1.out.kept hK2 (by omega)
  have hF2 := HAK.out.below hB2
  have hs2 : w.heap.size ≤ w2.heap.size := hB2.size
  refine (clone_any dA dn dc da _ hF2.dt.rd.1 (by omega) hF2.dt.nil).mono ?_
  rintro e w3 ⟨v3, rfl, hown3, hb3⟩
  obtain ⟨A3, n3, c3, rfl⟩ := hown3.shape
  have hP3 := hP2.below hb3 hP2.lt
  have hQ3 := hQ2.below hb3 hQ2.lt
  have hB3 := hB2.trans (hb3.mono hs2)
  have hp2 := hP2.lt
  have hq2 := hQ2.lt
  have e3' := (hP3.cell 3).trans HL3.out
  have f3 := hP3.frozen 3
  have e10 := (hP3.cell 10).trans HL10.out
  have hP4 := hP3.set 3 (.slice A3 n3 c3)
  have e10' : (w3.setCell ⟨w.heap.size, 3, none⟩ (.slice A3 n3 c3)).cell? ⟨w.heap.size, 10, none⟩ = some (.slice rA rn rc) := by rw [hP4.cell 10, List.getElem?_set_ne (by omega)]; exact HL10.out
  have hK4 : Kept (· = w.heap.size) w3 (w3.setCell ⟨w.heap.size, 3, none⟩ (.slice A3 n3 c3)) := (Kept.refl _ _).setAt _ _
  have hQ4 := hQ3.kept hK4 (by omega)
  have hB4 := hK4.below hB3 hB3.size (fun j hj => by omega)
  have hF4 := HAK.out.below hB4
  have hs4 := hK4.size
  have hs3 := hb3.size
  have hown4 := hown3.keep (fun k hk => hK4.block k (hown3.block_lt k hk).2 (by have := (hown3.block_lt k hk).1; omega))
  clear hP2 hQ2 hK2 hF2 hB2 hQ3 hB3 hown3 hb3 e3
  go_wp2_with fail
  obtain ⟨w4, hw4⟩ : ∃ x, w3.setCell ⟨w.heap.size, 3, none⟩ (.slice A3 n3 c3) = x := ⟨_, rfl⟩
  rw [hw4] at hP4 e10' hK4 hQ4 hB4 hF4 hs4 hown4 ⊢
  clear hw4
  refine (sclone_any _ ⟨rA, rn, rc⟩ ra _ hF4.rg (by simp only; omega)).mono ?_
  rintro e w5 ⟨v5, rfl, hown5, hb5⟩
  obtain ⟨A5, n5, c5, rfl⟩ := hown5.shape
  have hP5 := hP4.below hb5 hP4.lt
  have hQ5 := hQ4.below hb5 hQ4.lt
  have hB5 := hB4.trans (hb5.mono hB4.size)
  have hs5 := hb5.size
  have hown4' := hown4.below hb5 (Nat.le_refl _)
  have e10'' : w5.cell? ⟨w.heap.size, 10, none⟩ = some (.slice rA rn rc) := by rw [hP5.cell 10, List.getElem?_set_ne (by omega)]; exact HL10.out
  have f10 := hP5.frozen 10
  have hP6 := hP5.set 10 (.slice A5 n5 c5)
  have hK6 : Kept (· = w.heap.size) w5 (w5.setCell ⟨w.heap.size, 10, none⟩ (.slice A5 n5 c5)) := (Kept.refl _ _).setAt _ _
  have hQ6 := hQ5.kept hK6 (by omega)
  rw [HSETS.out ⟨A3, n3, c3⟩ ⟨A5, n5, c5⟩] at hP6
  obtain ⟨L2, hL2⟩ : ∃ x, frL a ⟨A3, n3, c3⟩ ⟨A5, n5, c5⟩ = x := ⟨_, rfl⟩
  have hL2l : L2.length = 19 := by rw [← hL2]; rfl
  have hL2o : L2.all (·.oneCell') = true := by rw [← hL2]; rfl
  have hL2v : frV a ⟨A3, n3, c3⟩ ⟨A5, n5, c5⟩ = .agg L2.toArray := by rw [← hL2]; rfl
  rw [hL2] at hP6
  clear hL2
  have HL2v := Lib.hid hL2v
  have HL2l := Lib.hid hL2l
  have HL2o := Lib.hid hL2o
  clear hL2v hL2l hL2o
  go_wp2_with (first | ((with_reducible refine at_st ?_); refine st_at _ _ _ (by rfl) (by rfl) hQ6 HZl.out HL2l.out HL2o.out ?_; intro w7 hQ7 hK7) | ((with_reducible refine at_ld ?_); refine ld_fr_g _ _ (by rfl) (by rfl) hP6 HL2l.out ?_) | fail)
  refine bodyPost_ret (results_cell 2 31 (by rfl) _ 31 _ _ (by rfl) hQ7 Try.underlying31 rfl (by rw [HL2l.out]; exact fr_info)) rfl ?_
  have hl4 := hP4.lt
  have hq4 := hQ4.lt
  have hB6 := hK6.below hB5 hB5.size (fun j hj => by omega)
  have hB7 := hK7.below hB6 hB6.size (fun j hj => by omega)
  have a6 := hown4'.keep (fun k hk => hK6.block k (hown4'.block_lt k hk).2 (by have := (hown4'.block_lt k hk).1; omega))
  have a7 := a6.keep (fun k hk => hK7.block k (a6.block_lt k hk).2 (by have := (a6.block_lt k hk).1; omega))
  have b6 := hown5.keep (fun k hk => hK6.block k (hown5.block_lt k hk).2 (by have := (hown5.block_lt k hk).1; omega))
  have b7 := b6.keep (fun k hk => hK7.block k (b6.block_lt k hk).2 (by have := (b6.block_lt k hk).1; omega))
  have hd7 := a7.inD a7.len_eq
  obtain ⟨A6, c6, e6, hr7⟩ := b7.open_ _ rfl
  injection e6 with e61 e62 e63
  subst e61
  subst e63
  have hn5 : n5 = ra.length := e62
  refine ⟨⟨A3, n3, c3⟩, ⟨A5, n5, c5⟩, by rw [HL2v.out], ⟨HAK.out.wf, ⟨hd7.rd.mono (fun b _ hb => Nat.le_trans hs2 hb), hd7.lc, hd7.cm, hd7.nil⟩, ?_⟩, hB7, a7.base_ hs2⟩
  subst hn5
  exact ⟨hr7.rd.mono (fun b _ hb => by have := (b7.block_lt b hb).1; omega), hr7.lc, hr7.cm, hr7.nil⟩
end Go.Proofs.Ytkahndjflhgccaa
