/-
  inbuf.Buffer: Ready, Whole.
-/
import Derived.Test.YthgbnknahnaemaaIe
import Derived.BigRegion
import Derived.BigQuiet
import Derived.Deep.RegionHeld3
namespace Go.Proofs.Ythgbnknahnaemaa
set_option linter.unusedVariables false
set_option linter.unusedSimpArgs false
open Go.RowKit
set_option maxHeartbeats 4000000 in
set_option maxRecDepth 100000 in
theorem iready_any (base p : Nat) (O : Nat → Prop) (S : BS) (w : World) (h : Bf w base p O S) (hok : S.ok) (k : Nat) (hk : IsR S.g S.rd k) :
    Calls Try.prog 10 #[.pointer (some ⟨p, 0, none⟩)] w fun e w' => e = .returned (.int .i64 k) ∧ Below w.heap.size w w' := by
  obtain ⟨ps, vs, vw, l, W, _, hc⟩ := h
  have h0 := hc.c0
  have h1 := hc.c1
  have h4 := hc.c4
  have hG := Lib.hid (fun X (hX : Below w.heap.size w X) => gap_any' base ps 2048 vs l X (hc.set_.below hX) (by have := hc.pm.len; omega) hc.pm.gd S.rd S.hi)
  have HP : Hid (p < w.heap.size) := Lib.hid hc.at_.lt
  have hrd : S.rd ≤ 1099511628288 := by have := hok.rh; have := hok.hm; omega
  have hhi : S.hi ≤ 1099511628288 := hok.hm
  have hrh := hok.rh
  rcases gap_cases hc.pm.gd S.rd S.hi with ⟨hV, hall⟩ | ⟨a, e, hV, hfa, hae, heE, hall, hnone⟩
  · rw [hV] at hG
    have hkk : S.hi - S.rd = k := IsR.uniq ⟨fun i hi => by rw [← hc.pm.has _ (by omega)]; exact hall _ (by omega) (by omega), by rw [show S.rd + (S.hi - S.rd) = S.hi by omega]; exact hok.no _ (Nat.le_refl _)⟩ hk
    have hz : (S.hi : Int) - (S.rd : Int) = (k : Int) := by omega
    have hkb : k ≤ 1099511628288 := by omega
    clear hall hV hc hok hk
    have hX1 : Below w.heap.size w (w.alloc (.cells #[.int .u64 0, .int .u64 0] 57)).drew := ((Below.refl _ w).alloc (Nat.le_refl _) _).drew
    have hX0 : Below w.heap.size w w.drew := (Below.refl _ w).drew
    have hN1 : At (w.alloc (.cells #[.int .u64 0, .int .u64 0] 57)).drew w.heap.size 57 [.int .u64 0, .int .u64 0] := At.new w _ _
    have HG1 := Lib.hid (hG.out _ hX1)
    have HG0 := Lib.hid (hG.out _ hX0)
    have HX := Lib.hid (And.intro hX0 hX1)
    have HN := Lib.hid hN1
    clear hX0 hX1 hN1 hG
    have KEEP : Hid (∀ W, Below w.heap.size w W → Below w.heap.size w W ∧ W.cell? ⟨p, 4, none⟩ = some (.pointer (some ⟨ps, 0, none⟩)) ∧ W.cell? ⟨p, 0, none⟩ = some (.int .u64 S.rd)) := Lib.hid (fun W hW => ⟨hW, (hW.cell (p := ⟨p, 4, none⟩) HP.out).trans h4, (hW.cell (p := ⟨p, 0, none⟩) HP.out).trans h0⟩)
    go_enter Try.func10, Try.ntmps10
    go_wp2
    go_region_held3 (fun W => Below w.heap.size w W ∧ W.cell? ⟨p, 4, none⟩ = some (.pointer (some ⟨ps, 0, none⟩)) ∧ W.cell? ⟨p, 0, none⟩ = some (.int .u64 S.rd)) (first | exact ⟨(Below.refl _ w).drew, h4, h0⟩ | exact ⟨((Below.refl _ w).drew.alloc (Nat.le_refl _) _), (World.cell?_alloc_lt _ _ _ HP.out).trans h4, (World.cell?_alloc_lt _ _ _ HP.out).trans h0⟩ | exact KEEP.out _ HB.out | exact KEEP.out _ (HB.out.alloc HB.out.size _) | exact KEEP.out _ ((HB.out.setCell (Nat.le_refl _) _).setCell (Nat.le_refl _) _)) ((go_at_call 24; first | ((with_reducible refine HG0.out.mono ?_); rintro e w2 ⟨rfl, hB2⟩; have HB := Lib.hid (HX.out.1.trans hB2); clear hB2) | ((with_reducible refine HG1.out.mono ?_); rintro e w2 ⟨rfl, hB2⟩; have hA2 := HN.out.below hB2 (by simp); have d0 := hA2.cell 0; have d1 := hA2.cell 1; have f0 := hA2.frozen 0; have f1 := hA2.frozen 1; simp at d0 d1; have HB := Lib.hid (HX.out.2.trans (hB2.mono HX.out.2.size)); clear hB2 hA2)))
    all_goals go_wp2
    all_goals go_ret
    all_goals (refine ⟨by first | rfl | simp [hz], ?_⟩; first | exact HB.out | exact HB.out.alloc HB.out.size _ | exact (HB.out.setCell (Nat.le_refl _) _).setCell (Nat.le_refl _) _ | exact HB.out.setCell (Nat.le_refl _) _)
  · rw [hV] at hG
    have hkk : a - S.rd = k := IsR.uniq ⟨fun i hi => by rw [← hc.pm.has _ (by omega)]; exact hall _ (by omega) (by omega), by
      have := hnone a (Nat.le_refl _) hae
      rw [hc.pm.has _ (by omega)] at this
      rw [show S.rd + (a - S.rd) = a by omega]
      cases hq : S.g a with
      | none => rfl
      | some x => rw [hq] at this; cases this⟩ hk
    have hz : (a : Int) - (S.rd : Int) = (k : Int) := by omega
    have hkb : k ≤ 1099511628288 := by omega
    clear hall hV hc hok hk hnone
    have hX1 : Below w.heap.size w (w.alloc (.cells #[.int .u64 0, .int .u64 0] 57)).drew := ((Below.refl _ w).alloc (Nat.le_refl _) _).drew
    have hX0 : Below w.heap.size w w.drew := (Below.refl _ w).drew
    have hN1 : At (w.alloc (.cells #[.int .u64 0, .int .u64 0] 57)).drew w.heap.size 57 [.int .u64 0, .int .u64 0] := At.new w _ _
    have HG1 := Lib.hid (hG.out _ hX1)
    have HG0 := Lib.hid (hG.out _ hX0)
    have HX := Lib.hid (And.intro hX0 hX1)
    have HN := Lib.hid hN1
    clear hX0 hX1 hN1 hG
    have KEEP : Hid (∀ W, Below w.heap.size w W → Below w.heap.size w W ∧ W.cell? ⟨p, 4, none⟩ = some (.pointer (some ⟨ps, 0, none⟩)) ∧ W.cell? ⟨p, 0, none⟩ = some (.int .u64 S.rd)) := Lib.hid (fun W hW => ⟨hW, (hW.cell (p := ⟨p, 4, none⟩) HP.out).trans h4, (hW.cell (p := ⟨p, 0, none⟩) HP.out).trans h0⟩)
    go_enter Try.func10, Try.ntmps10
    go_wp2
    go_region_held3 (fun W => Below w.heap.size w W ∧ W.cell? ⟨p, 4, none⟩ = some (.pointer (some ⟨ps, 0, none⟩)) ∧ W.cell? ⟨p, 0, none⟩ = some (.int .u64 S.rd)) (first | exact ⟨(Below.refl _ w).drew, h4, h0⟩ | exact ⟨((Below.refl _ w).drew.alloc (Nat.le_refl _) _), (World.cell?_alloc_lt _ _ _ HP.out).trans h4, (World.cell?_alloc_lt _ _ _ HP.out).trans h0⟩ | exact KEEP.out _ HB.out | exact KEEP.out _ (HB.out.alloc HB.out.size _) | exact KEEP.out _ ((HB.out.setCell (Nat.le_refl _) _).setCell (Nat.le_refl _) _)) ((go_at_call 24; first | ((with_reducible refine HG0.out.mono ?_); rintro e w2 ⟨rfl, hB2⟩; have HB := Lib.hid (HX.out.1.trans hB2); clear hB2) | ((with_reducible refine HG1.out.mono ?_); rintro e w2 ⟨rfl, hB2⟩; have hA2 := HN.out.below hB2 (by simp); have d0 := hA2.cell 0; have d1 := hA2.cell 1; have f0 := hA2.frozen 0; have f1 := hA2.frozen 1; simp at d0 d1; have HB := Lib.hid (HX.out.2.trans (hB2.mono HX.out.2.size)); clear hB2 hA2)))
    all_goals go_wp2
    all_goals go_ret
    all_goals (refine ⟨by first | rfl | simp [hz], ?_⟩; first | exact HB.out | exact HB.out.alloc HB.out.size _ | exact (HB.out.setCell (Nat.le_refl _) _).setCell (Nat.le_refl _) _ | exact HB.out.setCell (Nat.le_refl _) _)
set_option maxHeartbeats 4000000 in
set_option maxRecDepth 100000 in
theorem iwhole_any (base p : Nat) (O : Nat → Prop) (S : BS) (w : World) (h : Bf w base p O S) (hok : S.ok) (k : Nat) (hk : IsR S.g S.rd k) :
    Calls Try.prog 15 #[.pointer (some ⟨p, 0, none⟩)] w fun e w' => e = .returned (.bool (S.en && decide (S.rd + k = S.fi))) ∧ Below w.heap.size w w' := by
  have HR := Lib.hid (fun X (hX : Below w.heap.size w X) => iready_any base p O S X (h.below hX) hok k hk)
  obtain ⟨ps, vs, vw, l, W, _, hc⟩ := h
  have h0 := hc.c0
  have h2 := hc.c2
  have h3 := hc.c3
  have HP : Hid (p < w.heap.size) := Lib.hid hc.at_.lt
  have hkb := hk.le hok
  have hhi := hok.hm
  clear hok hk hc
  obtain ⟨rd, hi, fi, en, g⟩ := S
  simp only at *
  cases en
  · go_enter Try.func15, Try.ntmps15
    go_wp2
    go_quiet (fail)
    go_wp2
    go_ret
    exact ⟨rfl, ⟨rfl, rfl, rfl, Nat.le_refl _, fun _ _ => rfl⟩⟩
  · have KEEP : Hid (∀ W, Below w.heap.size w W → Below w.heap.size w W ∧ W.cell? ⟨p, 0, none⟩ = some (.int .u64 rd) ∧ W.cell? ⟨p, 2, none⟩ = some (.int .u64 fi) ∧ W.cell? ⟨p, 3, none⟩ = some (.bool true)) := Lib.hid (fun W hW => ⟨hW, (hW.cell (p := ⟨p, 0, none⟩) HP.out).trans h0, (hW.cell (p := ⟨p, 2, none⟩) HP.out).trans h2, (hW.cell (p := ⟨p, 3, none⟩) HP.out).trans h3⟩)
    have HX0 : Hid (Below w.heap.size w w.drew) := Lib.hid (Below.refl _ w).drew
    have HR0 := Lib.hid (HR.out _ HX0.out)
    have hww : Hid (IntKind.u64.wrap ((rd : Int) + IntKind.u64.wrap (k : Int)) = ((rd + k : Nat) : Int)) := Lib.hid (by rw [IntKind.wrap_u64, IntKind.wrap_u64]; omega)
    have hrk : (rd : Int) + (k : Int) = ((rd + k : Nat) : Int) := by omega
    have hkb2 : rd + k ≤ 1099511628288 := by omega
    have hQ : Hid (∀ b : Bool, b = decide (rd + k = fi) → (Ending.returned (.bool b) = .returned (.bool (true && decide (rd + k = fi))))) := Lib.hid (fun b h => by rw [h, Bool.true_and])
    go_enter Try.func15, Try.ntmps15
    go_wp2
    go_region_held3 (fun W => Below w.heap.size w W ∧ W.cell? ⟨p, 0, none⟩ = some (.int .u64 rd) ∧ W.cell? ⟨p, 2, none⟩ = some (.int .u64 fi) ∧ W.cell? ⟨p, 3, none⟩ = some (.bool true)) (first | exact KEEP.out _ HX0.out | exact KEEP.out _ HB.out) ((go_at_call 10; (with_reducible refine HR0.out.mono ?_); rintro e w2 ⟨rfl, hB2⟩; have HB := Lib.hid (HX0.out.trans hB2); clear hB2))
    all_goals go_wp2
    all_goals go_ret
    all_goals (refine ⟨hQ.out _ ?_, HB.out⟩)
    all_goals (first | rw [hww.out] | skip)
    all_goals (rw [Bool.eq_iff_iff]; simp; try omega)
end Go.Proofs.Ythgbnknahnaemaa
