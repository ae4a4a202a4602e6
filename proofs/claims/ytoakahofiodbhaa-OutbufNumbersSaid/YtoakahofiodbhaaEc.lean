/-
  Two buffers that tell the same: the law's same.
-/
import Derived.Test.YtoakahofiodbhaaDh
import Derived.Test.YtoakahofiodbhaaEb
import Derived.Test.YtoakahofiodbhaaTk
namespace Go.Proofs.Ytoakahofiodbhaa
set_option linter.unusedVariables false
set_option linter.unusedSimpArgs false
open Go.RowKit
/-- The program's buffer and the document's, in the same state, apart from each other, from block B on. -/
structure Te (B : Nat) (w : World) (p q : Nat) (S : OS) : Prop where
  ok : S.ok
  two : ∃ O1 O2 L, Of w B p O1 S ∧ Rs w B q 0 33 L O2 S ∧ ∀ j, O1 j → ¬ O2 j
  hB : B ≤ w.heap.size
  le : S.bs.length ≤ 800000
theorem Te.below {B : Nat} {w w' : World} {p q : Nat} {S : OS} (h : Te B w p q S) (k : Below w.heap.size w w') : Te B w' p q S := by
  obtain ⟨O1, O2, L, h1, h2, h3⟩ := h.two
  exact ⟨h.ok, ⟨O1, O2, L, h1.below k, h2.below k, h3⟩, Nat.le_trans h.hB k.size, h.le⟩
theorem below_dr15 (w : World) (d : Nat) : Below w.heap.size w (w.drewN d) := ⟨rfl, rfl, rfl, Nat.le_refl _, fun _ _ => rfl⟩
set_option maxHeartbeats 8000000 in
set_option maxRecDepth 100000 in
theorem same15_any (B p q : Nat) (S : OS) (w : World) (h : Te B w p q S) (limit : Nat) (hl : limit < 18446744073709551616) :
    Calls Try.prog 26 #[.pointer (some ⟨p, 0, none⟩), .pointer (some ⟨q, 0, none⟩), .int .u64 limit] w fun e w' => e = .returned (.bool true) ∧ Below w.heap.size w w' := by
  obtain ⟨O1, O2, L, hf, hr, _⟩ := h.two
  have hok := h.ok
  have hle := h.le
  have hgl := hok.gl
  have hB := h.hB
  have HW0 : Hid (∀ W, Below w.heap.size w W → Of W B p O1 S ∧ Rs W B q 0 33 L O2 S ∧ B ≤ W.heap.size) := Lib.hid (fun W hW => ⟨hf.below hW, hr.below hW, Nat.le_trans hB hW.size⟩)
  have H1 : Hid (∀ W, Below w.heap.size w W → Calls Try.prog 20 #[.pointer (some ⟨p, 0, none⟩)] W fun e w' => e = .returned (.int .u64 S.bs.length) ∧ Below W.heap.size W w') := Lib.hid (fun W hW => (olen_any (HW0.out W hW).1 (by omega)).mono fun e w' ⟨h1, d, h2⟩ => ⟨h1, by rw [h2]; exact below_dr15 W d⟩)
  have H2 : Hid (∀ W, Below w.heap.size w W → Calls Try.prog 19 #[.pointer (some ⟨p, 0, none⟩)] W fun e w' => e = .returned (.int .u64 S.gn) ∧ w' = W) := Lib.hid (fun W hW => osent_any (HW0.out W hW).1)
  have H3 : Hid (∀ W, Below w.heap.size w W → Calls Try.prog 9 #[.pointer (some ⟨p, 0, none⟩)] W fun e w' => e = .returned (.int .i64 (roomO S)) ∧ w' = W) := Lib.hid (fun W hW => oroom_any (HW0.out W hW).1 hok)
  have H4 : Hid (∀ W, Below w.heap.size w W → Calls Try.prog 36 #[.pointer (some ⟨q, 0, none⟩)] W fun e w' => e = .returned (.int .i64 (roomO S)) ∧ Below W.heap.size W w') := Lib.hid (fun W hW => (rroom_any (HW0.out W hW).2.1 hok (by omega)).mono fun e w' ⟨h1, d, h2⟩ => ⟨h1, by rw [h2]; exact below_dr15 W d⟩)
  have H5 : Hid (∀ W, Below w.heap.size w W → Calls Try.prog 17 #[.pointer (some ⟨p, 0, none⟩)] W fun e w' => e = .returned (.bool (wholeO S)) ∧ w' = W) := Lib.hid (fun W hW => owhole_any (HW0.out W hW).1 hok)
  have H6 : Hid (∀ W, Below w.heap.size w W → Calls Try.prog 37 #[.pointer (some ⟨q, 0, none⟩)] W fun e w' => e = .returned (.bool (wholeO S)) ∧ Below W.heap.size W w') := Lib.hid (fun W hW => (rwhole_any (HW0.out W hW).2.1 (by omega)).mono fun e w' ⟨h1, d, h2⟩ => ⟨h1, by rw [h2]; exact below_dr15 W d⟩)
  have H7 : Hid (∀ W, Below w.heap.size w W → Calls Try.prog 18 #[.pointer (some ⟨p, 0, none⟩), .int .u64 limit] W fun e w' => e = .returned (.bool (waitsO S limit)) ∧ Below W.heap.size W w') := Lib.hid (fun W hW => owaits_any (HW0.out W hW).1 hok (by omega) limit hl)
  have H8 : Hid (∀ W, Below w.heap.size w W → Calls Try.prog 38 #[.pointer (some ⟨q, 0, none⟩), .int .u64 limit] W fun e w' => e = .returned (.bool (waitsO S limit)) ∧ Below W.heap.size W w') := Lib.hid (fun W hW => (rwaits_any (HW0.out W hW).2.1 hok (HW0.out W hW).2.2 (by omega) limit hl).mono fun e w' ⟨h1, h2⟩ => ⟨h1, h2.below (Below.refl _ _) (Nat.le_refl _) fun _ h => h.elim⟩)
  obtain ⟨Ab, cb, Aa, ca, Ag, cg, C, A, _, hr, _, _, _⟩ := hr.open_
  have KEEP : Hid (∀ W, Below w.heap.size w W → Below w.heap.size w W ∧ W.cell? ⟨q, 0, none⟩ = some (.slice Ab S.bs.length cb) ∧ W.cell? ⟨q, 3, none⟩ = some (.int .i64 S.gn)) := Lib.hid (fun W hW => by
    have h2 := hr.below hW
    have h3 := h2.cell 3 rfl
    rw [Nat.zero_add] at h3
    exact ⟨hW, h2.c0, h3⟩)
  have wlen : IntKind.u64.wrap (S.bs.length : Int) = (S.bs.length : Int) := by rw [IntKind.wrap_u64]; omega
  have wgn : IntKind.u64.wrap (S.gn : Int) = (S.gn : Int) := by rw [IntKind.wrap_u64]; omega
  generalize roomO S = RO at *
  generalize wholeO S = WO at *
  generalize waitsO S limit = WA at *
  clear hf hr hok h HW0 hle hgl hB
  generalize S.bs.length = len at *
  generalize S.gn = gn at *
  have HB1 : Hid (Below w.heap.size w w.drew) := Lib.hid (below_dr15 w 1)
  go_enter Try.func26, Try.ntmps26
  go_wp2
  refine wp_region_held_drew (S := (fun W => Below w.heap.size w W ∧ W.cell? ⟨q, 0, none⟩ = some (.slice Ab len cb) ∧ W.cell? ⟨q, 3, none⟩ = some (.int .i64 gn))) (by kernel_rfl) (KEEP.out _ HB1.out) (fun hHeld => ?_)
  refine tkq 0 (some 7) (v := ?_) rfl (Or.inl ⟨by rfl, ?_⟩) (by assumption) ?_
  rotate_left
  · intro w hSw; (try dsimp only at hSw); go_simp; first | done | (with_reducible rfl)
  simp only [Act.put, List.setIfInBounds_toArray, List.set_cons_zero, List.set_cons_succ]
  refine tkq 2 (some 9) (v := ?_) rfl (Or.inl ⟨by rfl, ?_⟩) (by assumption) ?_
  rotate_left
  · intro w hSw; (try dsimp only at hSw); go_simp; first | done | (with_reducible rfl)
  simp only [Act.put, List.setIfInBounds_toArray, List.set_cons_zero, List.set_cons_succ]
  refine tkq 3 (some 10) (v := ?_) rfl (Or.inl ⟨by rfl, ?_⟩) (by assumption) ?_
  rotate_left
  · intro w hSw; (try dsimp only at hSw); go_simp; first | done | (with_reducible rfl)
  simp only [Act.put, List.setIfInBounds_toArray, List.set_cons_zero, List.set_cons_succ]
  refine tkq 4 (some 11) (v := ?_) rfl (Or.inl ⟨by rfl, ?_⟩) (by assumption) ?_
  rotate_left
  · intro w hSw; (try dsimp only at hSw); go_simp; first | done | (with_reducible rfl)
  simp only [Act.put, List.setIfInBounds_toArray, List.set_cons_zero, List.set_cons_succ]
  refine tkq 5 (some 12) (v := ?_) rfl (Or.inl ⟨by rfl, ?_⟩) (by assumption) ?_
  rotate_left
  · intro w hSw; (try dsimp only at hSw); go_simp; first | done | (with_reducible rfl)
  simp only [Act.put, List.setIfInBounds_toArray, List.set_cons_zero, List.set_cons_succ]
  refine tkq 6 (some 13) (v := ?_) rfl (Or.inl ⟨by rfl, ?_⟩) (by assumption) ?_
  rotate_left
  · intro w hSw; (try dsimp only at hSw); go_simp; first | done | (with_reducible rfl)
  simp only [Act.put, List.setIfInBounds_toArray, List.set_cons_zero, List.set_cons_succ]
  refine tkq 7 (some 14) (v := ?_) rfl (Or.inl ⟨by rfl, ?_⟩) (by assumption) ?_
  rotate_left
  · intro w hSw; (try dsimp only at hSw); go_simp; first | done | (with_reducible rfl)
  simp only [Act.put, List.setIfInBounds_toArray, List.set_cons_zero, List.set_cons_succ]
  refine wpAnyH_ready (rs := [1]) (by kernel_rfl) (by simp) ?_
  refine AllReadyH.cons rfl (fun K hK => ?_) AllReadyH.nil
  go_simp
  go_wp2_with (go_at_call 20; (with_reducible refine (H1.out _ hHeld.1).mono ?_); rintro e w2 ⟨rfl, h2⟩)
  have hX2 := hHeld.1.trans (h2.mono hHeld.1.size)
  refine hK.out _ _ (KEEP.out _ hX2) (fun hHeld => ?_)
  clear hK K
  refine tkq 8 (some 15) (v := ?_) rfl (Or.inl ⟨by rfl, ?_⟩) (by assumption) ?_
  rotate_left
  · intro w hSw; (try dsimp only at hSw); go_simp; first | done | (with_reducible rfl)
  simp only [Act.put, List.setIfInBounds_toArray, List.set_cons_zero, List.set_cons_succ]
  refine tkq 9 (some 16) (v := ?_) rfl (Or.inl ⟨by rfl, ?_⟩) (by assumption) ?_
  rotate_left
  · intro w hSw; (try dsimp only at hSw); go_simp; first | done | (with_reducible rfl)
  simp only [Act.put, List.setIfInBounds_toArray, List.set_cons_zero, List.set_cons_succ]
  refine tkq 10 (some 17) (v := ?_) rfl (Or.inl ⟨by rfl, ?_⟩) (by assumption) ?_
  rotate_left
  · intro w hSw; (try dsimp only at hSw); go_simp; first | done | (with_reducible rfl)
  simp only [Act.put, List.setIfInBounds_toArray, List.set_cons_zero, List.set_cons_succ]
  refine tkq 12 (some 19) (v := ?_) rfl (Or.inl ⟨by rfl, ?_⟩) (by assumption) ?_
  rotate_left
  · intro w hSw; (try dsimp only at hSw); go_simp; first | done | (with_reducible rfl)
  simp only [Act.put, List.setIfInBounds_toArray, List.set_cons_zero, List.set_cons_succ]
  refine tkq 13 (some 20) (v := ?_) rfl (Or.inl ⟨by rfl, ?_⟩) (by assumption) ?_
  rotate_left
  · intro w hSw; (try dsimp only at hSw); go_simp; first | done | (with_reducible rfl)
  simp only [Act.put, List.setIfInBounds_toArray, List.set_cons_zero, List.set_cons_succ]
  refine tkq 14 (some 21) (v := ?_) rfl (Or.inl ⟨by rfl, ?_⟩) (by assumption) ?_
  rotate_left
  · intro w hSw; (try dsimp only at hSw); go_simp; first | done | (with_reducible rfl)
  simp only [Act.put, List.setIfInBounds_toArray, List.set_cons_zero, List.set_cons_succ]
  refine tkq 15 (some 22) (v := ?_) rfl (Or.inl ⟨by rfl, ?_⟩) (by assumption) ?_
  rotate_left
  · intro w hSw; (try dsimp only at hSw); go_simp; first | done | (with_reducible rfl)
  simp only [Act.put, List.setIfInBounds_toArray, List.set_cons_zero, List.set_cons_succ]
  refine tkq 16 (some 23) (v := ?_) rfl (Or.inl ⟨by rfl, ?_⟩) (by assumption) ?_
  rotate_left
  · intro w hSw; (try dsimp only at hSw); go_simp; first | done | (with_reducible rfl)
  simp only [Act.put, List.setIfInBounds_toArray, List.set_cons_zero, List.set_cons_succ]
  refine wpAnyH_ready (rs := [11]) (by kernel_rfl) (by simp) ?_
  refine AllReadyH.cons rfl (fun K hK => ?_) AllReadyH.nil
  go_simp
  go_wp2_with (go_at_call 19; (with_reducible refine (H2.out _ hHeld.1).mono ?_); rintro e wz ⟨rfl, hwz⟩)
  (try rw [hwz])
  clear hwz wz
  refine hK.out _ _ (hHeld) (fun hHeld => ?_)
  clear hK K
  refine tkq 17 (some 24) (v := ?_) rfl (Or.inl ⟨by rfl, ?_⟩) (by assumption) ?_
  rotate_left
  · intro w hSw; (try dsimp only at hSw); go_simp; first | done | (with_reducible rfl)
  simp only [Act.put, List.setIfInBounds_toArray, List.set_cons_zero, List.set_cons_succ]
  refine tkq 18 (some 25) (v := ?_) rfl (Or.inl ⟨by rfl, ?_⟩) (by assumption) ?_
  rotate_left
  · intro w hSw; (try dsimp only at hSw); go_simp; first | done | (with_reducible rfl)
  simp only [Act.put, List.setIfInBounds_toArray, List.set_cons_zero, List.set_cons_succ]
  refine tkq 19 (some 26) (v := ?_) rfl (Or.inl ⟨by rfl, ?_⟩) (by assumption) ?_
  rotate_left
  · intro w hSw; (try dsimp only at hSw); go_simp; first | done | (with_reducible rfl)
  simp only [Act.put, List.setIfInBounds_toArray, List.set_cons_zero, List.set_cons_succ]
  refine tkq 20 (some 27) (v := ?_) rfl (Or.inl ⟨by rfl, ?_⟩) (by assumption) ?_
  rotate_left
  · intro w hSw; (try dsimp only at hSw); go_simp; first | done | (with_reducible rfl)
  simp only [Act.put, List.setIfInBounds_toArray, List.set_cons_zero, List.set_cons_succ]
  refine tkq 22 (some 29) (v := ?_) rfl (Or.inl ⟨by rfl, ?_⟩) (by assumption) ?_
  rotate_left
  · intro w hSw; (try dsimp only at hSw); go_simp; first | done | (with_reducible rfl)
  simp only [Act.put, List.setIfInBounds_toArray, List.set_cons_zero, List.set_cons_succ]
  refine wpAnyH_ready (rs := [21]) (by kernel_rfl) (by simp) ?_
  refine AllReadyH.cons rfl (fun K hK => ?_) AllReadyH.nil
  go_simp
  go_wp2_with (go_at_call 9; (with_reducible refine (H3.out _ hHeld.1).mono ?_); rintro e wz ⟨rfl, hwz⟩)
  (try rw [hwz])
  clear hwz wz
  refine hK.out _ _ (hHeld) (fun hHeld => ?_)
  clear hK K
  refine wpAnyH_ready (rs := [23]) (by kernel_rfl) (by simp) ?_
  refine AllReadyH.cons rfl (fun K hK => ?_) AllReadyH.nil
  go_simp
  go_wp2_with (go_at_call 36; (with_reducible refine (H4.out _ hHeld.1).mono ?_); rintro e w3 ⟨rfl, h3⟩)
  have hX3 := hHeld.1.trans (h3.mono hHeld.1.size)
  refine hK.out _ _ (KEEP.out _ hX3) (fun hHeld => ?_)
  clear hK K
  refine tkq 24 (some 31) (v := ?_) rfl (Or.inl ⟨by rfl, ?_⟩) (by assumption) ?_
  rotate_left
  · intro w hSw; (try dsimp only at hSw); go_simp; first | done | (with_reducible rfl)
  simp only [Act.put, List.setIfInBounds_toArray, List.set_cons_zero, List.set_cons_succ]
  refine tkq 25 (some 32) (v := ?_) rfl (Or.inl ⟨by rfl, ?_⟩) (by assumption) ?_
  rotate_left
  · intro w hSw; (try dsimp only at hSw); go_simp; first | done | (with_reducible rfl)
  simp only [Act.put, List.setIfInBounds_toArray, List.set_cons_zero, List.set_cons_succ]
  refine tkq 26 (some 33) (v := ?_) rfl (Or.inl ⟨by rfl, ?_⟩) (by assumption) ?_
  rotate_left
  · intro w hSw; (try dsimp only at hSw); go_simp; first | done | (with_reducible rfl)
  simp only [Act.put, List.setIfInBounds_toArray, List.set_cons_zero, List.set_cons_succ]
  refine tkq 27 (some 34) (v := ?_) rfl (Or.inl ⟨by rfl, ?_⟩) (by assumption) ?_
  rotate_left
  · intro w hSw; (try dsimp only at hSw); go_simp; first | done | (with_reducible rfl)
  simp only [Act.put, List.setIfInBounds_toArray, List.set_cons_zero, List.set_cons_succ]
  refine tkq 29 (some 36) (v := ?_) rfl (Or.inl ⟨by rfl, ?_⟩) (by assumption) ?_
  rotate_left
  · intro w hSw; (try dsimp only at hSw); go_simp; first | done | (with_reducible rfl)
  simp only [Act.put, List.setIfInBounds_toArray, List.set_cons_zero, List.set_cons_succ]
  refine wpAnyH_ready (rs := [28]) (by kernel_rfl) (by simp) ?_
  refine AllReadyH.cons rfl (fun K hK => ?_) AllReadyH.nil
  go_simp
  go_wp2_with (go_at_call 17; (with_reducible refine (H5.out _ hHeld.1).mono ?_); rintro e wz ⟨rfl, hwz⟩)
  (try rw [hwz])
  clear hwz wz
  refine hK.out _ _ (hHeld) (fun hHeld => ?_)
  clear hK K
  refine wpAnyH_ready (rs := [30]) (by kernel_rfl) (by simp) ?_
  refine AllReadyH.cons rfl (fun K hK => ?_) AllReadyH.nil
  go_simp
  go_wp2_with (go_at_call 37; (with_reducible refine (H6.out _ hHeld.1).mono ?_); rintro e w4 ⟨rfl, h4⟩)
  have hX4 := hHeld.1.trans (h4.mono hHeld.1.size)
  refine hK.out _ _ (KEEP.out _ hX4) (fun hHeld => ?_)
  clear hK K
  refine tkq 31 (some 38) (v := ?_) rfl (Or.inl ⟨by rfl, ?_⟩) (by assumption) ?_
  rotate_left
  · intro w hSw; (try dsimp only at hSw); go_simp; first | done | (with_reducible rfl)
  simp only [Act.put, List.setIfInBounds_toArray, List.set_cons_zero, List.set_cons_succ]
  refine tkq 32 (some 39) (v := ?_) rfl (Or.inl ⟨by rfl, ?_⟩) (by assumption) ?_
  rotate_left
  · intro w hSw; (try dsimp only at hSw); go_simp; first | done | (with_reducible rfl)
  simp only [Act.put, List.setIfInBounds_toArray, List.set_cons_zero, List.set_cons_succ]
  refine tkq 33 (some 40) (v := ?_) rfl (Or.inl ⟨by rfl, ?_⟩) (by assumption) ?_
  rotate_left
  · intro w hSw; (try dsimp only at hSw); go_simp; first | done | (with_reducible rfl)
  simp only [Act.put, List.setIfInBounds_toArray, List.set_cons_zero, List.set_cons_succ]
  refine tkq 34 (some 41) (v := ?_) rfl (Or.inl ⟨by rfl, ?_⟩) (by assumption) ?_
  rotate_left
  · intro w hSw; (try dsimp only at hSw); go_simp; first | done | (with_reducible rfl)
  simp only [Act.put, List.setIfInBounds_toArray, List.set_cons_zero, List.set_cons_succ]
  refine tkq 35 (some 42) (v := ?_) rfl (Or.inl ⟨by rfl, ?_⟩) (by assumption) ?_
  rotate_left
  · intro w hSw; (try dsimp only at hSw); go_simp; first | done | (with_reducible rfl)
  simp only [Act.put, List.setIfInBounds_toArray, List.set_cons_zero, List.set_cons_succ]
  refine tkq 37 (some 44) (v := ?_) rfl (Or.inl ⟨by rfl, ?_⟩) (by assumption) ?_
  rotate_left
  · intro w hSw; (try dsimp only at hSw); go_simp; first | done | (with_reducible rfl)
  simp only [Act.put, List.setIfInBounds_toArray, List.set_cons_zero, List.set_cons_succ]
  refine tkq 38 (some 45) (v := ?_) rfl (Or.inl ⟨by rfl, ?_⟩) (by assumption) ?_
  rotate_left
  · intro w hSw; (try dsimp only at hSw); go_simp; first | done | (with_reducible rfl)
  simp only [Act.put, List.setIfInBounds_toArray, List.set_cons_zero, List.set_cons_succ]
  refine wpAnyH_ready (rs := [36]) (by kernel_rfl) (by simp) ?_
  refine AllReadyH.cons rfl (fun K hK => ?_) AllReadyH.nil
  go_simp
  go_wp2_with (go_at_call 18; (with_reducible refine (H7.out _ hHeld.1).mono ?_); rintro e w5 ⟨rfl, h5⟩)
  have hX5 := hHeld.1.trans (h5.mono hHeld.1.size)
  refine hK.out _ _ (KEEP.out _ hX5) (fun hHeld => ?_)
  clear hK K
  refine wpAnyH_ready (rs := [39]) (by kernel_rfl) (by simp) ?_
  refine AllReadyH.cons rfl (fun K hK => ?_) AllReadyH.nil
  go_simp
  go_wp2_with (go_at_call 38; (with_reducible refine (H8.out _ hHeld.1).mono ?_); rintro e w6 ⟨rfl, h6⟩)
  have hX6 := hHeld.1.trans (h6.mono hHeld.1.size)
  refine hK.out _ _ (KEEP.out _ hX6) (fun hHeld => ?_)
  clear hK K
  refine tkq 40 (some 47) (v := ?_) rfl (Or.inl ⟨by rfl, ?_⟩) (by assumption) ?_
  rotate_left
  · intro w hSw; (try dsimp only at hSw); go_simp; first | done | (with_reducible rfl)
  simp only [Act.put, List.setIfInBounds_toArray, List.set_cons_zero, List.set_cons_succ]
  refine tkq 41 (some 48) (v := ?_) rfl (Or.inl ⟨by rfl, ?_⟩) (by assumption) ?_
  rotate_left
  · intro w hSw; (try dsimp only at hSw); go_simp; first | done | (with_reducible rfl)
  simp only [Act.put, List.setIfInBounds_toArray, List.set_cons_zero, List.set_cons_succ]
  refine tkq 42 (some 6) (v := ?_) rfl (Or.inl ⟨by rfl, ?_⟩) (by assumption) ?_
  rotate_left
  · intro w hSw; (try dsimp only at hSw); go_simp; first | done | (with_reducible rfl)
  simp only [Act.put, List.setIfInBounds_toArray, List.set_cons_zero, List.set_cons_succ]
  refine wpAnyH_done (by kernel_rfl) ?_ _
  go_wp2
  go_ret
  exact ⟨by first | rfl | simp, hHeld.1⟩
end Go.Proofs.Ytoakahofiodbhaa
