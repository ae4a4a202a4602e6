/-
  Some frames (narthexlaw4.some): the walk.
-/
import Derived.Test.YtkahndjflhgccaaFns1
namespace Go.Proofs.Ytkahndjflhgccaa
set_option linter.unusedVariables false
set_option linter.unusedSimpArgs false
open Go.RowKit
set_option maxRecDepth 100000 in
set_option maxHeartbeats 16000000 in
theorem some_any (w : World) : Calls Try.prog 7 #[] w fun e w' => ∃ A L, e = .returned (.slice A 39 39) ∧ FrsP w' AnyB A 39 L ∧ Below w.heap.size w w' := by
  obtain ⟨i0, hi0, hz0, hz1, hz2⟩ := info_parts u8_info
  have hI := u64_info
  obtain ⟨j0, hj⟩ : ∃ i, Try.prog.info? 25 = some i := by
    cases hq : Try.prog.info? 25 with
    | none => rw [hq] at hI; cases hI
    | some i => exact ⟨i, rfl⟩
  rw [hj] at hI
  simp only [Option.map_some, Option.some.injEq, Prod.mk.injEq] at hI
  obtain ⟨hy0, hy1, hy2⟩ := hI
  have hB0 : Below w.heap.size w w.drew := belowN (Below.refl _ _) 1
  go_enter Try.func7, Try.ntmps7
  go_wp2_with fail
  dsimp only [List.append]
  refine wp_region_held_drew (S := (fun _ => True)) (by kernel_rfl) trivial (fun hHeld => ?_)
  obtain ⟨Y, hY⟩ : ∃ x, w.drew = x := ⟨_, rfl⟩
  rw [hY] at hB0 ⊢
  clear hY
  refine tkq 0 (some 2) (v := ?_) rfl (Or.inl ⟨by rfl, ?_⟩) (by assumption) ?_
  rotate_left
  · intro w hSw; (try dsimp only at hSw); go_simp; first | done | (with_reducible rfl)
  simp only [Act.put, List.setIfInBounds_toArray, List.set_cons_zero, List.set_cons_succ]
  refine tkq 1 (some 3) (v := ?_) rfl (Or.inl ⟨by rfl, ?_⟩) (by assumption) ?_
  rotate_left
  · intro w hSw; (try dsimp only at hSw); go_simp; first | done | (with_reducible rfl)
  simp only [Act.put, List.setIfInBounds_toArray, List.set_cons_zero, List.set_cons_succ]
  refine tkq 2 (some 4) (v := ?_) rfl (Or.inl ⟨by rfl, ?_⟩) (by assumption) ?_
  rotate_left
  · intro w hSw; (try dsimp only at hSw); go_simp; first | done | (with_reducible rfl)
  simp only [Act.put, List.setIfInBounds_toArray, List.set_cons_zero, List.set_cons_succ]
  refine tkq 3 (some 5) (v := ?_) rfl (Or.inl ⟨by rfl, ?_⟩) (by assumption) ?_
  rotate_left
  · intro w hSw; (try dsimp only at hSw); go_simp; first | done | (with_reducible rfl)
  simp only [Act.put, List.setIfInBounds_toArray, List.set_cons_zero, List.set_cons_succ]
  refine tkq 4 (some 6) (v := ?_) rfl (Or.inl ⟨by rfl, ?_⟩) (by assumption) ?_
  rotate_left
  · intro w hSw; (try dsimp only at hSw); go_simp; first | done | (with_reducible rfl)
  simp only [Act.put, List.setIfInBounds_toArray, List.set_cons_zero, List.set_cons_succ]
  refine tkq 5 (some 7) (v := ?_) rfl (Or.inl ⟨by rfl, ?_⟩) (by assumption) ?_
  rotate_left
  · intro w hSw; (try dsimp only at hSw); go_simp; first | done | (with_reducible rfl)
  simp only [Act.put, List.setIfInBounds_toArray, List.set_cons_zero, List.set_cons_succ]
  refine tkq 6 (some 8) (v := ?_) rfl (Or.inl ⟨by rfl, ?_⟩) (by assumption) ?_
  rotate_left
  · intro w hSw; (try dsimp only at hSw); go_simp; first | done | (with_reducible rfl)
  simp only [Act.put, List.setIfInBounds_toArray, List.set_cons_zero, List.set_cons_succ]
  refine tkq 7 (some 9) (v := ?_) rfl (Or.inl ⟨by rfl, ?_⟩) (by assumption) ?_
  rotate_left
  · intro w hSw; (try dsimp only at hSw); go_simp; first | done | (with_reducible rfl)
  simp only [Act.put, List.setIfInBounds_toArray, List.set_cons_zero, List.set_cons_succ]
  refine tkq 10 (some 12) (v := ?_) rfl (Or.inl ⟨by rfl, ?_⟩) (by assumption) ?_
  rotate_left
  · intro w hSw; (try dsimp only at hSw); go_simp; first | done | (with_reducible rfl)
  simp only [Act.put, List.setIfInBounds_toArray, List.set_cons_zero, List.set_cons_succ]
  refine tkq 13 (some 15) (v := ?_) rfl (Or.inl ⟨by rfl, ?_⟩) (by assumption) ?_
  rotate_left
  · intro w hSw; (try dsimp only at hSw); go_simp; first | done | (with_reducible rfl)
  simp only [Act.put, List.setIfInBounds_toArray, List.set_cons_zero, List.set_cons_succ]
  refine tkq 14 (some 16) (v := ?_) rfl (Or.inl ⟨by rfl, ?_⟩) (by assumption) ?_
  rotate_left
  · intro w hSw; (try dsimp only at hSw); go_simp; first | done | (with_reducible rfl)
  simp only [Act.put, List.setIfInBounds_toArray, List.set_cons_zero, List.set_cons_succ]
  refine tkq 17 (some 19) (v := ?_) rfl (Or.inl ⟨by rfl, ?_⟩) (by assumption) ?_
  rotate_left
  · intro w hSw; (try dsimp only at hSw); go_simp; first | done | (with_reducible rfl)
  simp only [Act.put, List.setIfInBounds_toArray, List.set_cons_zero, List.set_cons_succ]
  refine tkq 18 (some 20) (v := ?_) rfl (Or.inl ⟨by rfl, ?_⟩) (by assumption) ?_
  rotate_left
  · intro w hSw; (try dsimp only at hSw); go_simp; first | done | (with_reducible rfl)
  simp only [Act.put, List.setIfInBounds_toArray, List.set_cons_zero, List.set_cons_succ]
  refine tkq 21 (some 23) (v := ?_) rfl (Or.inl ⟨by rfl, ?_⟩) (by assumption) ?_
  rotate_left
  · intro w hSw; (try dsimp only at hSw); go_simp; first | done | (with_reducible rfl)
  simp only [Act.put, List.setIfInBounds_toArray, List.set_cons_zero, List.set_cons_succ]
  refine tkq 22 (some 24) (v := ?_) rfl (Or.inl ⟨by rfl, ?_⟩) (by assumption) ?_
  rotate_left
  · intro w hSw; (try dsimp only at hSw); go_simp; first | done | (with_reducible rfl)
  simp only [Act.put, List.setIfInBounds_toArray, List.set_cons_zero, List.set_cons_succ]
  refine tkq 23 (some 25) (v := ?_) rfl (Or.inl ⟨by rfl, ?_⟩) (by assumption) ?_
  rotate_left
  · intro w hSw; (try dsimp only at hSw); go_simp; first | done | (with_reducible rfl)
  simp only [Act.put, List.setIfInBounds_toArray, List.set_cons_zero, List.set_cons_succ]
  refine tkq 29 (some 31) (v := ?_) rfl (Or.inl ⟨by rfl, ?_⟩) (by assumption) ?_
  rotate_left
  · intro w hSw; (try dsimp only at hSw); go_simp; first | done | (with_reducible rfl)
  simp only [Act.put, List.setIfInBounds_toArray, List.set_cons_zero, List.set_cons_succ]
  refine tkq 30 (some 32) (v := ?_) rfl (Or.inl ⟨by rfl, ?_⟩) (by assumption) ?_
  rotate_left
  · intro w hSw; (try dsimp only at hSw); go_simp; first | done | (with_reducible rfl)
  simp only [Act.put, List.setIfInBounds_toArray, List.set_cons_zero, List.set_cons_succ]
  refine tkq 31 (some 33) (v := ?_) rfl (Or.inl ⟨by rfl, ?_⟩) (by assumption) ?_
  rotate_left
  · intro w hSw; (try dsimp only at hSw); go_simp; first | done | (with_reducible rfl)
  simp only [Act.put, List.setIfInBounds_toArray, List.set_cons_zero, List.set_cons_succ]
  refine tkq 32 (some 34) (v := ?_) rfl (Or.inl ⟨by rfl, ?_⟩) (by assumption) ?_
  rotate_left
  · intro w hSw; (try dsimp only at hSw); go_simp; first | done | (with_reducible rfl)
  simp only [Act.put, List.setIfInBounds_toArray, List.set_cons_zero, List.set_cons_succ]
  refine tkq 33 (some 35) (v := ?_) rfl (Or.inl ⟨by rfl, ?_⟩) (by assumption) ?_
  rotate_left
  · intro w hSw; (try dsimp only at hSw); go_simp; first | done | (with_reducible rfl)
  simp only [Act.put, List.setIfInBounds_toArray, List.set_cons_zero, List.set_cons_succ]
  refine tkq 34 (some 36) (v := ?_) rfl (Or.inl ⟨by rfl, ?_⟩) (by assumption) ?_
  rotate_left
  · intro w hSw; (try dsimp only at hSw); go_simp; first | done | (with_reducible rfl)
  simp only [Act.put, List.setIfInBounds_toArray, List.set_cons_zero, List.set_cons_succ]
  refine tkq 35 (some 37) (v := ?_) rfl (Or.inl ⟨by rfl, ?_⟩) (by assumption) ?_
  rotate_left
  · intro w hSw; (try dsimp only at hSw); go_simp; first | done | (with_reducible rfl)
  simp only [Act.put, List.setIfInBounds_toArray, List.set_cons_zero, List.set_cons_succ]
  refine tkq 36 (some 38) (v := ?_) rfl (Or.inl ⟨by rfl, ?_⟩) (by assumption) ?_
  rotate_left
  · intro w hSw; (try dsimp only at hSw); go_simp; first | done | (with_reducible rfl)
  simp only [Act.put, List.setIfInBounds_toArray, List.set_cons_zero, List.set_cons_succ]
  refine tkq 37 (some 39) (v := ?_) rfl (Or.inl ⟨by rfl, ?_⟩) (by assumption) ?_
  rotate_left
  · intro w hSw; (try dsimp only at hSw); go_simp; first | done | (with_reducible rfl)
  simp only [Act.put, List.setIfInBounds_toArray, List.set_cons_zero, List.set_cons_succ]
  refine tkq 38 (some 40) (v := ?_) rfl (Or.inl ⟨by rfl, ?_⟩) (by assumption) ?_
  rotate_left
  · intro w hSw; (try dsimp only at hSw); go_simp; first | done | (with_reducible rfl)
  simp only [Act.put, List.setIfInBounds_toArray, List.set_cons_zero, List.set_cons_succ]
  refine tkq 39 (some 41) (v := ?_) rfl (Or.inl ⟨by rfl, ?_⟩) (by assumption) ?_
  rotate_left
  · intro w hSw; (try dsimp only at hSw); go_simp; first | done | (with_reducible rfl)
  simp only [Act.put, List.setIfInBounds_toArray, List.set_cons_zero, List.set_cons_succ]
  refine tkq 40 (some 42) (v := ?_) rfl (Or.inl ⟨by rfl, ?_⟩) (by assumption) ?_
  rotate_left
  · intro w hSw; (try dsimp only at hSw); go_simp; first | done | (with_reducible rfl)
  simp only [Act.put, List.setIfInBounds_toArray, List.set_cons_zero, List.set_cons_succ]
  refine tkq 47 (some 49) (v := ?_) rfl (Or.inl ⟨by rfl, ?_⟩) (by assumption) ?_
  rotate_left
  · intro w hSw; (try dsimp only at hSw); go_simp; first | done | (with_reducible rfl)
  simp only [Act.put, List.setIfInBounds_toArray, List.set_cons_zero, List.set_cons_succ]
  refine tkq 51 (some 53) (v := ?_) rfl (Or.inl ⟨by rfl, ?_⟩) (by assumption) ?_
  rotate_left
  · intro w hSw; (try dsimp only at hSw); go_simp; first | done | (with_reducible rfl)
  simp only [Act.put, List.setIfInBounds_toArray, List.set_cons_zero, List.set_cons_succ]
  refine tkq 52 (some 54) (v := ?_) rfl (Or.inl ⟨by rfl, ?_⟩) (by assumption) ?_
  rotate_left
  · intro w hSw; (try dsimp only at hSw); go_simp; first | done | (with_reducible rfl)
  simp only [Act.put, List.setIfInBounds_toArray, List.set_cons_zero, List.set_cons_succ]
  refine tkq 53 (some 55) (v := ?_) rfl (Or.inl ⟨by rfl, ?_⟩) (by assumption) ?_
  rotate_left
  · intro w hSw; (try dsimp only at hSw); go_simp; first | done | (with_reducible rfl)
  simp only [Act.put, List.setIfInBounds_toArray, List.set_cons_zero, List.set_cons_succ]
  refine tkq 54 (some 56) (v := ?_) rfl (Or.inl ⟨by rfl, ?_⟩) (by assumption) ?_
  rotate_left
  · intro w hSw; (try dsimp only at hSw); go_simp; first | done | (with_reducible rfl)
  simp only [Act.put, List.setIfInBounds_toArray, List.set_cons_zero, List.set_cons_succ]
  refine tkq 55 (some 57) (v := ?_) rfl (Or.inl ⟨by rfl, ?_⟩) (by assumption) ?_
  rotate_left
  · intro w hSw; (try dsimp only at hSw); go_simp; first | done | (with_reducible rfl)
  simp only [Act.put, List.setIfInBounds_toArray, List.set_cons_zero, List.set_cons_succ]
  refine tkq 56 (some 58) (v := ?_) rfl (Or.inl ⟨by rfl, ?_⟩) (by assumption) ?_
  rotate_left
  · intro w hSw; (try dsimp only at hSw); go_simp; first | done | (with_reducible rfl)
  simp only [Act.put, List.setIfInBounds_toArray, List.set_cons_zero, List.set_cons_succ]
  refine tkq 57 (some 59) (v := ?_) rfl (Or.inl ⟨by rfl, ?_⟩) (by assumption) ?_
  rotate_left
  · intro w hSw; (try dsimp only at hSw); go_simp; first | done | (with_reducible rfl)
  simp only [Act.put, List.setIfInBounds_toArray, List.set_cons_zero, List.set_cons_succ]
  refine tkq 58 (some 60) (v := ?_) rfl (Or.inl ⟨by rfl, ?_⟩) (by assumption) ?_
  rotate_left
  · intro w hSw; (try dsimp only at hSw); go_simp; first | done | (with_reducible rfl)
  simp only [Act.put, List.setIfInBounds_toArray, List.set_cons_zero, List.set_cons_succ]
  refine tkq 59 (some 61) (v := ?_) rfl (Or.inl ⟨by rfl, ?_⟩) (by assumption) ?_
  rotate_left
  · intro w hSw; (try dsimp only at hSw); go_simp; first | done | (with_reducible rfl)
  simp only [Act.put, List.setIfInBounds_toArray, List.set_cons_zero, List.set_cons_succ]
  refine tkq 60 (some 62) (v := ?_) rfl (Or.inl ⟨by rfl, ?_⟩) (by assumption) ?_
  rotate_left
  · intro w hSw; (try dsimp only at hSw); go_simp; first | done | (with_reducible rfl)
  simp only [Act.put, List.setIfInBounds_toArray, List.set_cons_zero, List.set_cons_succ]
  refine tkq 61 (some 63) (v := ?_) rfl (Or.inl ⟨by rfl, ?_⟩) (by assumption) ?_
  rotate_left
  · intro w hSw; (try dsimp only at hSw); go_simp; first | done | (with_reducible rfl)
  simp only [Act.put, List.setIfInBounds_toArray, List.set_cons_zero, List.set_cons_succ]
  refine tkq 62 (some 64) (v := ?_) rfl (Or.inl ⟨by rfl, ?_⟩) (by assumption) ?_
  rotate_left
  · intro w hSw; (try dsimp only at hSw); go_simp; first | done | (with_reducible rfl)
  simp only [Act.put, List.setIfInBounds_toArray, List.set_cons_zero, List.set_cons_succ]
  refine tkq 63 (some 65) (v := ?_) rfl (Or.inl ⟨by rfl, ?_⟩) (by assumption) ?_
  rotate_left
  · intro w hSw; (try dsimp only at hSw); go_simp; first | done | (with_reducible rfl)
  simp only [Act.put, List.setIfInBounds_toArray, List.set_cons_zero, List.set_cons_succ]
  refine tkq 64 (some 66) (v := ?_) rfl (Or.inl ⟨by rfl, ?_⟩) (by assumption) ?_
  rotate_left
  · intro w hSw; (try dsimp only at hSw); go_simp; first | done | (with_reducible rfl)
  simp only [Act.put, List.setIfInBounds_toArray, List.set_cons_zero, List.set_cons_succ]
  refine tkq 65 (some 67) (v := ?_) rfl (Or.inl ⟨by rfl, ?_⟩) (by assumption) ?_
  rotate_left
  · intro w hSw; (try dsimp only at hSw); go_simp; first | done | (with_reducible rfl)
  simp only [Act.put, List.setIfInBounds_toArray, List.set_cons_zero, List.set_cons_succ]
  refine tkq 66 (some 68) (v := ?_) rfl (Or.inl ⟨by rfl, ?_⟩) (by assumption) ?_
  rotate_left
  · intro w hSw; (try dsimp only at hSw); go_simp; first | done | (with_reducible rfl)
  simp only [Act.put, List.setIfInBounds_toArray, List.set_cons_zero, List.set_cons_succ]
  refine tkq 71 (some 73) (v := ?_) rfl (Or.inl ⟨by rfl, ?_⟩) (by assumption) ?_
  rotate_left
  · intro w hSw; (try dsimp only at hSw); go_simp; first | done | (with_reducible rfl)
  simp only [Act.put, List.setIfInBounds_toArray, List.set_cons_zero, List.set_cons_succ]
  refine tkq 72 (some 74) (v := ?_) rfl (Or.inl ⟨by rfl, ?_⟩) (by assumption) ?_
  rotate_left
  · intro w hSw; (try dsimp only at hSw); go_simp; first | done | (with_reducible rfl)
  simp only [Act.put, List.setIfInBounds_toArray, List.set_cons_zero, List.set_cons_succ]
  refine tkq 73 (some 75) (v := ?_) rfl (Or.inl ⟨by rfl, ?_⟩) (by assumption) ?_
  rotate_left
  · intro w hSw; (try dsimp only at hSw); go_simp; first | done | (with_reducible rfl)
  simp only [Act.put, List.setIfInBounds_toArray, List.set_cons_zero, List.set_cons_succ]
  refine tkq 74 (some 76) (v := ?_) rfl (Or.inl ⟨by rfl, ?_⟩) (by assumption) ?_
  rotate_left
  · intro w hSw; (try dsimp only at hSw); go_simp; first | done | (with_reducible rfl)
  simp only [Act.put, List.setIfInBounds_toArray, List.set_cons_zero, List.set_cons_succ]
  refine tkq 75 (some 77) (v := ?_) rfl (Or.inl ⟨by rfl, ?_⟩) (by assumption) ?_
  rotate_left
  · intro w hSw; (try dsimp only at hSw); go_simp; first | done | (with_reducible rfl)
  simp only [Act.put, List.setIfInBounds_toArray, List.set_cons_zero, List.set_cons_succ]
  refine wpAnyH_inv 78 (by kernel_rfl) (ord_of (by kernel_rfl)) (InvS w) ?_ ?_ _ _ _ _ ?_ ?_ ?_
  · intro listed a w1 i hs hi hI hr
    obtain ⟨x, rfl, hB, hpre, hP, hA⟩ := hI.ex
    have hin : i ∈ effL := by
      obtain ⟨hu, op, ho, _⟩ := mem_ready.1 hr
      have hall : (List.range 78).all (fun i => preL.contains i || effL.contains i) = true := by decide
      have h1 := List.all_eq_true.1 hall i (List.mem_range.2 hi)
      rw [Bool.or_eq_true, List.contains_iff_mem, List.contains_iff_mem] at h1
      rcases h1 with h1 | h1
      · rw [hpre i h1] at hu; cases hu
      · exact h1
    simp only [effL, List.mem_cons, List.not_mem_nil, or_false] at hin
    rcases hin with rfl | rfl | rfl | rfl | rfl | rfl | rfl | rfl | rfl | rfl | rfl | rfl | rfl | rfl | rfl | rfl | rfl | rfl | rfl | rfl | rfl | rfl | rfl | rfl | rfl | rfl | rfl | rfl
    · refine wpOp_ok (v := .slice (some ⟨w1.heap.size, 0, none⟩) 3 3) (w' := w1.alloc (.cells (rsC [(1, 2), (3, 9), (4611686018427387903, 4611686018427387904)]).toArray 60)) (some 10) rfl rfl rfl ?_ ?_
      · have e4 : (mkA x).tmps[4]? = some (.agg #[.int .u64 1, .int .u64 2]) := rfl; have e5 : (mkA x).tmps[5]? = some (.agg #[.int .u64 3, .int .u64 9]) := rfl; have e9 : (mkA x).tmps[9]? = some (.agg #[.int .u64 4611686018427387903, .int .u64 4611686018427387904]) := rfl
        go_simp
        all_goals rfl
      · refine ⟨trivial, ?_⟩
        rw [show (mkA x).put (some 10) _ = _ from put_10 x _]
        exact InvS.step (i := 8) hs (by omega) (by omega) (by omega) hB hpre hP hA ((Below.refl _ _).alloc (Nat.le_refl _) _) (show PRc _ _ from ⟨⟨some ⟨w1.heap.size, 0, none⟩, 3, 3⟩, [(1, 2), (3, 9), (4611686018427387903, 4611686018427387904)], rfl, inR_at (At.new w1 _ (rsC [(1, 2), (3, 9), (4611686018427387903, 4611686018427387904)])) (by intro r hr; simp only [List.mem_cons, List.not_mem_nil, or_false] at hr; rcases hr with rfl | rfl | rfl <;> (dsimp only; omega)) 3 rfl (by omega)⟩)
    · obtain ⟨d, rs, hx, hd⟩ := (show PRc _ _ from hP 8 (dep_of hr 8 (by kernel_rfl)))
      refine wpOp_ok (v := frV ⟨2, 0, 0, false, 0, 0, 0, 0, 5, 0, 0, 0, 0, 0, 0, 0, 0⟩ .nil d) (w' := w1) (some 11) rfl rfl rfl ?_ ?_
      · have e : (mkA x).tmps[10]? = some (.slice d.A d.n d.c) := congrArg some hx
        go_simp
        all_goals rfl
      · refine ⟨trivial, ?_⟩
        rw [show (mkA x).put (some 11) _ = _ from put_11 x _]
        exact InvS.step (i := 9) hs (by omega) (by omega) (by omega) hB hpre hP hA (Below.refl _ _) (show PFr _ _ from ⟨⟨⟨2, 0, 0, false, 0, 0, 0, 0, 5, 0, 0, 0, 0, 0, 0, 0, 0⟩, .nil, d, [], rs⟩, rfl, ⟨(by constructor <;> first | (dsimp only; omega) | (intro y hy; simp at hy; omega)), InD.nil_ _ _, hd⟩⟩)
    · refine wpOp_ok (v := .slice (some ⟨w1.heap.size, 0, none⟩) 1 1) (w' := w1.alloc (.cells (rsC [(0, 1)]).toArray 60)) (some 13) rfl rfl rfl ?_ ?_
      · have e12 : (mkA x).tmps[12]? = some (.agg #[.int .u64 0, .int .u64 1]) := rfl
        go_simp
        all_goals rfl
      · refine ⟨trivial, ?_⟩
        rw [show (mkA x).put (some 13) _ = _ from put_13 x _]
        exact InvS.step (i := 11) hs (by omega) (by omega) (by omega) hB hpre hP hA ((Below.refl _ _).alloc (Nat.le_refl _) _) (show PRc _ _ from ⟨⟨some ⟨w1.heap.size, 0, none⟩, 1, 1⟩, [(0, 1)], rfl, inR_at (At.new w1 _ (rsC [(0, 1)])) (by intro r hr; simp only [List.mem_cons, List.not_mem_nil, or_false] at hr; subst hr; (dsimp only; omega)) 1 rfl (by omega)⟩)
    · obtain ⟨d, rs, hx, hd⟩ := (show PRc _ _ from hP 11 (dep_of hr 11 (by kernel_rfl)))
      refine wpOp_ok (v := frV ⟨2, 0, 0, false, 0, 0, 0, 0, 0, 0, 0, 0, 0, 0, 0, 0, 0⟩ .nil d) (w' := w1) (some 14) rfl rfl rfl ?_ ?_
      · have e : (mkA x).tmps[13]? = some (.slice d.A d.n d.c) := congrArg some hx
        go_simp
        all_goals rfl
      · refine ⟨trivial, ?_⟩
        rw [show (mkA x).put (some 14) _ = _ from put_14 x _]
        exact InvS.step (i := 12) hs (by omega) (by omega) (by omega) hB hpre hP hA (Below.refl _ _) (show PFr _ _ from ⟨⟨⟨2, 0, 0, false, 0, 0, 0, 0, 0, 0, 0, 0, 0, 0, 0, 0, 0⟩, .nil, d, [], rs⟩, rfl, ⟨(by constructor <;> first | (dsimp only; omega) | (intro y hy; simp at hy; omega)), InD.nil_ _ _, hd⟩⟩)
    · refine wpOp_ok (v := .slice (some ⟨w1.heap.size, 0, none⟩) 2 2) (w' := w1.alloc (.cells (rsC [(1, 2), (2, 9)]).toArray 60)) (some 17) rfl rfl rfl ?_ ?_
      · have e15 : (mkA x).tmps[15]? = some (.agg #[.int .u64 1, .int .u64 2]) := rfl; have e16 : (mkA x).tmps[16]? = some (.agg #[.int .u64 2, .int .u64 9]) := rfl
        go_simp
        all_goals rfl
      · refine ⟨trivial, ?_⟩
        rw [show (mkA x).put (some 17) _ = _ from put_17 x _]
        exact InvS.step (i := 15) hs (by omega) (by omega) (by omega) hB hpre hP hA ((Below.refl _ _).alloc (Nat.le_refl _) _) (show PRc _ _ from ⟨⟨some ⟨w1.heap.size, 0, none⟩, 2, 2⟩, [(1, 2), (2, 9)], rfl, inR_at (At.new w1 _ (rsC [(1, 2), (2, 9)])) (by intro r hr; simp only [List.mem_cons, List.not_mem_nil, or_false] at hr; rcases hr with rfl | rfl <;> (dsimp only; omega)) 2 rfl (by omega)⟩)
    · obtain ⟨d, rs, hx, hd⟩ := (show PRc _ _ from hP 15 (dep_of hr 15 (by kernel_rfl)))
      refine wpOp_ok (v := frV ⟨2, 0, 0, false, 0, 0, 0, 0, 0, 0, 0, 0, 0, 0, 0, 0, 0⟩ .nil d) (w' := w1) (some 18) rfl rfl rfl ?_ ?_
      · have e : (mkA x).tmps[17]? = some (.slice d.A d.n d.c) := congrArg some hx
        go_simp
        all_goals rfl
      · refine ⟨trivial, ?_⟩
        rw [show (mkA x).put (some 18) _ = _ from put_18 x _]
        exact InvS.step (i := 16) hs (by omega) (by omega) (by omega) hB hpre hP hA (Below.refl _ _) (show PFr _ _ from ⟨⟨⟨2, 0, 0, false, 0, 0, 0, 0, 0, 0, 0, 0, 0, 0, 0, 0, 0⟩, .nil, d, [], rs⟩, rfl, ⟨(by constructor <;> first | (dsimp only; omega) | (intro y hy; simp at hy; omega)), InD.nil_ _ _, hd⟩⟩)
    · refine wpOp_ok (v := .slice (some ⟨w1.heap.size, 0, none⟩) 1 1) (w' := w1.alloc (.cells (rsC [(5, 5)]).toArray 60)) (some 21) rfl rfl rfl ?_ ?_
      · have e20 : (mkA x).tmps[20]? = some (.agg #[.int .u64 5, .int .u64 5]) := rfl
        go_simp
        all_goals rfl
      · refine ⟨trivial, ?_⟩
        rw [show (mkA x).put (some 21) _ = _ from put_21 x _]
        exact InvS.step (i := 19) hs (by omega) (by omega) (by omega) hB hpre hP hA ((Below.refl _ _).alloc (Nat.le_refl _) _) (show PRc _ _ from ⟨⟨some ⟨w1.heap.size, 0, none⟩, 1, 1⟩, [(5, 5)], rfl, inR_at (At.new w1 _ (rsC [(5, 5)])) (by intro r hr; simp only [List.mem_cons, List.not_mem_nil, or_false] at hr; subst hr; (dsimp only; omega)) 1 rfl (by omega)⟩)
    · obtain ⟨d, rs, hx, hd⟩ := (show PRc _ _ from hP 19 (dep_of hr 19 (by kernel_rfl)))
      refine wpOp_ok (v := frV ⟨2, 0, 0, false, 0, 0, 0, 0, 0, 0, 0, 0, 0, 0, 0, 0, 0⟩ .nil d) (w' := w1) (some 22) rfl rfl rfl ?_ ?_
      · have e : (mkA x).tmps[21]? = some (.slice d.A d.n d.c) := congrArg some hx
        go_simp
        all_goals rfl
      · refine ⟨trivial, ?_⟩
        rw [show (mkA x).put (some 22) _ = _ from put_22 x _]
        exact InvS.step (i := 20) hs (by omega) (by omega) (by omega) hB hpre hP hA (Below.refl _ _) (show PFr _ _ from ⟨⟨⟨2, 0, 0, false, 0, 0, 0, 0, 0, 0, 0, 0, 0, 0, 0, 0, 0⟩, .nil, d, [], rs⟩, rfl, ⟨(by constructor <;> first | (dsimp only; omega) | (intro y hy; simp at hy; omega)), InD.nil_ _ _, hd⟩⟩)
    · refine wpOp_ok (v := .slice (some ⟨w1.heap.size, 0, none⟩) 1 1) (w' := w1.alloc (.cells (rsC [(0, 4611686018427387905)]).toArray 60)) (some 26) rfl rfl rfl ?_ ?_
      · have e25 : (mkA x).tmps[25]? = some (.agg #[.int .u64 0, .int .u64 4611686018427387905]) := rfl
        go_simp
        all_goals rfl
      · refine ⟨trivial, ?_⟩
        rw [show (mkA x).put (some 26) _ = _ from put_26 x _]
        exact InvS.step (i := 24) hs (by omega) (by omega) (by omega) hB hpre hP hA ((Below.refl _ _).alloc (Nat.le_refl _) _) (show PRc _ _ from ⟨⟨some ⟨w1.heap.size, 0, none⟩, 1, 1⟩, [(0, 4611686018427387905)], rfl, inR_at (At.new w1 _ (rsC [(0, 4611686018427387905)])) (by intro r hr; simp only [List.mem_cons, List.not_mem_nil, or_false] at hr; subst hr; (dsimp only; omega)) 1 rfl (by omega)⟩)
    · obtain ⟨d, rs, hx, hd⟩ := (show PRc _ _ from hP 24 (dep_of hr 24 (by kernel_rfl)))
      refine wpOp_ok (v := frV ⟨2, 0, 0, false, 0, 0, 0, 0, 0, 0, 0, 0, 0, 0, 0, 0, 0⟩ .nil d) (w' := w1) (some 27) rfl rfl rfl ?_ ?_
      · have e : (mkA x).tmps[26]? = some (.slice d.A d.n d.c) := congrArg some hx
        go_simp
        all_goals rfl
      · refine ⟨trivial, ?_⟩
        rw [show (mkA x).put (some 27) _ = _ from put_27 x _]
        exact InvS.step (i := 25) hs (by omega) (by omega) (by omega) hB hpre hP hA (Below.refl _ _) (show PFr _ _ from ⟨⟨⟨2, 0, 0, false, 0, 0, 0, 0, 0, 0, 0, 0, 0, 0, 0, 0, 0⟩, .nil, d, [], rs⟩, rfl, ⟨(by constructor <;> first | (dsimp only; omega) | (intro y hy; simp at hy; omega)), InD.nil_ _ _, hd⟩⟩)
    · refine wpOp_ok (some 28) rfl rfl rfl (run_mk (.const (.int .i64 32)) (.const (.int .i64 32)) 53 rfl 25 j0 (.int .u64 0) Try.underlying53 hj hy0 hy1 32 rfl rfl (by rw [hy2]; omega) (by unfold maxLen; omega)) ?_
      refine ⟨trivial, ?_⟩
      rw [show (mkA x).put (some 28) _ = _ from put_28 x _]
      exact InvS.step (i := 26) hs (by omega) (by omega) (by omega) hB hpre hP hA ((Below.refl _ _).alloc (Nat.le_refl _) _) (show PUs _ _ from ⟨w1.heap.size, List.replicate 32 0, rfl, usP_at (T := 25) (by rw [← madeL_u64']; exact At.new w1 _ _) (by intro y hy; rw [List.eq_of_mem_replicate hy]; omega) 32 (by simp)⟩)
    · obtain ⟨g, xs, hx28, hus⟩ := (show PUs _ _ from hP 26 (dep_of hr 26 (by kernel_rfl)))
      refine wpOp_stepS rfl (fun K' hK => ?_)
      have e28 : (mkA x).tmps[28]? = some (.slice (some ⟨g, 0, none⟩) 32 32) := congrArg some hx28
      go_simp
      go_wp2_with (go_at_call 26; refine (kranges_any AnyB _ 32 32 xs 7 w1 hus (by omega) (by unfold maxLen; omega) (by omega) (by omega)).mono ?_; rintro e w2 ⟨d, rs, rfl, hd, _, hb⟩)
      refine hK.out _ _ ⟨trivial, ?_⟩
      exact InvS.step (i := 27) hs (by omega) (by omega) (by omega) hB hpre hP hA hb (show PRc _ _ from ⟨d, rs, rfl, ⟨hd.rd.mono (fun _ _ _ => trivial), hd.lc, hd.cm, hd.nil⟩⟩)
    · obtain ⟨d, rs, hx, hd⟩ := (show PRc _ _ from hP 27 (dep_of hr 27 (by kernel_rfl)))
      refine wpOp_ok (v := frV ⟨2, 0, 0, false, 0, 0, 0, 0, 0, 0, 0, 0, 0, 0, 0, 0, 0⟩ .nil d) (w' := w1) (some 30) rfl rfl rfl ?_ ?_
      · have e : (mkA x).tmps[29]? = some (.slice d.A d.n d.c) := congrArg some hx
        go_simp
        all_goals rfl
      · refine ⟨trivial, ?_⟩
        rw [show (mkA x).put (some 30) _ = _ from put_30 x _]
        exact InvS.step (i := 28) hs (by omega) (by omega) (by omega) hB hpre hP hA (Below.refl _ _) (show PFr _ _ from ⟨⟨⟨2, 0, 0, false, 0, 0, 0, 0, 0, 0, 0, 0, 0, 0, 0, 0, 0⟩, .nil, d, [], rs⟩, rfl, ⟨(by constructor <;> first | (dsimp only; omega) | (intro y hy; simp at hy; omega)), InD.nil_ _ _, hd⟩⟩)
    · refine wpOp_ok (v := .slice (some ⟨w1.heap.size, 0, none⟩) 1 1) (w' := w1.alloc (.cells [.int .u8 1].toArray 5)) (some 43) rfl rfl rfl ?_ ?_
      · go_simp
        all_goals rfl
      · refine ⟨trivial, ?_⟩
        rw [show (mkA x).put (some 43) _ = _ from put_43 x _]
        exact InvS.step (i := 41) hs (by omega) (by omega) (by omega) hB hpre hP hA ((Below.refl _ _).alloc (Nat.le_refl _) _) (show PDa _ _ from ⟨⟨some ⟨w1.heap.size, 0, none⟩, 1, 1⟩, [1], rfl, inD_at (T := 5) (At.new w1 _ ([1].map (Value.int .u8))) (Byt.one (by omega)) 1 rfl (by omega)⟩)
    · obtain ⟨d, ds, hx, hd⟩ := (show PDa _ _ from hP 41 (dep_of hr 41 (by kernel_rfl)))
      refine wpOp_ok (v := frV ⟨6, 0, 1099511627776, false, 0, 0, 0, 0, 0, 0, 0, 0, 0, 0, 0, 0, 0⟩ d .nil) (w' := w1) (some 44) rfl rfl rfl ?_ ?_
      · have e : (mkA x).tmps[43]? = some (.slice d.A d.n d.c) := congrArg some hx
        go_simp
        all_goals rfl
      · refine ⟨trivial, ?_⟩
        rw [show (mkA x).put (some 44) _ = _ from put_44 x _]
        exact InvS.step (i := 42) hs (by omega) (by omega) (by omega) hB hpre hP hA (Below.refl _ _) (show PFr _ _ from ⟨⟨⟨6, 0, 1099511627776, false, 0, 0, 0, 0, 0, 0, 0, 0, 0, 0, 0, 0, 0⟩, d, .nil, ds, []⟩, rfl, ⟨(by constructor <;> first | (dsimp only; omega) | (intro y hy; simp at hy; omega)), hd, InR.nil_ _ _⟩⟩)
    · refine wpOp_ok (some 45) rfl rfl rfl (run_mk (.const (.int .i64 512)) (.const (.int .i64 512)) 26 rfl 5 i0 (.int .u8 0) Try.underlying26 hi0 hz0 hz1 512 rfl rfl (by rw [hz2]; omega) (by unfold maxLen; omega)) ?_
      refine ⟨trivial, ?_⟩
      rw [show (mkA x).put (some 45) _ = _ from put_45 x _]
      exact InvS.step (i := 43) hs (by omega) (by omega) (by omega) hB hpre hP hA ((Below.refl _ _).alloc (Nat.le_refl _) _) (show PDa _ _ from ⟨⟨some ⟨w1.heap.size, 0, none⟩, 512, 512⟩, List.replicate 512 0, rfl, inD_at (T := 5) (by rw [← madeL_u8']; exact At.new w1 _ _) (byt_zeros _) 512 (by simp) (by omega)⟩)
    · obtain ⟨d, ds, hx, hd⟩ := (show PDa _ _ from hP 43 (dep_of hr 43 (by kernel_rfl)))
      refine wpOp_ok (v := frV ⟨6, 0, 0, false, 0, 0, 0, 0, 0, 0, 0, 0, 0, 0, 0, 0, 0⟩ d .nil) (w' := w1) (some 46) rfl rfl rfl ?_ ?_
      · have e : (mkA x).tmps[45]? = some (.slice d.A d.n d.c) := congrArg some hx
        go_simp
        all_goals rfl
      · refine ⟨trivial, ?_⟩
        rw [show (mkA x).put (some 46) _ = _ from put_46 x _]
        exact InvS.step (i := 44) hs (by omega) (by omega) (by omega) hB hpre hP hA (Below.refl _ _) (show PFr _ _ from ⟨⟨⟨6, 0, 0, false, 0, 0, 0, 0, 0, 0, 0, 0, 0, 0, 0, 0, 0⟩, d, .nil, ds, []⟩, rfl, ⟨(by constructor <;> first | (dsimp only; omega) | (intro y hy; simp at hy; omega)), hd, InR.nil_ _ _⟩⟩)
    · refine wpOp_ok (some 47) rfl rfl rfl (run_mk (.const (.int .i64 513)) (.const (.int .i64 513)) 26 rfl 5 i0 (.int .u8 0) Try.underlying26 hi0 hz0 hz1 513 rfl rfl (by rw [hz2]; omega) (by unfold maxLen; omega)) ?_
      refine ⟨trivial, ?_⟩
      rw [show (mkA x).put (some 47) _ = _ from put_47 x _]
      exact InvS.step (i := 45) hs (by omega) (by omega) (by omega) hB hpre hP hA ((Below.refl _ _).alloc (Nat.le_refl _) _) (show PDa _ _ from ⟨⟨some ⟨w1.heap.size, 0, none⟩, 513, 513⟩, List.replicate 513 0, rfl, inD_at (T := 5) (by rw [← madeL_u8']; exact At.new w1 _ _) (byt_zeros _) 513 (by simp) (by omega)⟩)
    · obtain ⟨d, ds, hx, hd⟩ := (show PDa _ _ from hP 45 (dep_of hr 45 (by kernel_rfl)))
      refine wpOp_ok (v := frV ⟨6, 0, 0, false, 0, 0, 0, 0, 0, 0, 0, 0, 0, 0, 0, 0, 0⟩ d .nil) (w' := w1) (some 48) rfl rfl rfl ?_ ?_
      · have e : (mkA x).tmps[47]? = some (.slice d.A d.n d.c) := congrArg some hx
        go_simp
        all_goals rfl
      · refine ⟨trivial, ?_⟩
        rw [show (mkA x).put (some 48) _ = _ from put_48 x _]
        exact InvS.step (i := 46) hs (by omega) (by omega) (by omega) hB hpre hP hA (Below.refl _ _) (show PFr _ _ from ⟨⟨⟨6, 0, 0, false, 0, 0, 0, 0, 0, 0, 0, 0, 0, 0, 0, 0, 0⟩, d, .nil, ds, []⟩, rfl, ⟨(by constructor <;> first | (dsimp only; omega) | (intro y hy; simp at hy; omega)), hd, InR.nil_ _ _⟩⟩)
    · refine wpOp_ok (v := .slice (some ⟨w1.heap.size, 0, none⟩) 3 3) (w' := w1.alloc (.cells [.int .u8 97, .int .u8 98, .int .u8 99].toArray 5)) (some 50) rfl rfl rfl ?_ ?_
      · go_simp
      · refine ⟨trivial, ?_⟩
        rw [show (mkA x).put (some 50) _ = _ from put_50 x _]
        have hb : Below w1.heap.size w1 (w1.alloc (.cells [.int .u8 97, .int .u8 98, .int .u8 99].toArray 5)) := (Below.refl _ _).alloc (Nat.le_refl _) _
        refine ⟨upd x 50 _, rfl, hB.trans (hb.mono hB.size), fun j hj => setT (by omega) (hpre j hj), fun j hj => ?_, fun _ _ => ⟨w1.heap.size, rfl, hB.size, At.new w1 _ _⟩⟩
        by_cases e : j = 48
        · subst e; exact (show Pd 48 _ _ from trivial)
        · rw [getD_setF (by omega), if_neg e] at hj
          simp only [upd, show ¬ (j + 2 = 50) by omega, if_false]
          exact (hP j hj).ext (Ext.of_below hb)
    · have h48 := dep_of hr 48 (by kernel_rfl)
      have hu2 : listed.getD 49 false = false := by
        have h := (mem_ready.1 hr).1
        rw [Array.getD_eq_getD_getElem?, Array.getElem?_eq_getElem (by omega)] at h ⊢
        exact h
      obtain ⟨g, hx50, hg, hAt⟩ := hA h48 hu2
      refine wpOp_ok (v := .slice (some ⟨g, 0, none⟩) 3 3) (w' := w1.freeze ⟨g, 3, none⟩ 1) (some 51) rfl rfl rfl ?_ ?_
      · have e50 : (mkA x).eval (.tmp 50) = .slice (some ⟨g, 0, none⟩) 3 3 := hx50
        have hrun := run_conv_mark (P := Try.prog) 26 5 g 3 3 _ Try.underlying26 Try.underlying5 hAt
        simp [execOp, e50, hrun, Result.andThen]
      · refine ⟨trivial, ?_⟩
        rw [show (mkA x).put (some 51) _ = _ from put_51 x _]
        have hx := freeze_ext w1 g 3
        refine ⟨upd x 51 _, rfl, freeze_below w w1 g 3 hB hg, fun j hj => setT (by omega) (hpre j hj), fun j hj => ?_, fun _ h2 => ?_⟩
        · by_cases e : j = 49
          · subst e
            exact (show PDa _ _ from ⟨⟨some ⟨g, 0, none⟩, 3, 3⟩, [97, 98, 99], rfl, (inD_at (T := 5) (bs := [97, 98, 99]) hAt (by intro y hy; simp at hy; omega) 3 rfl (by omega)).ext hx⟩)
          · rw [getD_setF (by omega), if_neg e] at hj
            simp only [upd, show ¬ (j + 2 = 51) by omega, if_false]
            exact (hP j hj).ext hx
        · rw [getD_setF (by omega), if_pos rfl] at h2; cases h2
    · obtain ⟨d, ds, hx, hd⟩ := (show PDa _ _ from hP 49 (dep_of hr 49 (by kernel_rfl)))
      refine wpOp_ok (v := frV ⟨8, 64, 64, true, 0, 0, 0, 0, 0, 0, 0, 0, 0, 0, 0, 0, 0⟩ d .nil) (w' := w1) (some 52) rfl rfl rfl ?_ ?_
      · have e : (mkA x).tmps[51]? = some (.slice d.A d.n d.c) := congrArg some hx
        go_simp
        all_goals rfl
      · refine ⟨trivial, ?_⟩
        rw [show (mkA x).put (some 52) _ = _ from put_52 x _]
        exact InvS.step (i := 50) hs (by omega) (by omega) (by omega) hB hpre hP hA (Below.refl _ _) (show PFr _ _ from ⟨⟨⟨8, 64, 64, true, 0, 0, 0, 0, 0, 0, 0, 0, 0, 0, 0, 0, 0⟩, d, .nil, ds, []⟩, rfl, ⟨(by constructor <;> first | (dsimp only; omega) | (intro y hy; simp at hy; omega)), hd, InR.nil_ _ _⟩⟩)
    · refine wpOp_ok (some 69) rfl rfl rfl (run_mk (.const (.int .i64 32)) (.const (.int .i64 32)) 26 rfl 5 i0 (.int .u8 0) Try.underlying26 hi0 hz0 hz1 32 rfl rfl (by rw [hz2]; omega) (by unfold maxLen; omega)) ?_
      refine ⟨trivial, ?_⟩
      rw [show (mkA x).put (some 69) _ = _ from put_69 x _]
      exact InvS.step (i := 67) hs (by omega) (by omega) (by omega) hB hpre hP hA ((Below.refl _ _).alloc (Nat.le_refl _) _) (show PDa _ _ from ⟨⟨some ⟨w1.heap.size, 0, none⟩, 32, 32⟩, List.replicate 32 0, rfl, inD_at (T := 5) (by rw [← madeL_u8']; exact At.new w1 _ _) (byt_zeros _) 32 (by simp) (by omega)⟩)
    · obtain ⟨d, ds, hx, hd⟩ := (show PDa _ _ from hP 67 (dep_of hr 67 (by kernel_rfl)))
      refine wpOp_ok (v := frV ⟨28, 0, 0, false, 0, 5, 0, 0, 0, 0, 0, 0, 0, 0, 0, 0, 0⟩ d .nil) (w' := w1) (some 70) rfl rfl rfl ?_ ?_
      · have e : (mkA x).tmps[69]? = some (.slice d.A d.n d.c) := congrArg some hx
        go_simp
        all_goals rfl
      · refine ⟨trivial, ?_⟩
        rw [show (mkA x).put (some 70) _ = _ from put_70 x _]
        exact InvS.step (i := 68) hs (by omega) (by omega) (by omega) hB hpre hP hA (Below.refl _ _) (show PFr _ _ from ⟨⟨⟨28, 0, 0, false, 0, 5, 0, 0, 0, 0, 0, 0, 0, 0, 0, 0, 0⟩, d, .nil, ds, []⟩, rfl, ⟨(by constructor <;> first | (dsimp only; omega) | (intro y hy; simp at hy; omega)), hd, InR.nil_ _ _⟩⟩)
    · refine wpOp_ok (some 71) rfl rfl rfl (run_mk (.const (.int .i64 33)) (.const (.int .i64 33)) 26 rfl 5 i0 (.int .u8 0) Try.underlying26 hi0 hz0 hz1 33 rfl rfl (by rw [hz2]; omega) (by unfold maxLen; omega)) ?_
      refine ⟨trivial, ?_⟩
      rw [show (mkA x).put (some 71) _ = _ from put_71 x _]
      exact InvS.step (i := 69) hs (by omega) (by omega) (by omega) hB hpre hP hA ((Below.refl _ _).alloc (Nat.le_refl _) _) (show PDa _ _ from ⟨⟨some ⟨w1.heap.size, 0, none⟩, 33, 33⟩, List.replicate 33 0, rfl, inD_at (T := 5) (by rw [← madeL_u8']; exact At.new w1 _ _) (byt_zeros _) 33 (by simp) (by omega)⟩)
    · obtain ⟨d, ds, hx, hd⟩ := (show PDa _ _ from hP 69 (dep_of hr 69 (by kernel_rfl)))
      refine wpOp_ok (v := frV ⟨28, 0, 0, false, 0, 0, 0, 0, 0, 0, 0, 0, 0, 0, 0, 0, 0⟩ d .nil) (w' := w1) (some 72) rfl rfl rfl ?_ ?_
      · have e : (mkA x).tmps[71]? = some (.slice d.A d.n d.c) := congrArg some hx
        go_simp
        all_goals rfl
      · refine ⟨trivial, ?_⟩
        rw [show (mkA x).put (some 72) _ = _ from put_72 x _]
        exact InvS.step (i := 70) hs (by omega) (by omega) (by omega) hB hpre hP hA (Below.refl _ _) (show PFr _ _ from ⟨⟨⟨28, 0, 0, false, 0, 0, 0, 0, 0, 0, 0, 0, 0, 0, 0, 0, 0⟩, d, .nil, ds, []⟩, rfl, ⟨(by constructor <;> first | (dsimp only; omega) | (intro y hy; simp at hy; omega)), hd, InR.nil_ _ _⟩⟩)
    · obtain ⟨y11, hx11, hf11⟩ := (show PFr _ _ from hP 9 (dep_of hr 9 (by kernel_rfl)))
      obtain ⟨y14, hx14, hf14⟩ := (show PFr _ _ from hP 12 (dep_of hr 12 (by kernel_rfl)))
      obtain ⟨y18, hx18, hf18⟩ := (show PFr _ _ from hP 16 (dep_of hr 16 (by kernel_rfl)))
      obtain ⟨y22, hx22, hf22⟩ := (show PFr _ _ from hP 20 (dep_of hr 20 (by kernel_rfl)))
      obtain ⟨y27, hx27, hf27⟩ := (show PFr _ _ from hP 25 (dep_of hr 25 (by kernel_rfl)))
      obtain ⟨y30, hx30, hf30⟩ := (show PFr _ _ from hP 28 (dep_of hr 28 (by kernel_rfl)))
      obtain ⟨y44, hx44, hf44⟩ := (show PFr _ _ from hP 42 (dep_of hr 42 (by kernel_rfl)))
      obtain ⟨y46, hx46, hf46⟩ := (show PFr _ _ from hP 44 (dep_of hr 44 (by kernel_rfl)))
      obtain ⟨y48, hx48, hf48⟩ := (show PFr _ _ from hP 46 (dep_of hr 46 (by kernel_rfl)))
      obtain ⟨y52, hx52, hf52⟩ := (show PFr _ _ from hP 50 (dep_of hr 50 (by kernel_rfl)))
      obtain ⟨y70, hx70, hf70⟩ := (show PFr _ _ from hP 68 (dep_of hr 68 (by kernel_rfl)))
      obtain ⟨y72, hx72, hf72⟩ := (show PFr _ _ from hP 70 (dep_of hr 70 (by kernel_rfl)))
      obtain ⟨L, hL⟩ : ∃ L : List FR, L = [⟨⟨0, 0, 0, false, 0, 0, 0, 0, 0, 0, 0, 0, 0, 0, 0, 0, 0⟩, .nil, .nil, [], []⟩, ⟨⟨1, 0, 0, false, 0, 0, 0, 0, 0, 0, 0, 0, 0, 0, 0, 0, 0⟩, .nil, .nil, [], []⟩, y11, y14, y18, ⟨⟨2, 0, 0, false, 0, 0, 0, 0, 0, 0, 0, 0, 0, 0, 0, 0, 0⟩, .nil, .nil, [], []⟩, y22, y27, y30, ⟨⟨4, 4, 0, false, 0, 4611686018427387903, 1099511627776, 0, 0, 0, 0, 0, 0, 0, 0, 0, 0⟩, .nil, .nil, [], []⟩, ⟨⟨4, 0, 0, false, 0, 0, 1099511627777, 0, 0, 0, 0, 0, 0, 0, 0, 0, 0⟩, .nil, .nil, [], []⟩, ⟨⟨4, 0, 0, false, 0, 4611686018427387904, 0, 0, 0, 0, 0, 0, 0, 0, 0, 0, 0⟩, .nil, .nil, [], []⟩, ⟨⟨5, 4611686018427387903, 0, false, 0, 0, 0, 0, 0, 0, 0, 0, 0, 0, 0, 0, 0⟩, .nil, .nil, [], []⟩, ⟨⟨5, 4611686018427387904, 0, false, 0, 0, 0, 0, 0, 0, 0, 0, 0, 0, 0, 0, 0⟩, .nil, .nil, [], []⟩, ⟨⟨6, 0, 1099511627776, false, 0, 0, 0, 0, 0, 0, 0, 0, 0, 0, 0, 0, 0⟩, .nil, .nil, [], []⟩, y44, y46, y48, ⟨⟨8, 0, 0, false, 0, 0, 0, 0, 0, 0, 0, 0, 0, 0, 0, 0, 0⟩, .nil, .nil, [], []⟩, y52, ⟨⟨8, 0, 9223372036854775808, false, 0, 0, 0, 0, 0, 0, 0, 0, 0, 0, 0, 0, 0⟩, .nil, .nil, [], []⟩, ⟨⟨16, 0, 0, false, 1099511627776, 0, 0, 0, 0, 0, 0, 0, 0, 0, 0, 0, 0⟩, .nil, .nil, [], []⟩, ⟨⟨16, 0, 0, false, 1099511627777, 0, 0, 0, 0, 0, 0, 0, 0, 0, 0, 0, 0⟩, .nil, .nil, [], []⟩, ⟨⟨17, 3, 0, false, 5, 0, 0, 0, 0, 0, 0, 0, 0, 0, 0, 0, 0⟩, .nil, .nil, [], []⟩, ⟨⟨18, 0, 0, false, 1048576, 0, 0, 0, 0, 0, 0, 0, 0, 0, 0, 0, 0⟩, .nil, .nil, [], []⟩, ⟨⟨18, 0, 0, false, 1048577, 0, 0, 0, 0, 0, 0, 0, 0, 0, 0, 0, 0⟩, .nil, .nil, [], []⟩, ⟨⟨20, 0, 0, false, 4611686018427387903, 0, 0, 0, 0, 0, 0, 0, 0, 0, 0, 0, 0⟩, .nil, .nil, [], []⟩, ⟨⟨24, 0, 0, false, 5, 0, 0, 5, 0, 1, 0, 0, 0, 0, 0, 0, 0⟩, .nil, .nil, [], []⟩, ⟨⟨24, 0, 0, false, 6, 0, 0, 5, 0, 0, 0, 0, 0, 0, 0, 0, 0⟩, .nil, .nil, [], []⟩, ⟨⟨25, 0, 0, false, 0, 0, 0, 4611686018427387903, 0, 0, 0, 0, 0, 0, 0, 0, 0⟩, .nil, .nil, [], []⟩, ⟨⟨26, 0, 0, false, 0, 0, 0, 0, 0, 9, 8, 0, 0, 0, 0, 0, 0⟩, .nil, .nil, [], []⟩, ⟨⟨27, 0, 0, false, 0, 0, 0, 0, 0, 0, 0, 0, 0, 0, 0, 0, 0⟩, .nil, .nil, [], []⟩, y70, y72, ⟨⟨30, 0, 0, false, 0, 0, 0, 0, 0, 0, 0, 0, 0, 0, 0, 0, 0⟩, .nil, .nil, [], []⟩, ⟨⟨3, 0, 0, false, 0, 0, 0, 0, 0, 0, 0, 0, 0, 0, 0, 0, 0⟩, .nil, .nil, [], []⟩, ⟨⟨31, 0, 0, false, 0, 0, 0, 0, 0, 0, 0, 0, 0, 0, 0, 0, 0⟩, .nil, .nil, [], []⟩, ⟨⟨(-1), 0, 0, false, 0, 0, 0, 0, 0, 0, 0, 0, 0, 0, 0, 0, 0⟩, .nil, .nil, [], []⟩, ⟨⟨14, 0, 0, false, 0, 0, 0, 0, 0, 0, 0, 0, 0, 0, 0, 0, 0⟩, .nil, .nil, [], []⟩] := ⟨_, rfl⟩
      have hrun := run_bsN w1 L 39 (by rw [hL]; rfl) (by omega) (by omega)
      have hfits : ∀ z ∈ L, Fits w1 AnyB z.m z.d z.r z.ds z.rs := by
        rw [hL]; intro z hz
        simp only [List.mem_cons, List.not_mem_nil, or_false] at hz
        rcases hz with rfl | rfl | rfl | rfl | rfl | rfl | rfl | rfl | rfl | rfl | rfl | rfl | rfl | rfl | rfl | rfl | rfl | rfl | rfl | rfl | rfl | rfl | rfl | rfl | rfl | rfl | rfl | rfl | rfl | rfl | rfl | rfl | rfl | rfl | rfl | rfl | rfl | rfl | rfl
        · exact ⟨(by constructor <;> first | (dsimp only; omega) | (intro y hy; simp at hy; omega)), InD.nil_ _ _, InR.nil_ _ _⟩
        · exact ⟨(by constructor <;> first | (dsimp only; omega) | (intro y hy; simp at hy; omega)), InD.nil_ _ _, InR.nil_ _ _⟩
        · exact hf11
        · exact hf14
        · exact hf18
        · exact ⟨(by constructor <;> first | (dsimp only; omega) | (intro y hy; simp at hy; omega)), InD.nil_ _ _, InR.nil_ _ _⟩
        · exact hf22
        · exact hf27
        · exact hf30
        · exact ⟨(by constructor <;> first | (dsimp only; omega) | (intro y hy; simp at hy; omega)), InD.nil_ _ _, InR.nil_ _ _⟩
        · exact ⟨(by constructor <;> first | (dsimp only; omega) | (intro y hy; simp at hy; omega)), InD.nil_ _ _, InR.nil_ _ _⟩
        · exact ⟨(by constructor <;> first | (dsimp only; omega) | (intro y hy; simp at hy; omega)), InD.nil_ _ _, InR.nil_ _ _⟩
        · exact ⟨(by constructor <;> first | (dsimp only; omega) | (intro y hy; simp at hy; omega)), InD.nil_ _ _, InR.nil_ _ _⟩
        · exact ⟨(by constructor <;> first | (dsimp only; omega) | (intro y hy; simp at hy; omega)), InD.nil_ _ _, InR.nil_ _ _⟩
        · exact ⟨(by constructor <;> first | (dsimp only; omega) | (intro y hy; simp at hy; omega)), InD.nil_ _ _, InR.nil_ _ _⟩
        · exact hf44
        · exact hf46
        · exact hf48
        · exact ⟨(by constructor <;> first | (dsimp only; omega) | (intro y hy; simp at hy; omega)), InD.nil_ _ _, InR.nil_ _ _⟩
        · exact hf52
        · exact ⟨(by constructor <;> first | (dsimp only; omega) | (intro y hy; simp at hy; omega)), InD.nil_ _ _, InR.nil_ _ _⟩
        · exact ⟨(by constructor <;> first | (dsimp only; omega) | (intro y hy; simp at hy; omega)), InD.nil_ _ _, InR.nil_ _ _⟩
        · exact ⟨(by constructor <;> first | (dsimp only; omega) | (intro y hy; simp at hy; omega)), InD.nil_ _ _, InR.nil_ _ _⟩
        · exact ⟨(by constructor <;> first | (dsimp only; omega) | (intro y hy; simp at hy; omega)), InD.nil_ _ _, InR.nil_ _ _⟩
        · exact ⟨(by constructor <;> first | (dsimp only; omega) | (intro y hy; simp at hy; omega)), InD.nil_ _ _, InR.nil_ _ _⟩
        · exact ⟨(by constructor <;> first | (dsimp only; omega) | (intro y hy; simp at hy; omega)), InD.nil_ _ _, InR.nil_ _ _⟩
        · exact ⟨(by constructor <;> first | (dsimp only; omega) | (intro y hy; simp at hy; omega)), InD.nil_ _ _, InR.nil_ _ _⟩
        · exact ⟨(by constructor <;> first | (dsimp only; omega) | (intro y hy; simp at hy; omega)), InD.nil_ _ _, InR.nil_ _ _⟩
        · exact ⟨(by constructor <;> first | (dsimp only; omega) | (intro y hy; simp at hy; omega)), InD.nil_ _ _, InR.nil_ _ _⟩
        · exact ⟨(by constructor <;> first | (dsimp only; omega) | (intro y hy; simp at hy; omega)), InD.nil_ _ _, InR.nil_ _ _⟩
        · exact ⟨(by constructor <;> first | (dsimp only; omega) | (intro y hy; simp at hy; omega)), InD.nil_ _ _, InR.nil_ _ _⟩
        · exact ⟨(by constructor <;> first | (dsimp only; omega) | (intro y hy; simp at hy; omega)), InD.nil_ _ _, InR.nil_ _ _⟩
        · exact hf70
        · exact hf72
        · exact ⟨(by constructor <;> first | (dsimp only; omega) | (intro y hy; simp at hy; omega)), InD.nil_ _ _, InR.nil_ _ _⟩
        · exact ⟨(by constructor <;> first | (dsimp only; omega) | (intro y hy; simp at hy; omega)), InD.nil_ _ _, InR.nil_ _ _⟩
        · exact ⟨(by constructor <;> first | (dsimp only; omega) | (intro y hy; simp at hy; omega)), InD.nil_ _ _, InR.nil_ _ _⟩
        · exact ⟨(by constructor <;> first | (dsimp only; omega) | (intro y hy; simp at hy; omega)), InD.nil_ _ _, InR.nil_ _ _⟩
        · exact ⟨(by constructor <;> first | (dsimp only; omega) | (intro y hy; simp at hy; omega)), InD.nil_ _ _, InR.nil_ _ _⟩
      have hown : OwnF (w1.alloc (.cells (frsC L).toArray 31)) w1.heap.size (.slice (some ⟨w1.heap.size, 0, none⟩) 39 39) L := by
        have hl : L.length = 39 := by rw [hL]; rfl
        have := (show OwnF (w1.alloc (.cells (frsC L).toArray 31)) w1.heap.size (.slice (some ⟨w1.heap.size, 0, none⟩) L.length L.length) L from ⟨frsC_len L, .inr ⟨_, L.length, _, rfl, Nat.le_refl _, heap_alloc_new w1 _, Nat.le_refl _, by unfold maxLen; omega, by rw [List.size_toArray, frsC_len], by rw [List.take_of_length_le (by rw [frsC_len]; exact Nat.le_refl _)]⟩⟩)
        rw [hl] at this; exact this
      have hbl : Below w1.heap.size w1 (w1.alloc (.cells (frsC L).toArray 31)) := (Below.refl _ _).alloc (Nat.le_refl _) _
      refine wpOp_ok (some 78) rfl rfl rfl (run_bs_op 39 _ rfl L (by rw [hL]; rfl) (by omega) (by omega) ?_) ?_
      · rw [hL]
        show [(0, frV ⟨0, 0, 0, false, 0, 0, 0, 0, 0, 0, 0, 0, 0, 0, 0, 0, 0⟩ .nil .nil), (1, frV ⟨1, 0, 0, false, 0, 0, 0, 0, 0, 0, 0, 0, 0, 0, 0, 0, 0⟩ .nil .nil), (2, x 11), (3, x 14), (4, x 18), (5, frV ⟨2, 0, 0, false, 0, 0, 0, 0, 0, 0, 0, 0, 0, 0, 0, 0, 0⟩ .nil .nil), (6, x 22), (7, x 27), (8, x 30), (9, frV ⟨4, 4, 0, false, 0, 4611686018427387903, 1099511627776, 0, 0, 0, 0, 0, 0, 0, 0, 0, 0⟩ .nil .nil), (10, frV ⟨4, 0, 0, false, 0, 0, 1099511627777, 0, 0, 0, 0, 0, 0, 0, 0, 0, 0⟩ .nil .nil), (11, frV ⟨4, 0, 0, false, 0, 4611686018427387904, 0, 0, 0, 0, 0, 0, 0, 0, 0, 0, 0⟩ .nil .nil), (12, frV ⟨5, 4611686018427387903, 0, false, 0, 0, 0, 0, 0, 0, 0, 0, 0, 0, 0, 0, 0⟩ .nil .nil), (13, frV ⟨5, 4611686018427387904, 0, false, 0, 0, 0, 0, 0, 0, 0, 0, 0, 0, 0, 0, 0⟩ .nil .nil), (14, frV ⟨6, 0, 1099511627776, false, 0, 0, 0, 0, 0, 0, 0, 0, 0, 0, 0, 0, 0⟩ .nil .nil), (15, x 44), (16, x 46), (17, x 48), (18, frV ⟨8, 0, 0, false, 0, 0, 0, 0, 0, 0, 0, 0, 0, 0, 0, 0, 0⟩ .nil .nil), (19, x 52), (20, frV ⟨8, 0, 9223372036854775808, false, 0, 0, 0, 0, 0, 0, 0, 0, 0, 0, 0, 0, 0⟩ .nil .nil), (21, frV ⟨16, 0, 0, false, 1099511627776, 0, 0, 0, 0, 0, 0, 0, 0, 0, 0, 0, 0⟩ .nil .nil), (22, frV ⟨16, 0, 0, false, 1099511627777, 0, 0, 0, 0, 0, 0, 0, 0, 0, 0, 0, 0⟩ .nil .nil), (23, frV ⟨17, 3, 0, false, 5, 0, 0, 0, 0, 0, 0, 0, 0, 0, 0, 0, 0⟩ .nil .nil), (24, frV ⟨18, 0, 0, false, 1048576, 0, 0, 0, 0, 0, 0, 0, 0, 0, 0, 0, 0⟩ .nil .nil), (25, frV ⟨18, 0, 0, false, 1048577, 0, 0, 0, 0, 0, 0, 0, 0, 0, 0, 0, 0⟩ .nil .nil), (26, frV ⟨20, 0, 0, false, 4611686018427387903, 0, 0, 0, 0, 0, 0, 0, 0, 0, 0, 0, 0⟩ .nil .nil), (27, frV ⟨24, 0, 0, false, 5, 0, 0, 5, 0, 1, 0, 0, 0, 0, 0, 0, 0⟩ .nil .nil), (28, frV ⟨24, 0, 0, false, 6, 0, 0, 5, 0, 0, 0, 0, 0, 0, 0, 0, 0⟩ .nil .nil), (29, frV ⟨25, 0, 0, false, 0, 0, 0, 4611686018427387903, 0, 0, 0, 0, 0, 0, 0, 0, 0⟩ .nil .nil), (30, frV ⟨26, 0, 0, false, 0, 0, 0, 0, 0, 9, 8, 0, 0, 0, 0, 0, 0⟩ .nil .nil), (31, frV ⟨27, 0, 0, false, 0, 0, 0, 0, 0, 0, 0, 0, 0, 0, 0, 0, 0⟩ .nil .nil), (32, x 70), (33, x 72), (34, frV ⟨30, 0, 0, false, 0, 0, 0, 0, 0, 0, 0, 0, 0, 0, 0, 0, 0⟩ .nil .nil), (35, frV ⟨3, 0, 0, false, 0, 0, 0, 0, 0, 0, 0, 0, 0, 0, 0, 0, 0⟩ .nil .nil), (36, frV ⟨31, 0, 0, false, 0, 0, 0, 0, 0, 0, 0, 0, 0, 0, 0, 0, 0⟩ .nil .nil), (37, frV ⟨(-1), 0, 0, false, 0, 0, 0, 0, 0, 0, 0, 0, 0, 0, 0, 0, 0⟩ .nil .nil), (38, frV ⟨14, 0, 0, false, 0, 0, 0, 0, 0, 0, 0, 0, 0, 0, 0, 0, 0⟩ .nil .nil)] = _
        rw [hx11, hx14, hx18, hx22, hx27, hx30, hx44, hx46, hx48, hx52, hx70, hx72]
        rfl
      · refine ⟨trivial, ?_⟩
        rw [show (mkA x).put (some 78) _ = _ from put_78 x _]
        exact InvS.step (i := 76) hs (by omega) (by omega) (by omega) hB hpre hP hA hbl (show PFs _ _ from ⟨some ⟨w1.heap.size, 0, none⟩, L, rfl, hown.frsP (by rw [hL]; rfl) (fun _ _ => trivial) (fun z hz => (hfits z hz).ext (Ext.of_below hbl))⟩)
    · obtain ⟨A, L, hx78, hf⟩ := (show PFs _ _ from hP 76 (dep_of hr 76 (by kernel_rfl)))
      refine wpOp_ok (v := .slice A 39 39) (w' := w1) (some 0) rfl rfl rfl ?_ ?_
      · have e : (mkA x).tmps[78]? = some (.slice A 39 39) := congrArg some hx78
        go_simp
      · refine ⟨trivial, ?_⟩
        rw [show (mkA x).put (some 0) _ = _ from put_79 x _]
        exact InvS.step (i := 77) hs (by omega) (by omega) (by omega) hB hpre hP hA (Below.refl _ _) (show PFs _ _ from ⟨A, L, rfl, hf⟩)
  · intro listed a w1 hs hI hall
    obtain ⟨x, rfl, hB, hpre, hP, hA⟩ := hI.ex
    have h76 : listed.getD 77 false = true := by
      have h := hall 77 (by omega)
      rw [Array.getD_eq_getD_getElem?] at h ⊢
      rcases hq : listed[77]? with _ | b
      · rw [Array.getElem?_eq_none_iff] at hq; omega
      · rw [hq] at h; exact h
    obtain ⟨A, L, hx79, hf⟩ := (show PFs _ _ from hP 77 h76)
    unfold mkA
    go_wp2_with fail
    go_ret
    exact ⟨A, L, congrArg Ending.returned hx79, hf, hB⟩
  · decide
  · kernel_rfl
  · refine ⟨fun k => if k = 79 then .slice none 0 0 else undef, rfl, hB0, by decide, fun i hi => ?_, fun h _ => absurd h (by decide)⟩
    rcases Nat.lt_or_ge i 78 with h77 | h77
    · exact Pd_pre _ _ _ (start_pre _ (by decide) i h77 hi)
    · rw [Array.getD_eq_getD_getElem?, Array.getElem?_eq_none (Nat.le_trans (by decide) h77)] at hi
      cases hi
end Go.Proofs.Ytkahndjflhgccaa
