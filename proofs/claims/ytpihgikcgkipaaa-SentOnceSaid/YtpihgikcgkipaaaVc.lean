/-
  The law's calls: Add.
-/
import Derived.Test.YtpihgikcgkipaaaVb
import Derived.Test.YtpihgikcgkipaaaUk
namespace Go.Proofs.Ytpihgikcgkipaaa
set_option linter.unusedVariables false
set_option linter.unusedSimpArgs false
open Go.RowKit
theorem frok_ping {w : World} {B g : Nat} {n t s : Int} {a : Bool} (h : At w g 68 pingL) (hb : B ≤ g) : FrOk w B ⟨n, t, s, a, some ⟨g, 0, none⟩, 1, 1⟩ :=
  ⟨⟨rfl, .inr ⟨g, 1, pingL.toArray, rfl, hb, h, Nat.le_refl _, by unfold maxLen; omega, rfl, rfl⟩⟩, Nat.le_refl _⟩
section
variable {w0 : GW} {w : World} {B p q : Nat} {nx ak : Int} {hd : Bool} {v1 v2 : Value} {l1 l2 : PL}
set_option maxRecDepth 100000 in
set_option maxHeartbeats 16000000 in
theorem do_add (h : Sx w0 w B p q nx ak hd v1 v2 l1 l2) (k : Int) (x : AX) (h5 : (k == 5) = false) (h6 : (k == 6) = false) (h9 : (k == 9) = false) (h7 : (k == 7) = false) (h10 : (k == 10) = false) (hsk : -9223372036854775808 ≤ x.skip ∧ x.skip < 9223372036854775808) :
    Calls Try.prog 8 #[.pointer (some ⟨p, 0, none⟩), .pointer (some ⟨q, 0, none⟩), .agg (axL k x).toArray] w fun e w' => e = .returned (.bool true) ∧ St w0 w' B p q := by
  obtain ⟨skip, size, asks, time, from_, ⟨roA, ron, roc⟩, ⟨pn, pt, ps, pa, pA, pk, pc⟩, ⟨rA, rn, rc⟩⟩ := x
  simp only at hsk
  have hax : Below w.heap.size w (w.alloc (.cells #[.int .i64 k, .int .i64 skip, .int .i64 size, .bool asks, .int .i64 time, .int .u64 from_, .slice roA ron roc, .int .u64 pn, .int .i64 pt, .int .i64 ps, .bool pa, .slice pA pk pc, .slice rA rn rc] 36)) := (Below.refl _ _).alloc (Nat.le_refl _) _
  have hA := At.new w 36 [.int .i64 k, .int .i64 skip, .int .i64 size, .bool asks, .int .i64 time, .int .u64 from_, .slice roA ron roc, .int .u64 pn, .int .i64 pt, .int .i64 ps, .bool pa, .slice pA pk pc, .slice rA rn rc]
  have HX := Lib.hid (h.below hax)
  have hnx := h.gk.nx0
  clear h hax
  rw [show Value.agg (axL k ⟨skip, size, asks, time, from_, ⟨roA, ron, roc⟩, ⟨pn, pt, ps, pa, pA, pk, pc⟩, ⟨rA, rn, rc⟩⟩).toArray = .agg #[.int .i64 k, .int .i64 skip, .int .i64 size, .bool asks, .int .i64 time, .int .u64 from_, .slice roA ron roc, .int .u64 pn, .int .i64 pt, .int .i64 ps, .bool pa, .slice pA pk pc, .slice rA rn rc] from rfl]
  go_enter Try.func8, Try.ntmps8
  go_upto_region 2 with fail
  generalize World.alloc w _ = X at *
  obtain ⟨ga, hga⟩ : ∃ g, w.heap.size = g := ⟨_, rfl⟩
  rw [hga] at hA ⊢
  have HA := Lib.hid hA
  have hgl := hA.lt
  have HK2 : Hid (∀ W : World, Below X.heap.size X W → W.cell? ⟨q, 1, none⟩ = some (.int .u64 nx) ∧ W.cell? ⟨ga, 1, none⟩ = some (.int .i64 skip) ∧ W.cell? ⟨ga, 2, none⟩ = some (.int .i64 size) ∧ W.cell? ⟨ga, 3, none⟩ = some (.bool asks) ∧ W.cell? ⟨ga, 4, none⟩ = some (.int .i64 time)) := Lib.hid (fun W k => ⟨(HX.out.rv.below k).at_.cell 1, (HA.out.below k HA.out.lt).cell 1, (HA.out.below k HA.out.lt).cell 2, (HA.out.below k HA.out.lt).cell 3, (HA.out.below k HA.out.lt).cell 4⟩)
  clear hga hA
  go_cut [19] from 22 to 39 (fun s19 wx => ∃ (g19 : Nat) (r : PK), s19 = .pointer (some ⟨g19, 0, none⟩) ∧ Hid (At wx g19 31 (pkC r) ∧ FrOk wx B r ∧ Below X.heap.size X wx ∧ X.heap.size ≤ g19))
  case first =>
    go_wp2_with fail
    have hd0 : Below X.heap.size X X.drew := ⟨rfl, rfl, rfl, Nat.le_refl _, fun _ _ => rfl⟩
    have hzs : X.drew.heap.size = X.heap.size := rfl
    obtain ⟨Y, hY⟩ : ∃ x, X.drew = x := ⟨_, rfl⟩
    have hd00 := hd0
    rw [hY] at hd0 hzs
    have mixed : Try.prog.follows .mixedOrders = true := by kernel_rfl
    refine wp_region_held_drew (S := (fun W => W.cell? ⟨q, 1, none⟩ = some (.int .u64 nx) ∧ W.cell? ⟨ga, 1, none⟩ = some (.int .i64 skip) ∧ W.cell? ⟨ga, 2, none⟩ = some (.int .i64 size) ∧ W.cell? ⟨ga, 3, none⟩ = some (.bool asks) ∧ W.cell? ⟨ga, 4, none⟩ = some (.int .i64 time))) (by kernel_rfl) ((HK2.out _ hd00)) (fun hHeld => ?_)
    rw [hY] at hHeld ⊢
    clear hY hd00
    refine tkq 0 (some 22) (v := ?_) rfl (Or.inl ⟨by rfl, ?_⟩) (by assumption) ?_
    rotate_left
    · intro w hSw; (try dsimp only at hSw); go_simp; first | done | (with_reducible rfl)
    simp only [Act.put, List.setIfInBounds_toArray, List.set_cons_zero, List.set_cons_succ]
    refine tkq 1 (some 23) (v := ?_) rfl (Or.inl ⟨by rfl, ?_⟩) (by assumption) ?_
    rotate_left
    · intro w hSw; (try dsimp only at hSw); go_simp; first | done | (with_reducible rfl)
    simp only [Act.put, List.setIfInBounds_toArray, List.set_cons_zero, List.set_cons_succ]
    refine tkq 2 (some 24) (v := ?_) rfl (Or.inl ⟨by rfl, ?_⟩) (by assumption) ?_
    rotate_left
    · intro w hSw; (try dsimp only at hSw); go_simp; first | done | (with_reducible rfl)
    simp only [Act.put, List.setIfInBounds_toArray, List.set_cons_zero, List.set_cons_succ]
    refine tkq 3 (some 25) (v := ?_) rfl (Or.inl ⟨by rfl, ?_⟩) (by assumption) ?_
    rotate_left
    · intro w hSw; (try dsimp only at hSw); go_simp; first | done | (with_reducible rfl)
    simp only [Act.put, List.setIfInBounds_toArray, List.set_cons_zero, List.set_cons_succ]
    refine tkq 4 (some 26) (v := ?_) rfl (Or.inl ⟨by rfl, ?_⟩) (by assumption) ?_
    rotate_left
    · intro w hSw; (try dsimp only at hSw); go_simp; first | done | (with_reducible rfl)
    simp only [Act.put, List.setIfInBounds_toArray, List.set_cons_zero, List.set_cons_succ]
    refine tkq 5 (some 27) (v := ?_) rfl (Or.inl ⟨by rfl, ?_⟩) (by assumption) ?_
    rotate_left
    · intro w hSw; (try dsimp only at hSw); go_simp; first | done | (with_reducible rfl)
    simp only [Act.put, List.setIfInBounds_toArray, List.set_cons_zero, List.set_cons_succ]
    refine tkq 9 (some 31) (v := ?_) rfl (Or.inl ⟨by rfl, ?_⟩) (by assumption) ?_
    rotate_left
    · intro w hSw; (try dsimp only at hSw); go_simp; first | done | (with_reducible rfl)
    simp only [Act.put, List.setIfInBounds_toArray, List.set_cons_zero, List.set_cons_succ]
    refine tkq 10 (some 32) (v := ?_) rfl (Or.inl ⟨by rfl, ?_⟩) (by assumption) ?_
    rotate_left
    · intro w hSw; (try dsimp only at hSw); go_simp; first | done | (with_reducible rfl)
    simp only [Act.put, List.setIfInBounds_toArray, List.set_cons_zero, List.set_cons_succ]
    refine tkq 11 (some 33) (v := ?_) rfl (Or.inl ⟨by rfl, ?_⟩) (by assumption) ?_
    rotate_left
    · intro w hSw; (try dsimp only at hSw); go_simp; first | done | (with_reducible rfl)
    simp only [Act.put, List.setIfInBounds_toArray, List.set_cons_zero, List.set_cons_succ]
    refine tkq 12 (some 34) (v := ?_) rfl (Or.inl ⟨by rfl, ?_⟩) (by assumption) ?_
    rotate_left
    · intro w hSw; (try dsimp only at hSw); go_simp; first | done | (with_reducible rfl)
    simp only [Act.put, List.setIfInBounds_toArray, List.set_cons_zero, List.set_cons_succ]
    refine tkq 13 (some 35) (v := ?_) rfl (Or.inl ⟨by rfl, ?_⟩) (by assumption) ?_
    rotate_left
    · intro w hSw; (try dsimp only at hSw); go_simp; first | done | (with_reducible rfl)
    simp only [Act.put, List.setIfInBounds_toArray, List.set_cons_zero, List.set_cons_succ]
    refine tkq 14 (some 36) (v := ?_) rfl (Or.inl ⟨by rfl, ?_⟩) (by assumption) ?_
    rotate_left
    · intro w hSw; (try dsimp only at hSw); go_simp; first | done | (with_reducible rfl)
    simp only [Act.put, List.setIfInBounds_toArray, List.set_cons_zero, List.set_cons_succ]
    refine tkq 15 (some 37) (v := ?_) rfl (Or.inl ⟨by rfl, ?_⟩) (by assumption) ?_
    rotate_left
    · intro w hSw; (try dsimp only at hSw); go_simp; first | done | (with_reducible rfl)
    simp only [Act.put, List.setIfInBounds_toArray, List.set_cons_zero, List.set_cons_succ]
    refine wpAnyH_ready (rs := [6, 16, 18]) (by kernel_rfl) (by simp) ?_
    refine AllReadyH.cons rfl (fun K hK => ?_) (AllReadyH.cons rfl (fun K hK => ?_) (AllReadyH.cons rfl (fun K hK => ?_) (AllReadyH.nil)))
    · go_simp
      go_wp2_with (go_at_call 16; (with_reducible refine (within11_any skip 0 2 _ hsk (by omega) (by omega) (by omega)).mono ?_); rintro e w6 ⟨rz, rfl, hr1, hr2, hw6⟩)
      subst w6
      have hwn : IntKind.u64.wrap (nx + rz) = nx + rz := by rw [IntKind.wrap_u64]; omega
      have hwr : IntKind.u64.wrap rz = rz := by rw [IntKind.wrap_u64]; omega
      refine hK.out _ _ ((HK2.out _ hd0)) (fun hHeld => ?_)
      clear hK K
      refine tkq 7 (some 29) (v := ?_) rfl (Or.inl ⟨by rfl, ?_⟩) (by assumption) ?_
      rotate_left
      · intro w hSw; (try dsimp only at hSw); go_simp; first | done | (with_reducible rfl)
      simp only [Act.put, List.setIfInBounds_toArray, List.set_cons_zero, List.set_cons_succ]
      refine tkq 8 (some 30) (v := ?_) rfl (Or.inl ⟨by rfl, ?_⟩) (by assumption) ?_
      rotate_left
      · intro w hSw; (try dsimp only at hSw); go_simp; first | done | (with_reducible rfl)
      simp only [Act.put, List.setIfInBounds_toArray, List.set_cons_zero, List.set_cons_succ]
      refine wpAnyH_ready (rs := [16, 18]) (by kernel_rfl) (by simp) ?_
      refine AllReadyH.cons rfl (fun K hK => ?_) (AllReadyH.cons rfl (fun K hK => ?_) (AllReadyH.nil))
      · go_simp
        go_wp2_with (fail)
        refine hK.out _ _ ((HK2.out _ (hd0.alloc (Nat.le_of_eq hzs.symm) _))) (fun hHeld => ?_)
        clear hK K
        refine tkq 17 (some 39) (v := ?_) rfl (Or.inl ⟨by rfl, ?_⟩) (by assumption) ?_
        rotate_left
        · intro w hSw; (try dsimp only at hSw); go_simp; first | done | (with_reducible rfl)
        simp only [Act.put, List.setIfInBounds_toArray, List.set_cons_zero, List.set_cons_succ]
        refine wpAnyH_ready (rs := [18]) (by kernel_rfl) (by simp) ?_
        refine AllReadyH.cons rfl (fun K hK => ?_) AllReadyH.nil
        go_simp
        go_wp2_with (fail)
        refine hK.out _ _ ((HK2.out _ ((hd0.alloc (Nat.le_of_eq hzs.symm) _).alloc (by simp; omega) _))) (fun hHeld => ?_)
        clear hK K
        refine wpAnyH_ready (rs := [19]) (by kernel_rfl) (by simp) ?_
        refine AllReadyH.cons rfl (fun K hK => ?_) AllReadyH.nil
        refine step_st_any (by rfl) (X.heap.size + 1) 31 [.int .u64 0, .int .i64 0, .int .i64 0, .bool false, .slice none 0 0] (pkC ⟨nx + rz, time, size, asks, some ⟨X.heap.size, 0, none⟩, 1, 1⟩) (by rfl) (by rfl) (At.new_ (w := Y.alloc _) 31 [.int .u64 0, .int .i64 0, .int .i64 0, .bool false, .slice none 0 0] (X.heap.size + 1) (by simp [hzs])) rfl pk_size (by rfl) ?_
        intro w8 hAn hkn
        have hb8 : Below X.heap.size X w8 := hkn.below ((hd0.alloc (Nat.le_of_eq hzs.symm) _).alloc (by simp; omega) _) (by simp; omega) (fun j hj => by omega)
        have hf8 := At.kept ((At.new_ (w := Y) 68 pingL X.heap.size (by simp [hzs])).alloc _) hkn (show ¬ X.heap.size = (X.heap.size + 1) by omega)
        refine hK.out _ _ ((HK2.out _ hb8)) (fun hHeld => ?_)
        clear hK K
        refine wpAnyH_done (by kernel_rfl) ?_ _
        go_wp2_with fail
        go_meet
        exact ⟨_, _, rfl, Lib.hid ⟨hAn, frok_ping hf8 (by have := HX.out.sz; omega), hb8, by omega⟩⟩
      · go_simp
        go_wp2_with (fail)
        refine hK.out _ _ ((HK2.out _ (hd0.alloc (Nat.le_of_eq hzs.symm) _))) (fun hHeld => ?_)
        clear hK K
        refine wpAnyH_ready (rs := [16]) (by kernel_rfl) (by simp) ?_
        refine AllReadyH.cons rfl (fun K hK => ?_) AllReadyH.nil
        go_simp
        go_wp2_with (fail)
        refine hK.out _ _ ((HK2.out _ ((hd0.alloc (Nat.le_of_eq hzs.symm) _).alloc (by simp; omega) _))) (fun hHeld => ?_)
        clear hK K
        refine tkq 17 (some 39) (v := ?_) rfl (Or.inl ⟨by rfl, ?_⟩) (by assumption) ?_
        rotate_left
        · intro w hSw; (try dsimp only at hSw); go_simp; first | done | (with_reducible rfl)
        simp only [Act.put, List.setIfInBounds_toArray, List.set_cons_zero, List.set_cons_succ]
        refine wpAnyH_ready (rs := [19]) (by kernel_rfl) (by simp) ?_
        refine AllReadyH.cons rfl (fun K hK => ?_) AllReadyH.nil
        refine step_st_any (by rfl) X.heap.size 31 [.int .u64 0, .int .i64 0, .int .i64 0, .bool false, .slice none 0 0] (pkC ⟨nx + rz, time, size, asks, some ⟨(X.heap.size + 1), 0, none⟩, 1, 1⟩) (by rfl) (by rfl) ((At.new_ (w := Y) 31 [.int .u64 0, .int .i64 0, .int .i64 0, .bool false, .slice none 0 0] X.heap.size (by simp [hzs])).alloc _) rfl pk_size (by rfl) ?_
        intro w8 hAn hkn
        have hb8 : Below X.heap.size X w8 := hkn.below ((hd0.alloc (Nat.le_of_eq hzs.symm) _).alloc (by simp; omega) _) (by simp; omega) (fun j hj => by omega)
        have hf8 := At.kept (At.new_ (w := Y.alloc _) 68 pingL (X.heap.size + 1) (by simp [hzs])) hkn (show ¬ (X.heap.size + 1) = X.heap.size by omega)
        refine hK.out _ _ ((HK2.out _ hb8)) (fun hHeld => ?_)
        clear hK K
        refine wpAnyH_done (by kernel_rfl) ?_ _
        go_wp2_with fail
        go_meet
        exact ⟨_, _, rfl, Lib.hid ⟨hAn, frok_ping hf8 (by have := HX.out.sz; omega), hb8, by omega⟩⟩
    · go_simp
      go_wp2_with (fail)
      refine hK.out _ _ ((HK2.out _ (hd0.alloc (Nat.le_of_eq hzs.symm) _))) (fun hHeld => ?_)
      clear hK K
      refine wpAnyH_ready (rs := [6, 18]) (by kernel_rfl) (by simp) ?_
      refine AllReadyH.cons rfl (fun K hK => ?_) (AllReadyH.cons rfl (fun K hK => ?_) (AllReadyH.nil))
      · go_simp
        go_wp2_with (go_at_call 16; (with_reducible refine (within11_any skip 0 2 _ hsk (by omega) (by omega) (by omega)).mono ?_); rintro e w6 ⟨rz, rfl, hr1, hr2, hw6⟩)
        subst w6
        have hwn : IntKind.u64.wrap (nx + rz) = nx + rz := by rw [IntKind.wrap_u64]; omega
        have hwr : IntKind.u64.wrap rz = rz := by rw [IntKind.wrap_u64]; omega
        refine hK.out _ _ ((HK2.out _ (hd0.alloc (Nat.le_of_eq hzs.symm) _))) (fun hHeld => ?_)
        clear hK K
        refine tkq 7 (some 29) (v := ?_) rfl (Or.inl ⟨by rfl, ?_⟩) (by assumption) ?_
        rotate_left
        · intro w hSw; (try dsimp only at hSw); go_simp; first | done | (with_reducible rfl)
        simp only [Act.put, List.setIfInBounds_toArray, List.set_cons_zero, List.set_cons_succ]
        refine tkq 8 (some 30) (v := ?_) rfl (Or.inl ⟨by rfl, ?_⟩) (by assumption) ?_
        rotate_left
        · intro w hSw; (try dsimp only at hSw); go_simp; first | done | (with_reducible rfl)
        simp only [Act.put, List.setIfInBounds_toArray, List.set_cons_zero, List.set_cons_succ]
        refine tkq 17 (some 39) (v := ?_) rfl (Or.inl ⟨by rfl, ?_⟩) (by assumption) ?_
        rotate_left
        · intro w hSw; (try dsimp only at hSw); go_simp; first | done | (with_reducible rfl)
        simp only [Act.put, List.setIfInBounds_toArray, List.set_cons_zero, List.set_cons_succ]
        refine wpAnyH_ready (rs := [18]) (by kernel_rfl) (by simp) ?_
        refine AllReadyH.cons rfl (fun K hK => ?_) AllReadyH.nil
        go_simp
        go_wp2_with (fail)
        refine hK.out _ _ ((HK2.out _ ((hd0.alloc (Nat.le_of_eq hzs.symm) _).alloc (by simp; omega) _))) (fun hHeld => ?_)
        clear hK K
        refine wpAnyH_ready (rs := [19]) (by kernel_rfl) (by simp) ?_
        refine AllReadyH.cons rfl (fun K hK => ?_) AllReadyH.nil
        refine step_st_any (by rfl) (X.heap.size + 1) 31 [.int .u64 0, .int .i64 0, .int .i64 0, .bool false, .slice none 0 0] (pkC ⟨nx + rz, time, size, asks, some ⟨X.heap.size, 0, none⟩, 1, 1⟩) (by rfl) (by rfl) (At.new_ (w := Y.alloc _) 31 [.int .u64 0, .int .i64 0, .int .i64 0, .bool false, .slice none 0 0] (X.heap.size + 1) (by simp [hzs])) rfl pk_size (by rfl) ?_
        intro w8 hAn hkn
        have hb8 : Below X.heap.size X w8 := hkn.below ((hd0.alloc (Nat.le_of_eq hzs.symm) _).alloc (by simp; omega) _) (by simp; omega) (fun j hj => by omega)
        have hf8 := At.kept ((At.new_ (w := Y) 68 pingL X.heap.size (by simp [hzs])).alloc _) hkn (show ¬ X.heap.size = (X.heap.size + 1) by omega)
        refine hK.out _ _ ((HK2.out _ hb8)) (fun hHeld => ?_)
        clear hK K
        refine wpAnyH_done (by kernel_rfl) ?_ _
        go_wp2_with fail
        go_meet
        exact ⟨_, _, rfl, Lib.hid ⟨hAn, frok_ping hf8 (by have := HX.out.sz; omega), hb8, by omega⟩⟩
      · go_simp
        go_wp2_with (fail)
        refine hK.out _ _ ((HK2.out _ ((hd0.alloc (Nat.le_of_eq hzs.symm) _).alloc (by simp; omega) _))) (fun hHeld => ?_)
        clear hK K
        refine wpAnyH_ready (rs := [6]) (by kernel_rfl) (by simp) ?_
        refine AllReadyH.cons rfl (fun K hK => ?_) AllReadyH.nil
        go_simp
        go_wp2_with (go_at_call 16; (with_reducible refine (within11_any skip 0 2 _ hsk (by omega) (by omega) (by omega)).mono ?_); rintro e w6 ⟨rz, rfl, hr1, hr2, hw6⟩)
        subst w6
        have hwn : IntKind.u64.wrap (nx + rz) = nx + rz := by rw [IntKind.wrap_u64]; omega
        have hwr : IntKind.u64.wrap rz = rz := by rw [IntKind.wrap_u64]; omega
        refine hK.out _ _ ((HK2.out _ ((hd0.alloc (Nat.le_of_eq hzs.symm) _).alloc (by simp; omega) _))) (fun hHeld => ?_)
        clear hK K
        refine tkq 7 (some 29) (v := ?_) rfl (Or.inl ⟨by rfl, ?_⟩) (by assumption) ?_
        rotate_left
        · intro w hSw; (try dsimp only at hSw); go_simp; first | done | (with_reducible rfl)
        simp only [Act.put, List.setIfInBounds_toArray, List.set_cons_zero, List.set_cons_succ]
        refine tkq 8 (some 30) (v := ?_) rfl (Or.inl ⟨by rfl, ?_⟩) (by assumption) ?_
        rotate_left
        · intro w hSw; (try dsimp only at hSw); go_simp; first | done | (with_reducible rfl)
        simp only [Act.put, List.setIfInBounds_toArray, List.set_cons_zero, List.set_cons_succ]
        refine tkq 17 (some 39) (v := ?_) rfl (Or.inl ⟨by rfl, ?_⟩) (by assumption) ?_
        rotate_left
        · intro w hSw; (try dsimp only at hSw); go_simp; first | done | (with_reducible rfl)
        simp only [Act.put, List.setIfInBounds_toArray, List.set_cons_zero, List.set_cons_succ]
        refine wpAnyH_ready (rs := [19]) (by kernel_rfl) (by simp) ?_
        refine AllReadyH.cons rfl (fun K hK => ?_) AllReadyH.nil
        refine step_st_any (by rfl) (X.heap.size + 1) 31 [.int .u64 0, .int .i64 0, .int .i64 0, .bool false, .slice none 0 0] (pkC ⟨nx + rz, time, size, asks, some ⟨X.heap.size, 0, none⟩, 1, 1⟩) (by rfl) (by rfl) (At.new_ (w := Y.alloc _) 31 [.int .u64 0, .int .i64 0, .int .i64 0, .bool false, .slice none 0 0] (X.heap.size + 1) (by simp [hzs])) rfl pk_size (by rfl) ?_
        intro w8 hAn hkn
        have hb8 : Below X.heap.size X w8 := hkn.below ((hd0.alloc (Nat.le_of_eq hzs.symm) _).alloc (by simp; omega) _) (by simp; omega) (fun j hj => by omega)
        have hf8 := At.kept ((At.new_ (w := Y) 68 pingL X.heap.size (by simp [hzs])).alloc _) hkn (show ¬ X.heap.size = (X.heap.size + 1) by omega)
        refine hK.out _ _ ((HK2.out _ hb8)) (fun hHeld => ?_)
        clear hK K
        refine wpAnyH_done (by kernel_rfl) ?_ _
        go_wp2_with fail
        go_meet
        exact ⟨_, _, rfl, Lib.hid ⟨hAn, frok_ping hf8 (by have := HX.out.sz; omega), hb8, by omega⟩⟩
    · go_simp
      go_wp2_with (fail)
      refine hK.out _ _ ((HK2.out _ (hd0.alloc (Nat.le_of_eq hzs.symm) _))) (fun hHeld => ?_)
      clear hK K
      refine wpAnyH_ready (rs := [6, 16]) (by kernel_rfl) (by simp) ?_
      refine AllReadyH.cons rfl (fun K hK => ?_) (AllReadyH.cons rfl (fun K hK => ?_) (AllReadyH.nil))
      · go_simp
        go_wp2_with (go_at_call 16; (with_reducible refine (within11_any skip 0 2 _ hsk (by omega) (by omega) (by omega)).mono ?_); rintro e w6 ⟨rz, rfl, hr1, hr2, hw6⟩)
        subst w6
        have hwn : IntKind.u64.wrap (nx + rz) = nx + rz := by rw [IntKind.wrap_u64]; omega
        have hwr : IntKind.u64.wrap rz = rz := by rw [IntKind.wrap_u64]; omega
        refine hK.out _ _ ((HK2.out _ (hd0.alloc (Nat.le_of_eq hzs.symm) _))) (fun hHeld => ?_)
        clear hK K
        refine tkq 7 (some 29) (v := ?_) rfl (Or.inl ⟨by rfl, ?_⟩) (by assumption) ?_
        rotate_left
        · intro w hSw; (try dsimp only at hSw); go_simp; first | done | (with_reducible rfl)
        simp only [Act.put, List.setIfInBounds_toArray, List.set_cons_zero, List.set_cons_succ]
        refine tkq 8 (some 30) (v := ?_) rfl (Or.inl ⟨by rfl, ?_⟩) (by assumption) ?_
        rotate_left
        · intro w hSw; (try dsimp only at hSw); go_simp; first | done | (with_reducible rfl)
        simp only [Act.put, List.setIfInBounds_toArray, List.set_cons_zero, List.set_cons_succ]
        refine wpAnyH_ready (rs := [16]) (by kernel_rfl) (by simp) ?_
        refine AllReadyH.cons rfl (fun K hK => ?_) AllReadyH.nil
        go_simp
        go_wp2_with (fail)
        refine hK.out _ _ ((HK2.out _ ((hd0.alloc (Nat.le_of_eq hzs.symm) _).alloc (by simp; omega) _))) (fun hHeld => ?_)
        clear hK K
        refine tkq 17 (some 39) (v := ?_) rfl (Or.inl ⟨by rfl, ?_⟩) (by assumption) ?_
        rotate_left
        · intro w hSw; (try dsimp only at hSw); go_simp; first | done | (with_reducible rfl)
        simp only [Act.put, List.setIfInBounds_toArray, List.set_cons_zero, List.set_cons_succ]
        refine wpAnyH_ready (rs := [19]) (by kernel_rfl) (by simp) ?_
        refine AllReadyH.cons rfl (fun K hK => ?_) AllReadyH.nil
        refine step_st_any (by rfl) X.heap.size 31 [.int .u64 0, .int .i64 0, .int .i64 0, .bool false, .slice none 0 0] (pkC ⟨nx + rz, time, size, asks, some ⟨(X.heap.size + 1), 0, none⟩, 1, 1⟩) (by rfl) (by rfl) ((At.new_ (w := Y) 31 [.int .u64 0, .int .i64 0, .int .i64 0, .bool false, .slice none 0 0] X.heap.size (by simp [hzs])).alloc _) rfl pk_size (by rfl) ?_
        intro w8 hAn hkn
        have hb8 : Below X.heap.size X w8 := hkn.below ((hd0.alloc (Nat.le_of_eq hzs.symm) _).alloc (by simp; omega) _) (by simp; omega) (fun j hj => by omega)
        have hf8 := At.kept (At.new_ (w := Y.alloc _) 68 pingL (X.heap.size + 1) (by simp [hzs])) hkn (show ¬ (X.heap.size + 1) = X.heap.size by omega)
        refine hK.out _ _ ((HK2.out _ hb8)) (fun hHeld => ?_)
        clear hK K
        refine wpAnyH_done (by kernel_rfl) ?_ _
        go_wp2_with fail
        go_meet
        exact ⟨_, _, rfl, Lib.hid ⟨hAn, frok_ping hf8 (by have := HX.out.sz; omega), hb8, by omega⟩⟩
      · go_simp
        go_wp2_with (fail)
        refine hK.out _ _ ((HK2.out _ ((hd0.alloc (Nat.le_of_eq hzs.symm) _).alloc (by simp; omega) _))) (fun hHeld => ?_)
        clear hK K
        refine wpAnyH_ready (rs := [6]) (by kernel_rfl) (by simp) ?_
        refine AllReadyH.cons rfl (fun K hK => ?_) AllReadyH.nil
        go_simp
        go_wp2_with (go_at_call 16; (with_reducible refine (within11_any skip 0 2 _ hsk (by omega) (by omega) (by omega)).mono ?_); rintro e w6 ⟨rz, rfl, hr1, hr2, hw6⟩)
        subst w6
        have hwn : IntKind.u64.wrap (nx + rz) = nx + rz := by rw [IntKind.wrap_u64]; omega
        have hwr : IntKind.u64.wrap rz = rz := by rw [IntKind.wrap_u64]; omega
        refine hK.out _ _ ((HK2.out _ ((hd0.alloc (Nat.le_of_eq hzs.symm) _).alloc (by simp; omega) _))) (fun hHeld => ?_)
        clear hK K
        refine tkq 7 (some 29) (v := ?_) rfl (Or.inl ⟨by rfl, ?_⟩) (by assumption) ?_
        rotate_left
        · intro w hSw; (try dsimp only at hSw); go_simp; first | done | (with_reducible rfl)
        simp only [Act.put, List.setIfInBounds_toArray, List.set_cons_zero, List.set_cons_succ]
        refine tkq 8 (some 30) (v := ?_) rfl (Or.inl ⟨by rfl, ?_⟩) (by assumption) ?_
        rotate_left
        · intro w hSw; (try dsimp only at hSw); go_simp; first | done | (with_reducible rfl)
        simp only [Act.put, List.setIfInBounds_toArray, List.set_cons_zero, List.set_cons_succ]
        refine tkq 17 (some 39) (v := ?_) rfl (Or.inl ⟨by rfl, ?_⟩) (by assumption) ?_
        rotate_left
        · intro w hSw; (try dsimp only at hSw); go_simp; first | done | (with_reducible rfl)
        simp only [Act.put, List.setIfInBounds_toArray, List.set_cons_zero, List.set_cons_succ]
        refine wpAnyH_ready (rs := [19]) (by kernel_rfl) (by simp) ?_
        refine AllReadyH.cons rfl (fun K hK => ?_) AllReadyH.nil
        refine step_st_any (by rfl) X.heap.size 31 [.int .u64 0, .int .i64 0, .int .i64 0, .bool false, .slice none 0 0] (pkC ⟨nx + rz, time, size, asks, some ⟨(X.heap.size + 1), 0, none⟩, 1, 1⟩) (by rfl) (by rfl) ((At.new_ (w := Y) 31 [.int .u64 0, .int .i64 0, .int .i64 0, .bool false, .slice none 0 0] X.heap.size (by simp [hzs])).alloc _) rfl pk_size (by rfl) ?_
        intro w8 hAn hkn
        have hb8 : Below X.heap.size X w8 := hkn.below ((hd0.alloc (Nat.le_of_eq hzs.symm) _).alloc (by simp; omega) _) (by simp; omega) (fun j hj => by omega)
        have hf8 := At.kept (At.new_ (w := Y.alloc _) 68 pingL (X.heap.size + 1) (by simp [hzs])) hkn (show ¬ (X.heap.size + 1) = X.heap.size by omega)
        refine hK.out _ _ ((HK2.out _ hb8)) (fun hHeld => ?_)
        clear hK K
        refine wpAnyH_done (by kernel_rfl) ?_ _
        go_wp2_with fail
        go_meet
        exact ⟨_, _, rfl, Lib.hid ⟨hAn, frok_ping hf8 (by have := HX.out.sz; omega), hb8, by omega⟩⟩
  case rest =>
    obtain ⟨g19, r, rfl, hall⟩ := hcut
    have HAC := Lib.hid (HA.out.below hall.out.2.2.1 HA.out.lt)
    have k0 := HAC.out.cell 0
    have hXz := hall.out.2.2.1.size
    have hg19 := hall.out.2.2.2
    have hNQ : ¬ g19 = q := fun hh => by have h9 := HX.out.rv.at_.lt; omega
    have HNP := Lib.hid (show ¬ (g19 = p ∨ v1.ownBlock = some g19) from fun hh => by
      rcases hh with hh | hh
      · have h9 := HX.out.lv.at_.lt; omega
      · have h9 := (ownG_lt HX.out.lv.own _ hh).2; omega)
    rcases Bool.eq_false_or_eq_true (k == 8) with h8 | h8
    · have HP7 : Hid (PkAt wc ga 7 ⟨pn, pt, ps, pa, pA, pk, pc⟩) := Lib.hid ⟨HAC.out.cell 7, HAC.out.cell 8, HAC.out.cell 9, HAC.out.cell 10, HAC.out.cell 11⟩
      go_upto_region 6 with (first | ((with_reducible refine at_ldp ?_); refine ld_pm ga 7 ⟨pn, pt, ps, pa, pA, pk, pc⟩ (by rfl) HP7.out ?_) | ((with_reducible refine at_stp ?_); refine st_pat g19 _ ⟨pn, pt, ps, pa, pA, pk, pc⟩ (by rfl) (by rfl) hall.out.1 rfl ?_; intro w8 hA8 hK8; have q4 := hA8.cell 4; have f4 := hA8.frozen 4) | fail)
      have hk9 : Kept (· = g19) wc (w8.setCell ⟨g19, 4, none⟩ (.slice none 0 0)) := hK8.trans ((Kept.refl _ _).setAt _ _)
      have HP := Lib.hid (show At (w8.setCell ⟨g19, 4, none⟩ (.slice none 0 0)) g19 31 (pkC ⟨pn, pt, ps, pa, none, 0, 0⟩) from hA8.set 4 _)
      have HBX := Lib.hid (hk9.below hall.out.2.2.1 hXz (fun j hj => by omega))
      have HFR := Lib.hid (FrOk.nil_ (w8.setCell ⟨g19, 4, none⟩ (.slice none 0 0)) B pn pt ps pa)
      clear q4 f4 hk9 hA8 hK8 HP7 hall k0 hXz HAC
      generalize World.setCell w8 _ _ = wt at *
      have HSX := Lib.hid (HX.out.below HBX.out)
      have hd0 : Below wt.heap.size wt wt.drew := ⟨rfl, rfl, rfl, Nat.le_refl _, fun _ _ => rfl⟩
      have HD := Lib.hid (HSX.out.below hd0)
      have HS1 := Lib.hid (saddU HD.out.lv ⟨pn, pt, ps, pa, none, 0, 0⟩ (HFR.out.below hd0) HD.out.gk)
      have HPD := Lib.hid (HP.out.below hd0 HP.out.lt)
      have hkeep0 : At wt.drew g19 31 (pkC ⟨pn, pt, ps, pa, none, 0, 0⟩) := HPD.out
      obtain ⟨Y, hY⟩ : ∃ x, wt.drew = x := ⟨_, rfl⟩
      rw [hY] at hd0 HD HS1 HPD
      refine wp_region_held_drew (S := (fun W => At W g19 31 (pkC ⟨pn, pt, ps, pa, none, 0, 0⟩))) (by kernel_rfl) (hkeep0) (fun hHeld => ?_)
      rw [hY] at hHeld ⊢
      clear hY hkeep0
      refine tkq 0 (some 46) (v := ?_) rfl (Or.inl ⟨by rfl, ?_⟩) (by assumption) ?_
      rotate_left
      · intro w hSw; (try dsimp only at hSw); go_simp; first | done | (with_reducible rfl)
      simp only [Act.put, List.setIfInBounds_toArray, List.set_cons_zero, List.set_cons_succ]
      refine tkq 1 (some 47) (v := ?_) rfl ?_ (by assumption) ?_
      rotate_left
      · refine yl_any 31 (.tmp 19) ?_ g19 0 ?_ (pkC ⟨pn, pt, ps, pa, none, 0, 0⟩) _ ?_ Try.underlying31 rfl ?_ ?_
        · rfl
        · rfl
        · intro w hSw; exact hSw.rangeAt
        · exact pk_size
        · rfl
      simp only [Act.put, List.setIfInBounds_toArray, List.set_cons_zero, List.set_cons_succ]
      refine tkq 3 (some 49) (v := ?_) rfl (Or.inl ⟨by rfl, ?_⟩) (by assumption) ?_
      rotate_left
      · intro w hSw; (try dsimp only at hSw); go_simp; first | done | (with_reducible rfl)
      simp only [Act.put, List.setIfInBounds_toArray, List.set_cons_zero, List.set_cons_succ]
      refine tkq 4 (some 50) (v := ?_) rfl ?_ (by assumption) ?_
      rotate_left
      · refine yl_any 31 (.tmp 19) ?_ g19 0 ?_ (pkC ⟨pn, pt, ps, pa, none, 0, 0⟩) _ ?_ Try.underlying31 rfl ?_ ?_
        · rfl
        · rfl
        · intro w hSw; exact hSw.rangeAt
        · exact pk_size
        · rfl
      simp only [Act.put, List.setIfInBounds_toArray, List.set_cons_zero, List.set_cons_succ]
      refine wpAnyH_ready (rs := [2]) (by kernel_rfl) (by simp) ?_
      refine AllReadyH.cons rfl (fun K hK => ?_) AllReadyH.nil
      go_simp
      go_wp2_with (go_at_call 10; (with_reducible refine HS1.out.mono ?_); rintro e w6 ⟨er1, n6, v6, l6, rfl, hl6, hk6, hv6, hx6⟩)
      have HP6 := Lib.hid (HPD.out.kept hk6 HNP.out)
      have HS2 := Lib.hid (raddU (HD.out.rvKept hk6) ⟨pn, pt, ps, pa, none, 0, 0⟩ (by rw [← HD.out.core]; exact HD.out.gk))
      refine hK.out _ _ (HP6.out) (fun hHeld => ?_)
      clear hK K
      refine wpAnyH_ready (rs := [5]) (by kernel_rfl) (by simp) ?_
      refine AllReadyH.cons rfl (fun K hK => ?_) AllReadyH.nil
      go_simp
      go_wp2_with (go_at_call 23; (with_reducible refine HS2.out.mono ?_); rintro e w7 ⟨er2, n7, v7, l7, rfl, hl7, hk7, hv7, hx7⟩)
      obtain ⟨hee, hsy⟩ := HD.out.adds hl6 hk6 hv6 hx6 hl7 hk7 hv7 hx7
      subst er2
      have HP7 := Lib.hid (HP6.out.kept hk7 hNQ)
      have HS9 := Lib.hid hsy
      clear hsy hl6 hk6 hv6 hx6 hl7 hk7 hv7 hx7 HS2 HS1 HD
      refine hK.out _ _ (HP7.out) (fun hHeld => ?_)
      clear hK K
      refine tkq 6 (some 52) (v := ?_) rfl (Or.inl ⟨by rfl, ?_⟩) (by assumption) ?_
      rotate_left
      · intro w hSw; (try dsimp only at hSw); go_simp; first | done | (with_reducible rfl)
      simp only [Act.put, List.setIfInBounds_toArray, List.set_cons_zero, List.set_cons_succ]
      refine wpAnyH_done (by kernel_rfl) ?_ _
      go_wp2_with fail
      refine HS9.out.same.mono ?_
      rintro e w10 ⟨rfl, hst⟩
      have HST := Lib.hid hst
      clear hst
      go_wp2
      go_ret
      exact ⟨rfl, HST.out⟩
    · have HP := Lib.hid hall.out.1
      have HBX := Lib.hid hall.out.2.2.1
      have HFR := Lib.hid hall.out.2.1
      go_upto_region 6 with fail
      clear hall k0 hXz HAC
      have HSX := Lib.hid (HX.out.below HBX.out)
      have hd0 : Below wc.heap.size wc wc.drew := ⟨rfl, rfl, rfl, Nat.le_refl _, fun _ _ => rfl⟩
      have HD := Lib.hid (HSX.out.below hd0)
      have HS1 := Lib.hid (saddU HD.out.lv r (HFR.out.below hd0) HD.out.gk)
      have HPD := Lib.hid (HP.out.below hd0 HP.out.lt)
      have hkeep0 : At wc.drew g19 31 (pkC r) := HPD.out
      obtain ⟨Y, hY⟩ : ∃ x, wc.drew = x := ⟨_, rfl⟩
      rw [hY] at hd0 HD HS1 HPD
      refine wp_region_held_drew (S := (fun W => At W g19 31 (pkC r))) (by kernel_rfl) (hkeep0) (fun hHeld => ?_)
      rw [hY] at hHeld ⊢
      clear hY hkeep0
      refine tkq 0 (some 46) (v := ?_) rfl (Or.inl ⟨by rfl, ?_⟩) (by assumption) ?_
      rotate_left
      · intro w hSw; (try dsimp only at hSw); go_simp; first | done | (with_reducible rfl)
      simp only [Act.put, List.setIfInBounds_toArray, List.set_cons_zero, List.set_cons_succ]
      refine tkq 1 (some 47) (v := ?_) rfl ?_ (by assumption) ?_
      rotate_left
      · refine yl_any 31 (.tmp 19) ?_ g19 0 ?_ (pkC r) _ ?_ Try.underlying31 rfl ?_ ?_
        · rfl
        · rfl
        · intro w hSw; exact hSw.rangeAt
        · exact pk_size
        · rfl
      simp only [Act.put, List.setIfInBounds_toArray, List.set_cons_zero, List.set_cons_succ]
      refine tkq 3 (some 49) (v := ?_) rfl (Or.inl ⟨by rfl, ?_⟩) (by assumption) ?_
      rotate_left
      · intro w hSw; (try dsimp only at hSw); go_simp; first | done | (with_reducible rfl)
      simp only [Act.put, List.setIfInBounds_toArray, List.set_cons_zero, List.set_cons_succ]
      refine tkq 4 (some 50) (v := ?_) rfl ?_ (by assumption) ?_
      rotate_left
      · refine yl_any 31 (.tmp 19) ?_ g19 0 ?_ (pkC r) _ ?_ Try.underlying31 rfl ?_ ?_
        · rfl
        · rfl
        · intro w hSw; exact hSw.rangeAt
        · exact pk_size
        · rfl
      simp only [Act.put, List.setIfInBounds_toArray, List.set_cons_zero, List.set_cons_succ]
      refine wpAnyH_ready (rs := [2]) (by kernel_rfl) (by simp) ?_
      refine AllReadyH.cons rfl (fun K hK => ?_) AllReadyH.nil
      go_simp
      go_wp2_with (go_at_call 10; (with_reducible refine HS1.out.mono ?_); rintro e w6 ⟨er1, n6, v6, l6, rfl, hl6, hk6, hv6, hx6⟩)
      have HP6 := Lib.hid (HPD.out.kept hk6 HNP.out)
      have HS2 := Lib.hid (raddU (HD.out.rvKept hk6) r (by rw [← HD.out.core]; exact HD.out.gk))
      refine hK.out _ _ (HP6.out) (fun hHeld => ?_)
      clear hK K
      refine wpAnyH_ready (rs := [5]) (by kernel_rfl) (by simp) ?_
      refine AllReadyH.cons rfl (fun K hK => ?_) AllReadyH.nil
      go_simp
      go_wp2_with (go_at_call 23; (with_reducible refine HS2.out.mono ?_); rintro e w7 ⟨er2, n7, v7, l7, rfl, hl7, hk7, hv7, hx7⟩)
      obtain ⟨hee, hsy⟩ := HD.out.adds hl6 hk6 hv6 hx6 hl7 hk7 hv7 hx7
      subst er2
      have HP7 := Lib.hid (HP6.out.kept hk7 hNQ)
      have HS9 := Lib.hid hsy
      clear hsy hl6 hk6 hv6 hx6 hl7 hk7 hv7 hx7 HS2 HS1 HD
      refine hK.out _ _ (HP7.out) (fun hHeld => ?_)
      clear hK K
      refine tkq 6 (some 52) (v := ?_) rfl (Or.inl ⟨by rfl, ?_⟩) (by assumption) ?_
      rotate_left
      · intro w hSw; (try dsimp only at hSw); go_simp; first | done | (with_reducible rfl)
      simp only [Act.put, List.setIfInBounds_toArray, List.set_cons_zero, List.set_cons_succ]
      refine wpAnyH_done (by kernel_rfl) ?_ _
      go_wp2_with fail
      refine HS9.out.same.mono ?_
      rintro e w10 ⟨rfl, hst⟩
      have HST := Lib.hid hst
      clear hst
      go_wp2
      go_ret
      exact ⟨rfl, HST.out⟩
end
end Go.Proofs.Ytpihgikcgkipaaa
