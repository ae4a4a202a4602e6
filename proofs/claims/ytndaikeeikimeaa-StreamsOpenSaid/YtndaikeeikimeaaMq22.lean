/-
  streams.Set: fresh's walk.
-/
import Derived.Test.YtndaikeeikimeaaMq21
import Derived.Test.YtndaikeeikimeaaMq9
namespace Go.Proofs.Ytndaikeeikimeaa
section
set_option linter.unusedVariables false
set_option linter.unusedSimpArgs false
open Go.RowKit
section
variable {w0 W W' : World} {s : Nat} {v0 v1 v : Value} {E0 E1 L : List En} {X : XS}
set_option maxRecDepth 100000 in
set_option maxHeartbeats 4000000 in
theorem fresh_any (h : Tt w0 W s v0 v1 E0 E1 X) (id : Nat) (hid : id < 18446744073709551616) (hmsd : X.msd < 18446744073709551616) (htsd : X.tsd < 18446744073709551616) :
    Calls Try.prog 26 #[.pointer (some ⟨s, 0, none⟩), .int .u64 id] W (FrPo w0 W X id) := by
  obtain ⟨Y, hY⟩ : ∃ x, W.drew = x := ⟨_, rfl⟩
  have hbY : Below W.heap.size W Y := by rw [← hY]; exact belowN (Below.refl _ _) 1
  have hTY : Tt w0 Y s v0 v1 E0 E1 X := h.below hbY
  have c3 := hTY.c3
  have HC3 : Hid (∀ w1, Below Y.heap.size Y w1 → w1.cell? ⟨s, 3, none⟩ = some (.int .u64 X.msd)) := Lib.hid (fun w1 k => (k.cell (p := ⟨s, 3, none⟩) hTY.at_.lt).trans hTY.c3)
  have HC15 : Hid (∀ w1, Below Y.heap.size Y w1 → w1.cell? ⟨s, 15, none⟩ = some (.int .u64 X.tsd)) := Lib.hid (fun w1 k => (k.cell (p := ⟨s, 15, none⟩) hTY.at_.lt).trans hTY.c15)
  have HN := Lib.hid (sx_new (w0 := w0) (W := Y) id hid hTY.bl)
  have HR := Lib.hid (fun w1 => q_new id X.msd hid hmsd w1)
  have HBY := Lib.hid hbY
  have HZ : Hid (w0.heap.size ≤ Y.heap.size) := Lib.hid hTY.bl.size
  have HOK := Lib.hid (qs0_ok id X.msd hid)
  have HLI := Lib.hid (fun (w5 : World) (q : Nat) (O : Nat → Prop) (h5 : Sx w0 w5 q O (ss0 id)) => sx_call h5 fun p hp => sm_limit hp X.tsd htsd)
  clear h hbY hTY hid
  go_enter Try.func26, Try.ntmps26
  go_wp2_with fail
  refine wp_region_held_drew (S := (fun W => W.cell? ⟨s, 3, none⟩ = some (.int .u64 X.msd))) (by kernel_rfl) (by rw [hY]; exact c3) (fun hHeld => ?_)
  rw [hY] at hHeld ⊢
  clear hY
  refine tkq 0 (some 6) (v := ?_) rfl (Or.inl ⟨by rfl, ?_⟩) (by assumption) ?_
  rotate_left
  · intro w hSw; (try dsimp only at hSw); go_simp; first | done | (with_reducible rfl)
  simp only [Act.put, List.setIfInBounds_toArray, List.set_cons_zero, List.set_cons_succ]
  refine tkq 1 (some 7) (v := ?_) rfl (Or.inl ⟨by rfl, ?_⟩) (by assumption) ?_
  rotate_left
  · intro w hSw; (try dsimp only at hSw); go_simp; first | done | (with_reducible rfl)
  simp only [Act.put, List.setIfInBounds_toArray, List.set_cons_zero, List.set_cons_succ]
  refine tkq 3 (some 9) (v := ?_) rfl (Or.inl ⟨by rfl, ?_⟩) (by assumption) ?_
  rotate_left
  · intro w hSw; (try dsimp only at hSw); go_simp; first | done | (with_reducible rfl)
  simp only [Act.put, List.setIfInBounds_toArray, List.set_cons_zero, List.set_cons_succ]
  refine tkq 4 (some 10) (v := ?_) rfl (Or.inl ⟨by rfl, ?_⟩) (by assumption) ?_
  rotate_left
  · intro w hSw; (try dsimp only at hSw); go_simp; first | done | (with_reducible rfl)
  simp only [Act.put, List.setIfInBounds_toArray, List.set_cons_zero, List.set_cons_succ]
  refine tkq 5 (some 11) (v := ?_) rfl (Or.inl ⟨by rfl, ?_⟩) (by assumption) ?_
  rotate_left
  · intro w hSw; (try dsimp only at hSw); go_simp; first | done | (with_reducible rfl)
  simp only [Act.put, List.setIfInBounds_toArray, List.set_cons_zero, List.set_cons_succ]
  refine tkq 6 (some 12) (v := ?_) rfl (Or.inl ⟨by rfl, ?_⟩) (by assumption) ?_
  rotate_left
  · intro w hSw; (try dsimp only at hSw); go_simp; first | done | (with_reducible rfl)
  simp only [Act.put, List.setIfInBounds_toArray, List.set_cons_zero, List.set_cons_succ]
  refine tkq 7 (some 13) (v := ?_) rfl (Or.inl ⟨by rfl, ?_⟩) (by assumption) ?_
  rotate_left
  · intro w hSw; (try dsimp only at hSw); go_simp; first | done | (with_reducible rfl)
  simp only [Act.put, List.setIfInBounds_toArray, List.set_cons_zero, List.set_cons_succ]
  refine tkq 8 (some 14) (v := ?_) rfl (Or.inl ⟨by rfl, ?_⟩) (by assumption) ?_
  rotate_left
  · intro w hSw; (try dsimp only at hSw); go_simp; first | done | (with_reducible rfl)
  simp only [Act.put, List.setIfInBounds_toArray, List.set_cons_zero, List.set_cons_succ]
  refine wpAnyH_ready (rs := [2]) (by kernel_rfl) (by simp) ?_
  refine AllReadyH.cons rfl (fun K hK => ?_) AllReadyH.nil
  go_simp
  go_wp2_with (go_at_call 32; (with_reducible refine HN.out.mono ?_); rintro e w1 ⟨q, rfl, ⟨Oq, hq, hqn⟩, hb1⟩; have HQ := Lib.hid hq; have HQN := Lib.hid hqn; have HB1 := Lib.hid hb1; clear hq hqn hb1)
  refine hK.out _ _ (HC3.out w1 HB1.out) (fun hHeld => ?_)
  clear hK K
  refine wpAnyH_ready (rs := [9]) (by kernel_rfl) (by simp) ?_
  refine AllReadyH.cons rfl (fun K hK => ?_) AllReadyH.nil
  go_simp
  go_wp2_with (go_at_call 33; (with_reducible refine (HR.out _).mono ?_); rintro e w2 ⟨p, rfl, ⟨Op, hp⟩, hb2⟩; have HP := Lib.hid hp; have HB2 := Lib.hid hb2; have HB3 := Lib.hid (HB1.out.trans (hb2.mono HB1.out.size)); clear hp hb2)
  refine hK.out _ _ (HC3.out w2 HB3.out) (fun hHeld => ?_)
  clear hK K
  refine tkq 10 (some 16) (v := ?_) rfl (Or.inl ⟨by rfl, ?_⟩) (by assumption) ?_
  rotate_left
  · intro w hSw; (try dsimp only at hSw); go_simp; first | done | (with_reducible rfl)
  simp only [Act.put, List.setIfInBounds_toArray, List.set_cons_zero, List.set_cons_succ]
  refine wpAnyH_ready (rs := [11]) (by kernel_rfl) (by simp) ?_
  refine AllReadyH.cons rfl (fun K hK => ?_) AllReadyH.nil
  go_simp
  go_wp2_with (fail)
  refine hK.out _ _ (HC3.out _ (HB3.out.alloc HB3.out.size _)) (fun hHeld => ?_)
  clear hK K
  refine tkq 12 (some 5) (v := ?_) rfl (Or.inl ⟨by rfl, ?_⟩) (by assumption) ?_
  rotate_left
  · intro w hSw; (try dsimp only at hSw); go_simp; first | done | (with_reducible rfl)
  simp only [Act.put, List.setIfInBounds_toArray, List.set_cons_zero, List.set_cons_succ]
  refine wpAnyH_done (by kernel_rfl) ?_ _
  have hsq := sq_fresh (W := Y) (X := X) HZ.out HQ.out HQN.out HB1.out HP.out HB2.out HOK.out
  have hb4 : Below Y.heap.size Y (w2.alloc (.cells #[.int .u64 id, .pointer (some ⟨q, 0, none⟩), .pointer (some ⟨p, 0, none⟩), .int .u64 0, .slice none 0 0, .int .u64 0, .slice none 0 0] 61)) := HB3.out.alloc HB3.out.size _
  have hx4 : W.heap.size ≤ w2.heap.size := Nat.le_trans HBY.out.size HB3.out.size
  have HPN : Hid (∀ j, Op j → W.heap.size ≤ j) := Lib.hid (fun j hj => Nat.le_trans (Nat.le_trans HBY.out.size HB1.out.size) (HP.out.lt j hj).1)
  generalize w2.alloc (.cells #[.int .u64 id, .pointer (some ⟨q, 0, none⟩), .pointer (some ⟨p, 0, none⟩), .int .u64 0, .slice none 0 0, .int .u64 0, .slice none 0 0] 61) = w4 at hsq hb4 ⊢
  generalize w2.heap.size = x at hsq hx4 ⊢
  have d1 := hsq.c1
  have d15 := HC15.out _ hb4
  clear HN HR HC3 HC15 HP HB2 HB3 HOK c3 hHeld
  have HX4 := Lib.hid hx4
  have HSQ := Lib.hid hsq
  have HB4 := Lib.hid (HBY.out.trans (hb4.mono HBY.out.size))
  clear hsq hb4 hx4
  go_wp2_with fail
  go_still_tail 9, (by kernel_rfl)
  change wpList _ _ _ _ _ (World.drewN w4 1)
  have k5 : Below w4.heap.size w4 (w4.drewN 1) := belowN (Below.refl _ _) 1
  have HSQ5 := Lib.hid (HSQ.out.kept (Kept.of_below k5 fun _ => False) (fun _ _ h => h) (fun _ h => h.elim))
  have HB5 := Lib.hid (HB4.out.trans (k5.mono HB4.out.size))
  clear k5
  generalize w4.drewN 1 = w5 at HSQ5 HB5 ⊢
  have HL5 := Lib.hid (HLI.out w5 q Oq HSQ5.out.so)
  go_wp2_with (go_at_call 19; (with_reducible refine HL5.out.mono ?_); intro e w6 hP; have HPO := Lib.hid (fresh_end HSQ5.out HB5.out HX4.out (fun j hj => Nat.le_trans HBY.out.size (HQN.out j hj)) HPN.out hP); obtain ⟨he, _⟩ := hP; subst he)
  go_ret
  exact HPO.out
end
end
section
set_option linter.unusedVariables false
set_option linter.unusedSimpArgs false
open Go.RowKit
theorem Dj.ins {a b : List (Nat → Prop)} {P : Nat → Prop} (h : Dj (a ++ b)) (hP : ∀ Q ∈ a ++ b, ∀ x, P x → ¬ Q x) : Dj (a ++ P :: b) := by
  have key : ∀ (i : Nat) (A : Nat → Prop), (a ++ P :: b)[i]? = some A → (i = a.length ∧ A = P) ∨ ((a ++ b)[if i < a.length then i else i - 1]? = some A ∧ i ≠ a.length) := fun i A hi => by
    rcases Nat.lt_trichotomy i a.length with e | e | e
    · rw [List.getElem?_append_left e] at hi
      exact .inr ⟨by rw [if_pos e, List.getElem?_append_left e]; exact hi, by omega⟩
    · subst e
      rw [List.getElem?_append_right (Nat.le_refl _), Nat.sub_self] at hi
      injection hi with hi
      exact .inl ⟨rfl, hi.symm⟩
    · rw [List.getElem?_append_right (by omega), show i - a.length = (i - 1 - a.length) + 1 from by omega, List.getElem?_cons_succ] at hi
      exact .inr ⟨by rw [if_neg (by omega), List.getElem?_append_right (by omega)]; exact hi, by omega⟩
  intro i j A C hi hj hij x hA hC
  rcases key i A hi with ⟨e1, rfl⟩ | ⟨g1, n1⟩
  · rcases key j C hj with ⟨e2, rfl⟩ | ⟨g2, n2⟩
    · omega
    · exact hP C (List.mem_of_getElem? g2) x hA hC
  · rcases key j C hj with ⟨e2, rfl⟩ | ⟨g2, n2⟩
    · exact hP A (List.mem_of_getElem? g1) x hC hA
    · exact h _ _ A C g1 g2 (by split <;> split <;> omega) x hA hC
section
variable {w0 W W1 : World} {s x : Nat} {v0 v1 v' : Value} {E0 E1 : List En} {X : XS} {O : Nat → Prop} {T : TS}
theorem obk_ne {v : Value} {n b : Nat} (hv : v'.ownBlock = v.ownBlock ∨ v'.ownBlock = some n) (h : obk v' b) : obk v b ∨ n ≤ b := by
  rcases hv with e | e
  · exact .inl (e.symm.trans h)
  · have h2 : some n = some b := e.symm.trans h
    injection h2 with h2
    exact .inr (by omega)
/-- One more stream of side 0. -/
theorem Tt.add0 (h : Tt w0 W s v0 v1 E0 E1 X) (e : Str w0 W x O T) (hap : ∀ Q ∈ TtO s v0 v1 E0 E1, ∀ b, O b → ¬ Q b) (hid : T.id = 4 * E0.length)
    (h2 : Pw W1 w0.heap.size v' (E0 ++ [⟨x, O, T⟩])) (hg : W.grownBy W1 v0.ownBlock) (hv : v'.ownBlock = v0.ownBlock ∨ v'.ownBlock = some W.heap.size) :
    Tt w0 (W1.setCell ⟨s, 25, none⟩ v') s v' v1 (E0 ++ [⟨x, O, T⟩]) E1 X := by
  have k1 : Kept (obk v0) W W1 := Kept.of_grown hg fun k hk => .inl hk
  have k2 : Kept (· = s) W1 (W1.setCell ⟨s, 25, none⟩ v') := (Kept.refl _ W1).setAt 25 v'
  have k3 : Kept (fun j => j = s ∨ obk v0 j) W (W1.setCell ⟨s, 25, none⟩ v') := (k1.mono fun j hj => .inl (.inr hj)).trans' k2 fun j hj => .inl (.inl hj)
  have hS : ∀ j, (j = s ∨ obk v0 j) → w0.heap.size ≤ j := fun j hj => hj.elim (fun e => e ▸ h.bs) fun e => (ow_lt h.r0 j e).1
  have ap : ∀ (i : Nat) (P : Nat → Prop), (TtO s v0 v1 E0 E1)[i + 2]? = some P → ∀ b, P b → ¬ (b = s ∨ obk v0 b) := fun i P hi b hb e => by
    rcases e with e | e
    · exact h.dj 0 (i + 2) _ P rfl hi (by omega) s rfl (e ▸ hb)
    · exact h.dj 1 (i + 2) _ P rfl hi (by omega) b e hb
  have hs0 : ¬ obk v0 s := fun e => h.dj 1 0 _ _ rfl rfl (by decide) s e rfl
  have m0 : ((· = s) : Nat → Prop) ∈ TtO s v0 v1 E0 E1 := by unfold TtO; simp
  have m1 : obk v0 ∈ TtO s v0 v1 E0 E1 := by unfold TtO; simp
  have hA : At W1 s 53 (setL X v0 v1) := h.at_.kept k1 hs0
  have hns : ∀ b, obk v' b → ¬ b = s := fun b hb e => by
    rcases obk_ne hv hb with e1 | e1
    · exact hs0 (e ▸ e1)
    · have := h.at_.lt; omega
  have hd1 := h.dj.set (i := 1) (P := obk v0) (P' := obk v') rfl W.heap.size (fun Q hQ b hb => (h.lts Q hQ b hb).2) (fun b hb => obk_ne hv hb)
  have e1 : (TtO s v0 v1 E0 E1).set 1 (obk v') = ([(· = s), obk v', obk v1] ++ E0.map En.O) ++ E1.map En.O := by unfold TtO; simp
  rw [e1] at hd1
  have hd2 := hd1.ins (P := O) fun Q hQ b hb hq => by
    rw [← e1] at hQ
    rcases List.mem_or_eq_of_mem_set hQ with hQ | rfl
    · exact hap Q hQ b hb hq
    · rcases obk_ne hv hq with e2 | e2
      · exact hap _ m1 b hb e2
      · have := (e.lt b hb).2; omega
  refine ⟨hA.set 25 v', ow_kept h2 k2 hns, ow_kept h.r1 k3 (ap 0 _ rfl), ?_, ?_, h.bs, k3.below h.bl h.bl.size hS, ?_, h.i1⟩
  · intro y hy
    have hy' : y = ⟨x, O, T⟩ ∨ y ∈ E0 ++ E1 := by
      simp only [List.mem_append, List.mem_singleton] at hy ⊢
      rcases hy with (hy | hy) | hy
      · exact .inr (.inl hy)
      · exact .inl hy
      · exact .inr (.inr hy)
    rcases hy' with rfl | hy
    · exact e.kept k3 (fun j hj e2 => by
        rcases e2 with e2 | e2
        · exact hap _ m0 j hj e2
        · exact hap _ m1 j hj e2) hS
    · obtain ⟨i, hi⟩ := List.getElem?_of_mem hy
      exact (h.ea y hy).kept k3 (ap (i + 1) y.O (by rw [show i + 1 + 2 = i + 3 from rfl, tto_get, hi]; rfl)) hS
  · have e2 : TtO s v' v1 (E0 ++ [⟨x, O, T⟩]) E1 = ([(· = s), obk v', obk v1] ++ E0.map En.O) ++ O :: E1.map En.O := by unfold TtO; simp
    rw [e2]
    exact hd2
  · intro i y hy
    rcases Nat.lt_trichotomy i E0.length with e2 | e2 | e2
    · rw [List.getElem?_append_left e2] at hy
      exact h.i0 i y hy
    · subst e2
      rw [List.getElem?_append_right (Nat.le_refl _), Nat.sub_self] at hy
      injection hy with hy
      subst hy
      exact hid
    · rw [List.getElem?_eq_none (by simp; omega)] at hy
      cases hy
/-- One more stream of side 1. -/
theorem Tt.add1 (h : Tt w0 W s v0 v1 E0 E1 X) (e : Str w0 W x O T) (hap : ∀ Q ∈ TtO s v0 v1 E0 E1, ∀ b, O b → ¬ Q b) (hid : T.id = 4 * E1.length + 1)
    (h2 : Pw W1 w0.heap.size v' (E1 ++ [⟨x, O, T⟩])) (hg : W.grownBy W1 v1.ownBlock) (hv : v'.ownBlock = v1.ownBlock ∨ v'.ownBlock = some W.heap.size) :
    Tt w0 (W1.setCell ⟨s, 26, none⟩ v') s v0 v' E0 (E1 ++ [⟨x, O, T⟩]) X := by
  have k1 : Kept (obk v1) W W1 := Kept.of_grown hg fun k hk => .inl hk
  have k2 : Kept (· = s) W1 (W1.setCell ⟨s, 26, none⟩ v') := (Kept.refl _ W1).setAt 26 v'
  have k3 : Kept (fun j => j = s ∨ obk v1 j) W (W1.setCell ⟨s, 26, none⟩ v') := (k1.mono fun j hj => .inl (.inr hj)).trans' k2 fun j hj => .inl (.inl hj)
  have hS : ∀ j, (j = s ∨ obk v1 j) → w0.heap.size ≤ j := fun j hj => hj.elim (fun e => e ▸ h.bs) fun e => (ow_lt h.r1 j e).1
  have ap : ∀ (i : Nat) (P : Nat → Prop), (TtO s v0 v1 E0 E1)[i]? = some P → i ≠ 0 → i ≠ 2 → ∀ b, P b → ¬ (b = s ∨ obk v1 b) := fun i P hi h0 h2 b hb e => by
    rcases e with e | e
    · exact h.dj 0 i _ P rfl hi (by omega) s rfl (e ▸ hb)
    · exact h.dj 2 i _ P rfl hi (by omega) b e hb
  have hs0 : ¬ obk v1 s := fun e => h.dj 2 0 _ _ rfl rfl (by decide) s e rfl
  have m0 : ((· = s) : Nat → Prop) ∈ TtO s v0 v1 E0 E1 := by unfold TtO; simp
  have m1 : obk v1 ∈ TtO s v0 v1 E0 E1 := by unfold TtO; simp
  have hA : At W1 s 53 (setL X v0 v1) := h.at_.kept k1 hs0
  have hns : ∀ b, obk v' b → ¬ b = s := fun b hb e => by
    rcases obk_ne hv hb with e1 | e1
    · exact hs0 (e ▸ e1)
    · have := h.at_.lt; omega
  have hd1 := h.dj.set (i := 2) (P := obk v1) (P' := obk v') rfl W.heap.size (fun Q hQ b hb => (h.lts Q hQ b hb).2) (fun b hb => obk_ne hv hb)
  have e1 : (TtO s v0 v1 E0 E1).set 2 (obk v') = ([(· = s), obk v0, obk v'] ++ (E0 ++ E1).map En.O) ++ [] := by unfold TtO; simp
  rw [e1] at hd1
  have hd2 := hd1.ins (P := O) fun Q hQ b hb hq => by
    rw [← e1] at hQ
    rcases List.mem_or_eq_of_mem_set hQ with hQ | rfl
    · exact hap Q hQ b hb hq
    · rcases obk_ne hv hq with e2 | e2
      · exact hap _ m1 b hb e2
      · have := (e.lt b hb).2; omega
  refine ⟨hA.set 26 v', ow_kept h.r0 k3 (ap 1 _ rfl (by decide) (by decide)), ow_kept h2 k2 hns, ?_, ?_, h.bs, k3.below h.bl h.bl.size hS, h.i0, ?_⟩
  · intro y hy
    have hy' : y = ⟨x, O, T⟩ ∨ y ∈ E0 ++ E1 := by
      simp only [List.mem_append, List.mem_singleton] at hy ⊢
      rcases hy with hy | hy | hy
      · exact .inr (.inl hy)
      · exact .inr (.inr hy)
      · exact .inl hy
    rcases hy' with rfl | hy
    · exact e.kept k3 (fun j hj e2 => by
        rcases e2 with e2 | e2
        · exact hap _ m0 j hj e2
        · exact hap _ m1 j hj e2) hS
    · obtain ⟨i, hi⟩ := List.getElem?_of_mem hy
      exact (h.ea y hy).kept k3 (ap (i + 3) y.O (by rw [tto_get, hi]; rfl) (by omega) (by omega)) hS
  · have e2 : TtO s v0 v' E0 (E1 ++ [⟨x, O, T⟩]) = ([(· = s), obk v0, obk v'] ++ (E0 ++ E1).map En.O) ++ O :: [] := by unfold TtO; simp
    rw [e2]
    exact hd2
  · intro i y hy
    rcases Nat.lt_trichotomy i E1.length with e2 | e2 | e2
    · rw [List.getElem?_append_left e2] at hy
      exact h.i1 i y hy
    · subst e2
      rw [List.getElem?_append_right (Nat.le_refl _), Nat.sub_self] at hy
      injection hy with hy
      subst hy
      exact hid
    · rw [List.getElem?_eq_none (by simp; omega)] at hy
      cases hy
end
end
section
set_option linter.unusedVariables false
set_option linter.unusedSimpArgs false
open Go.RowKit
/-- Streams of which nothing was told, one behind the other. -/
def frLs (X : XS) (sd a : Nat) : Nat → List TS
  | 0 => []
  | n + 1 => frLs X sd a n ++ [frS X (4 * (a + n) + sd)]
/-- All blocks of a set. -/
def SO (s : Nat) (v0 v1 : Value) (E0 E1 : List En) : Nat → Prop := fun b => ∃ Q ∈ TtO s v0 v1 E0 E1, Q b
section
variable {w0 W Y w2 w3 : World} {s x y : Nat} {v0 v1 v v' : Value} {E0 E1 F : List En} {X : XS} {O Oy : Nat → Prop} {T : TS}
structure Rc0 (w0 W wr : World) (s : Nat) (v0 v1 : Value) (E0 E1 : List En) (X : XS) (x : Nat) (O : Nat → Prop) (T : TS) (v : Value) (F : List En) : Prop where
  tt : Tt w0 wr s v v1 (E0 ++ F) E1 X
  st : Str w0 wr x O T
  ap : ∀ Q ∈ TtO s v v1 (E0 ++ F) E1, ∀ b, O b → ¬ Q b
  fm : F.map En.T = frLs X 0 E0.length F.length
  kp : Kept (fun j => j = s ∨ obk v0 j) W wr
  ov : ∀ b, obk v b → obk v0 b ∨ W.heap.size ≤ b
  fo : ∀ e ∈ F, ∀ j, e.O j → W.heap.size ≤ j
/-- What reach leaves. -/
def RePo0 (w0 W : World) (s : Nat) (v0 v1 : Value) (E0 E1 : List En) (X : XS) (x : Nat) (O : Nat → Prop) (T : TS) (pl : Nat) (e : Ending) (w' : World) : Prop :=
  e = .returned (.tuple #[]) ∧ ∃ v' F, F.map En.T = frLs X 0 E0.length (pl - E0.length) ∧ Tt w0 w' s v' v1 (E0 ++ F ++ [⟨x, O, T⟩]) E1 X ∧ Kept (fun j => j = s ∨ obk v0 j) W w' ∧ ∀ b, SO s v' v1 (E0 ++ F ++ [⟨x, O, T⟩]) E1 b → SO s v0 v1 E0 E1 b ∨ O b ∨ W.heap.size ≤ b
theorem Rc0.below (h : Rc0 w0 W Y s v0 v1 E0 E1 X x O T v F) (hb : Below Y.heap.size Y w2) : Rc0 w0 W w2 s v0 v1 E0 E1 X x O T v F :=
  ⟨h.tt.below hb, h.st.below hb, h.ap, h.fm, h.kp.trans' (Kept.of_below hb fun _ => False) (fun _ e => e.elim), h.ov, h.fo⟩
theorem Rc0.k3 (h : Rc0 w0 W Y s v0 v1 E0 E1 X x O T v F) (hb : Below Y.heap.size Y w2) (hg : w2.grownBy w3 v.ownBlock) :
    Kept (fun j => j = s ∨ obk v j) w2 (w3.setCell ⟨s, 25, none⟩ v') ∧ Kept (fun j => j = s ∨ obk v0 j) W (w3.setCell ⟨s, 25, none⟩ v') := by
  have k1 : Kept (obk v) w2 w3 := Kept.of_grown hg fun k hk => .inl hk
  have k2 : Kept (· = s) w3 (w3.setCell ⟨s, 25, none⟩ v') := (Kept.refl _ w3).setAt 25 v'
  have k3 : Kept (fun j => j = s ∨ obk v j) w2 (w3.setCell ⟨s, 25, none⟩ v') := (k1.mono fun j hj => .inl (.inr hj)).trans' k2 fun j hj => .inl (.inl hj)
  refine ⟨k3, (h.below hb).kp.trans' k3 fun j hj => ?_⟩
  rcases hj with e | e
  · exact .inl (.inl e)
  · exact (h.ov j e).imp .inr id
theorem Rc0.step (h : Rc0 w0 W Y s v0 v1 E0 E1 X x O T v F) (hb : Below Y.heap.size Y w2) (hy : Str w0 w2 y Oy (frS X (4 * (E0.length + F.length)))) (hyn : ∀ j, Oy j → Y.heap.size ≤ j)
    (h2 : Pw w3 w0.heap.size v' ((E0 ++ F) ++ [⟨y, Oy, frS X (4 * (E0.length + F.length))⟩])) (hg : w2.grownBy w3 v.ownBlock) (hv : v'.ownBlock = v.ownBlock ∨ v'.ownBlock = some w2.heap.size) :
    Rc0 w0 W (w3.setCell ⟨s, 25, none⟩ v') s v0 v1 E0 E1 X x O T v' (F ++ [⟨y, Oy, frS X (4 * (E0.length + F.length))⟩]) := by
  have hs := hb.size
  have hs0 := h.kp.size
  have t2 := h.tt.below hb
  have t3 := t2.add0 hy (fun Q hQ b hO hq => by have := (h.tt.lts Q hQ b hq).2; have := hyn b hO; omega) (by rw [List.length_append]; rfl) h2 hg hv
  obtain ⟨k3, k4⟩ := h.k3 (v' := v') hb hg
  have ms : ((· = s) : Nat → Prop) ∈ TtO s v v1 (E0 ++ F) E1 := by unfold TtO; simp
  have mv : obk v ∈ TtO s v v1 (E0 ++ F) E1 := by unfold TtO; simp
  refine ⟨?_, ?_, ?_, ?_, k4, fun b hq => ?_, fun e he j hj => ?_⟩
  · rw [← List.append_assoc]
    exact t3
  · exact (h.st.below hb).kept k3 (fun j hj e => by
      rcases e with e | e
      · exact h.ap _ ms j hj e
      · exact h.ap _ mv j hj e) (fun j hj => hj.elim (fun e => e ▸ h.tt.bs) fun e => (h.tt.lts _ mv j e).1)
  · rw [← List.append_assoc]
    intro Q hQ b hO hq
    have hbl := (h.st.lt b hO).2
    have hQ2 : Q ∈ TtO s v v1 (E0 ++ F) E1 ∨ Q = obk v' ∨ Q = Oy := by
      unfold TtO at hQ ⊢
      simp only [List.mem_append, List.mem_cons, List.mem_map, List.not_mem_nil, or_false] at hQ ⊢
      rcases hQ with (hQ | hQ | hQ) | ⟨e, hQ, rfl⟩
      all_goals first | (subst hQ; simp; done) | skip
      · simp only [or_assoc] at hQ
        rcases hQ with hQ | hQ | hQ | hQ
        all_goals first | (subst hQ; exact .inr (.inr rfl)) | exact .inl (.inr ⟨e, by simp [hQ], rfl⟩)
    rcases hQ2 with hQ2 | rfl | rfl
    · exact h.ap Q hQ2 b hO hq
    · rcases obk_ne hv hq with e | e
      · exact h.ap _ mv b hO e
      · omega
    · have := hyn b hq; omega
  · rw [List.map_append, h.fm, List.length_append]
    rfl
  · rcases obk_ne hv hq with e | e
    · exact h.ov b e
    · exact .inr (by omega)
  · rcases List.mem_append.1 he with he | he
    · exact h.fo e he j hj
    · obtain rfl := List.mem_singleton.1 he
      have := hyn j hj
      omega
theorem Rc0.last (h : Rc0 w0 W Y s v0 v1 E0 E1 X x O T v F) (hb : Below Y.heap.size Y w2) (hid : T.id = 4 * (E0.length + F.length))
    (h2 : Pw w3 w0.heap.size v' ((E0 ++ F) ++ [⟨x, O, T⟩])) (hg : w2.grownBy w3 v.ownBlock) (hv : v'.ownBlock = v.ownBlock ∨ v'.ownBlock = some w2.heap.size) :
    RePo0 w0 W s v0 v1 E0 E1 X x O T (E0.length + F.length) (.returned (.tuple #[])) (w3.setCell ⟨s, 25, none⟩ v') := by
  have t2 := h.tt.below hb
  have t3 := t2.add0 (h.st.below hb) (fun Q hQ b hO => h.ap Q hQ b hO) (by rw [List.length_append]; exact hid) h2 hg hv
  refine ⟨rfl, v', F, by rw [h.fm, Nat.add_sub_cancel_left], t3, (h.k3 hb hg).2, fun b hb' => ?_⟩
  obtain ⟨Q, hQ, hq⟩ := hb'
  have hs0 := h.kp.size
  have hs := hb.size
  have key : Q ∈ TtO s v0 v1 E0 E1 ∨ Q = obk v' ∨ (∃ e ∈ F, Q = e.O) ∨ Q = O := by
    unfold TtO at hQ ⊢
    simp only [List.mem_append, List.mem_cons, List.mem_map, List.not_mem_nil, or_false] at hQ ⊢
    rcases hQ with (hQ | hQ | hQ) | ⟨e, hQ, rfl⟩
    · exact .inl (.inl (.inl hQ))
    · exact .inr (.inl hQ)
    · exact .inl (.inl (.inr (.inr hQ)))
    · rcases hQ with ((hQ | hQ) | hQ) | hQ
      · exact .inl (.inr ⟨e, .inl hQ, rfl⟩)
      · exact .inr (.inr (.inl ⟨e, hQ, rfl⟩))
      · subst hQ; exact .inr (.inr (.inr rfl))
      · exact .inl (.inr ⟨e, .inr hQ, rfl⟩)
  rcases key with hk | rfl | ⟨e, he, rfl⟩ | rfl
  · exact .inl ⟨Q, hk, hq⟩
  · rcases obk_ne hv hq with e | e
    · rcases h.ov b e with e | e
      · exact .inl ⟨obk v0, by unfold TtO; simp, e⟩
      · exact .inr (.inr e)
    · exact .inr (.inr (by omega))
  · exact .inr (.inr (h.fo e he b hq))
  · exact .inr (.inl hq)
structure Rc1 (w0 W wr : World) (s : Nat) (v0 v1 : Value) (E0 E1 : List En) (X : XS) (x : Nat) (O : Nat → Prop) (T : TS) (v : Value) (F : List En) : Prop where
  tt : Tt w0 wr s v0 v E0 (E1 ++ F) X
  st : Str w0 wr x O T
  ap : ∀ Q ∈ TtO s v0 v E0 (E1 ++ F), ∀ b, O b → ¬ Q b
  fm : F.map En.T = frLs X 1 E1.length F.length
  kp : Kept (fun j => j = s ∨ obk v1 j) W wr
  ov : ∀ b, obk v b → obk v1 b ∨ W.heap.size ≤ b
  fo : ∀ e ∈ F, ∀ j, e.O j → W.heap.size ≤ j
/-- What reach leaves. -/
def RePo1 (w0 W : World) (s : Nat) (v0 v1 : Value) (E0 E1 : List En) (X : XS) (x : Nat) (O : Nat → Prop) (T : TS) (pl : Nat) (e : Ending) (w' : World) : Prop :=
  e = .returned (.tuple #[]) ∧ ∃ v' F, F.map En.T = frLs X 1 E1.length (pl - E1.length) ∧ Tt w0 w' s v0 v' E0 (E1 ++ F ++ [⟨x, O, T⟩]) X ∧ Kept (fun j => j = s ∨ obk v1 j) W w' ∧ ∀ b, SO s v0 v' E0 (E1 ++ F ++ [⟨x, O, T⟩]) b → SO s v0 v1 E0 E1 b ∨ O b ∨ W.heap.size ≤ b
theorem Rc1.below (h : Rc1 w0 W Y s v0 v1 E0 E1 X x O T v F) (hb : Below Y.heap.size Y w2) : Rc1 w0 W w2 s v0 v1 E0 E1 X x O T v F :=
  ⟨h.tt.below hb, h.st.below hb, h.ap, h.fm, h.kp.trans' (Kept.of_below hb fun _ => False) (fun _ e => e.elim), h.ov, h.fo⟩
theorem Rc1.k3 (h : Rc1 w0 W Y s v0 v1 E0 E1 X x O T v F) (hb : Below Y.heap.size Y w2) (hg : w2.grownBy w3 v.ownBlock) :
    Kept (fun j => j = s ∨ obk v j) w2 (w3.setCell ⟨s, 26, none⟩ v') ∧ Kept (fun j => j = s ∨ obk v1 j) W (w3.setCell ⟨s, 26, none⟩ v') := by
  have k1 : Kept (obk v) w2 w3 := Kept.of_grown hg fun k hk => .inl hk
  have k2 : Kept (· = s) w3 (w3.setCell ⟨s, 26, none⟩ v') := (Kept.refl _ w3).setAt 26 v'
  have k3 : Kept (fun j => j = s ∨ obk v j) w2 (w3.setCell ⟨s, 26, none⟩ v') := (k1.mono fun j hj => .inl (.inr hj)).trans' k2 fun j hj => .inl (.inl hj)
  refine ⟨k3, (h.below hb).kp.trans' k3 fun j hj => ?_⟩
  rcases hj with e | e
  · exact .inl (.inl e)
  · exact (h.ov j e).imp .inr id
theorem Rc1.step (h : Rc1 w0 W Y s v0 v1 E0 E1 X x O T v F) (hb : Below Y.heap.size Y w2) (hy : Str w0 w2 y Oy (frS X (4 * (E1.length + F.length) + 1))) (hyn : ∀ j, Oy j → Y.heap.size ≤ j)
    (h2 : Pw w3 w0.heap.size v' ((E1 ++ F) ++ [⟨y, Oy, frS X (4 * (E1.length + F.length) + 1)⟩])) (hg : w2.grownBy w3 v.ownBlock) (hv : v'.ownBlock = v.ownBlock ∨ v'.ownBlock = some w2.heap.size) :
    Rc1 w0 W (w3.setCell ⟨s, 26, none⟩ v') s v0 v1 E0 E1 X x O T v' (F ++ [⟨y, Oy, frS X (4 * (E1.length + F.length) + 1)⟩]) := by
  have hs := hb.size
  have hs0 := h.kp.size
  have t2 := h.tt.below hb
  have t3 := t2.add1 hy (fun Q hQ b hO hq => by have := (h.tt.lts Q hQ b hq).2; have := hyn b hO; omega) (by rw [List.length_append]; rfl) h2 hg hv
  obtain ⟨k3, k4⟩ := h.k3 (v' := v') hb hg
  have ms : ((· = s) : Nat → Prop) ∈ TtO s v0 v E0 (E1 ++ F) := by unfold TtO; simp
  have mv : obk v ∈ TtO s v0 v E0 (E1 ++ F) := by unfold TtO; simp
  refine ⟨?_, ?_, ?_, ?_, k4, fun b hq => ?_, fun e he j hj => ?_⟩
  · rw [← List.append_assoc]
    exact t3
  · exact (h.st.below hb).kept k3 (fun j hj e => by
      rcases e with e | e
      · exact h.ap _ ms j hj e
      · exact h.ap _ mv j hj e) (fun j hj => hj.elim (fun e => e ▸ h.tt.bs) fun e => (h.tt.lts _ mv j e).1)
  · rw [← List.append_assoc]
    intro Q hQ b hO hq
    have hbl := (h.st.lt b hO).2
    have hQ2 : Q ∈ TtO s v0 v E0 (E1 ++ F) ∨ Q = obk v' ∨ Q = Oy := by
      unfold TtO at hQ ⊢
      simp only [List.mem_append, List.mem_cons, List.mem_map, List.not_mem_nil, or_false] at hQ ⊢
      rcases hQ with (hQ | hQ | hQ) | ⟨e, hQ, rfl⟩
      all_goals first | (subst hQ; simp; done) | skip
      · simp only [or_assoc] at hQ
        rcases hQ with hQ | hQ | hQ | hQ
        all_goals first | (subst hQ; exact .inr (.inr rfl)) | exact .inl (.inr ⟨e, by simp [hQ], rfl⟩)
    rcases hQ2 with hQ2 | rfl | rfl
    · exact h.ap Q hQ2 b hO hq
    · rcases obk_ne hv hq with e | e
      · exact h.ap _ mv b hO e
      · omega
    · have := hyn b hq; omega
  · rw [List.map_append, h.fm, List.length_append]
    rfl
  · rcases obk_ne hv hq with e | e
    · exact h.ov b e
    · exact .inr (by omega)
  · rcases List.mem_append.1 he with he | he
    · exact h.fo e he j hj
    · obtain rfl := List.mem_singleton.1 he
      have := hyn j hj
      omega
theorem Rc1.last (h : Rc1 w0 W Y s v0 v1 E0 E1 X x O T v F) (hb : Below Y.heap.size Y w2) (hid : T.id = 4 * (E1.length + F.length) + 1)
    (h2 : Pw w3 w0.heap.size v' ((E1 ++ F) ++ [⟨x, O, T⟩])) (hg : w2.grownBy w3 v.ownBlock) (hv : v'.ownBlock = v.ownBlock ∨ v'.ownBlock = some w2.heap.size) :
    RePo1 w0 W s v0 v1 E0 E1 X x O T (E1.length + F.length) (.returned (.tuple #[])) (w3.setCell ⟨s, 26, none⟩ v') := by
  have t2 := h.tt.below hb
  have t3 := t2.add1 (h.st.below hb) (fun Q hQ b hO => h.ap Q hQ b hO) (by rw [List.length_append]; exact hid) h2 hg hv
  refine ⟨rfl, v', F, by rw [h.fm, Nat.add_sub_cancel_left], t3, (h.k3 hb hg).2, fun b hb' => ?_⟩
  obtain ⟨Q, hQ, hq⟩ := hb'
  have hs0 := h.kp.size
  have hs := hb.size
  have key : Q ∈ TtO s v0 v1 E0 E1 ∨ Q = obk v' ∨ (∃ e ∈ F, Q = e.O) ∨ Q = O := by
    unfold TtO at hQ ⊢
    simp only [List.mem_append, List.mem_cons, List.mem_map, List.not_mem_nil, or_false] at hQ ⊢
    rcases hQ with (hQ | hQ | hQ) | ⟨e, hQ, rfl⟩
    · exact .inl (.inl (.inl hQ))
    · exact .inl (.inl (.inr (.inl hQ)))
    · exact .inr (.inl hQ)
    · rcases hQ with hQ | (hQ | hQ) | hQ
      · exact .inl (.inr ⟨e, .inl hQ, rfl⟩)
      · exact .inl (.inr ⟨e, .inr hQ, rfl⟩)
      · exact .inr (.inr (.inl ⟨e, hQ, rfl⟩))
      · subst hQ; exact .inr (.inr (.inr rfl))
  rcases key with hk | rfl | ⟨e, he, rfl⟩ | rfl
  · exact .inl ⟨Q, hk, hq⟩
  · rcases obk_ne hv hq with e | e
    · rcases h.ov b e with e | e
      · exact .inl ⟨obk v1, by unfold TtO; simp, e⟩
      · exact .inr (.inr e)
    · exact .inr (.inr (by omega))
  · exact .inr (.inr (h.fo e he b hq))
  · exact .inr (.inl hq)
end
end
end Go.Proofs.Ytndaikeeikimeaa
