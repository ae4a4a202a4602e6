/-
  streams.marks: cut, add.
-/
import Derived.Test.YtndaikeeikimeaaMq20
import Derived.Test.YtndaikeeikimeaaMq9
import Derived.Test.YtndaikeeikimeaaMq0
import Derived.BigRegion
import Derived.BigQuiet
import Derived.Deep.RegionHeld3
import Derived.Deep.Cut
import Derived.Laws.Bits64b
namespace Go.Proofs.Ytndaikeeikimeaa
section
set_option linter.unusedVariables false
set_option linter.unusedSimpArgs false
open Go.RowKit
section
variable {w w' : World} {base x o : Nat} {T : TypeId} {L : List Value} {v : Value} {b : Nat} {s : List Bool}
set_option maxRecDepth 100000 in
set_option maxHeartbeats 8000000 in
theorem mk_cut (h : Mk w base x o T L v b s) (hb : base ≤ w.heap.size) (tz : Nat) (ht : b ≤ tz) (hto : tz < 18446744073709551616) (hs : s.length ≤ 2000000) :
    Calls Try.prog 43 #[.pointer (some ⟨x, o, none⟩), .int .u64 tz] w (MkPost (.tuple #[]) base x o T L v tz (s.drop (tz - b)) w) := by
  obtain ⟨Y, hY⟩ : ∃ Y, w.drew = Y := ⟨_, rfl⟩
  have hbY : Below w.heap.size w Y := by rw [← hY]; exact belowN (Below.refl _ _) 1
  have hM := h.below hbY
  have hsl : (s.map Value.bool).length = s.length := List.length_map ..
  obtain ⟨k, hk⟩ : ∃ k : Nat, min (tz - b) s.length = k := ⟨_, rfl⟩
  have HD := Lib.hid (delb base v (s.map Value.bool) k Y hM.own (bools_one s) (by omega) (by omega) (Nat.le_trans hb hbY.size))
  obtain ⟨A, c, hv, hnc, hcm, _⟩ := ow_open h.own
  rw [hsl] at hv hnc
  obtain ⟨n, hn⟩ : ∃ n, s.length = n := ⟨_, rfl⟩
  rw [hn] at hv hnc hk
  have hn2 : n ≤ 2000000 := by omega
  have HE : Hid (∀ w1 w2 v', Ow w1 base 4 v' ((s.map Value.bool).drop k) → Kept (fun b => v.ownBlock = some b) Y w1 → (∀ j, v'.ownBlock = some j → v.ownBlock = some j) → w2 = (w1.setCell ⟨x, o + 1, none⟩ v').setCell ⟨x, o, none⟩ (.int .u64 tz) → MkPost (.tuple #[]) base x o T L v tz (s.drop (tz - b)) w (.returned (.tuple #[])) w2) := Lib.hid (fun w1 w2 v' h1 h2 h3 h4 => by
    have e : s.drop k = s.drop (tz - b) := by
      rw [← hk]
      by_cases hle : tz - b ≤ n
      · rw [Nat.min_eq_left hle]
      · rw [Nat.min_eq_right (by omega), List.drop_of_length_le (by omega), List.drop_of_length_le (by omega)]
    rw [← List.map_drop, e] at h1
    exact Mk.both h ((Kept.of_below hbY _).trans h2) h1 (fun j hj => .inl (h3 j hj)) (.inl h4) _)
  have HSS : Hid (∀ w1, Kept (fun b => v.ownBlock = some b) Y w1 → w1.cell? ⟨x, o, none⟩ = some (.int .u64 b) ∧ w1.cell? ⟨x, o + 1, none⟩ = some v) := Lib.hid (fun w1 hk1 => by
    have hA := hM.at_.kept hk1 h.nx
    exact ⟨by rw [hA.cell]; exact h.c0, by rw [hA.cell]; exact h.c1⟩)
  have HFZ : Hid (∀ w1, Kept (fun b => v.ownBlock = some b) Y w1 → ∀ j, w1.frozen? ⟨x, j, none⟩ = false) := Lib.hid (fun w1 hk1 j => (hM.at_.kept hk1 h.nx).frozen j)
  have HAT : Hid (∀ w1, Kept (fun b => v.ownBlock = some b) Y w1 → At w1 x T L ∧ L[o]? = some (.int .u64 b)) := Lib.hid (fun w1 hk1 => ⟨hM.at_.kept hk1 h.nx, h.c0⟩)
  have HS0 := Lib.hid (HSS.out Y (Kept.refl _ _))
  have wsub : IntKind.u64.wrap ((tz : Int) - (b : Int)) = ((tz - b : Nat) : Int) := by rw [IntKind.wrap_u64]; omega
  have wn : IntKind.u64.wrap (n : Int) = (n : Int) := by rw [IntKind.wrap_u64]; omega
  have hmin : (if n < tz - b then (n : Int) else ((tz - b : Nat) : Int)) = (k : Int) := by split <;> omega
  have wk : IntKind.i64.wrap (k : Int) = (k : Int) := by rw [IntKind.wrap_i64]; omega
  obtain ⟨tb, htb⟩ : ∃ tb : Nat, tz - b = tb := ⟨_, rfl⟩
  rw [htb] at wsub hmin
  clear h hM hbY hb hs ht hk hsl hn htb hcm hnc
  subst hv
  go_enter Try.func43, Try.ntmps43
  go_upto_region 0 with fail
  refine wp_region_held_drew (S := (fun w => w.cell? ⟨x, o, none⟩ = some (.int .u64 b))) (by kernel_rfl) (by rw [hY]; exact HS0.out.1) (fun hHeld => ?_)
  rw [hY] at hHeld ⊢
  clear hY
  refine tkq 0 (some 4) (v := ?_) rfl (Or.inl ⟨by rfl, ?_⟩) (by assumption) ?_
  rotate_left
  · intro w hSw; (try dsimp only at hSw); go_simp; first | done | (with_reducible rfl)
  simp only [Act.put, List.setIfInBounds_toArray, List.set_cons_zero, List.set_cons_succ]
  refine tkq 1 (some 5) (v := ?_) rfl (Or.inl ⟨by rfl, ?_⟩) (by assumption) ?_
  rotate_left
  · intro w hSw; (try dsimp only at hSw); go_simp; first | done | (with_reducible rfl)
  simp only [Act.put, List.setIfInBounds_toArray, List.set_cons_zero, List.set_cons_succ]
  refine tkq 2 (some 6) (v := ?_) rfl (Or.inl ⟨by rfl, ?_⟩) (by assumption) ?_
  rotate_left
  · intro w hSw; (try dsimp only at hSw); go_simp; first | done | (with_reducible rfl)
  simp only [Act.put, List.setIfInBounds_toArray, List.set_cons_zero, List.set_cons_succ]
  refine tkq 3 (some 7) (v := ?_) rfl (Or.inl ⟨by rfl, ?_⟩) (by assumption) ?_
  rotate_left
  · intro w hSw; (try dsimp only at hSw); go_simp; first | done | (with_reducible rfl)
  simp only [Act.put, List.setIfInBounds_toArray, List.set_cons_zero, List.set_cons_succ]
  refine tkq 5 (some 9) (v := ?_) rfl (Or.inl ⟨by rfl, ?_⟩) (by assumption) ?_
  rotate_left
  · intro w hSw; (try dsimp only at hSw); go_simp; first | done | (with_reducible rfl)
  simp only [Act.put, List.setIfInBounds_toArray, List.set_cons_zero, List.set_cons_succ]
  refine tkq 6 (some 10) (v := ?_) rfl (Or.inl ⟨by rfl, ?_⟩) (by assumption) ?_
  rotate_left
  · intro w hSw; (try dsimp only at hSw); go_simp; first | done | (with_reducible rfl)
  simp only [Act.put, List.setIfInBounds_toArray, List.set_cons_zero, List.set_cons_succ]
  refine tkq 7 (some 11) (v := ?_) rfl (Or.inl ⟨by rfl, ?_⟩) (by assumption) ?_
  rotate_left
  · intro w hSw; (try dsimp only at hSw); go_simp; first | done | (with_reducible rfl)
  simp only [Act.put, List.setIfInBounds_toArray, List.set_cons_zero, List.set_cons_succ]
  refine tkq 8 (some 12) (v := ?_) rfl (Or.inl ⟨by rfl, ?_⟩) (by assumption) ?_
  rotate_left
  · intro w hSw; (try dsimp only at hSw); go_simp; first | done | (with_reducible rfl)
  simp only [Act.put, List.setIfInBounds_toArray, List.set_cons_zero, List.set_cons_succ]
  refine tkq 9 (some 13) (v := ?_) rfl (Or.inl ⟨by rfl, ?_⟩) (by assumption) ?_
  rotate_left
  · intro w hSw; (try dsimp only at hSw); go_simp; first | done | (with_reducible rfl)
  simp only [Act.put, List.setIfInBounds_toArray, List.set_cons_zero, List.set_cons_succ]
  refine tkq 10 (some 14) (v := ?_) rfl (Or.inl ⟨by rfl, ?_⟩) (by assumption) ?_
  rotate_left
  · intro w hSw; (try dsimp only at hSw); go_simp; first | done | (with_reducible rfl)
  simp only [Act.put, List.setIfInBounds_toArray, List.set_cons_zero, List.set_cons_succ]
  refine tkq 11 (some 15) (v := ?_) rfl (Or.inl ⟨by rfl, ?_⟩) (by assumption) ?_
  rotate_left
  · intro w hSw; (try dsimp only at hSw); go_simp; first | done | (with_reducible rfl)
  simp only [Act.put, List.setIfInBounds_toArray, List.set_cons_zero, List.set_cons_succ]
  refine tkq 12 (some 16) (v := ?_) rfl (Or.inl ⟨by rfl, ?_⟩) (by assumption) ?_
  rotate_left
  · intro w hSw; (try dsimp only at hSw); go_simp; first | done | (with_reducible rfl)
  simp only [Act.put, List.setIfInBounds_toArray, List.set_cons_zero, List.set_cons_succ]
  refine tkq 13 (some 17) (v := ?_) rfl (Or.inl ⟨by rfl, ?_⟩) (by assumption) ?_
  rotate_left
  · intro w hSw; (try dsimp only at hSw); go_simp; first | done | (with_reducible rfl)
  simp only [Act.put, List.setIfInBounds_toArray, List.set_cons_zero, List.set_cons_succ]
  refine wpAnyH_ready (rs := [4, 14]) (by kernel_rfl) (by simp) ?_
  refine AllReadyH.cons rfl (fun K hK => ?_) (AllReadyH.cons rfl (fun K hK => ?_) (AllReadyH.nil))
  · have t1 := HS0.out.2
    go_simp
    go_wp2_with fail
    refine hK.out _ _ (HS0.out.1) (fun hHeld => ?_)
    clear hK K
    refine wpAnyH_ready (rs := [14]) (by kernel_rfl) (by simp) ?_
    refine AllReadyH.cons rfl (fun K hK => ?_) AllReadyH.nil
    have t1 := HS0.out.2
    go_simp
    go_wp2_with fail
    refine hK.out _ _ (HS0.out.1) (fun hHeld => ?_)
    clear hK K
    refine tkq 15 (some 19) (v := ?_) rfl (Or.inl ⟨by rfl, ?_⟩) (by assumption) ?_
    rotate_left
    · intro w hSw; (try dsimp only at hSw); go_simp; first | done | (with_reducible rfl)
    simp only [Act.put, List.setIfInBounds_toArray, List.set_cons_zero, List.set_cons_succ]
    refine tkq 16 (some 20) (v := ?_) rfl (Or.inl ⟨by rfl, ?_⟩) (by assumption) ?_
    rotate_left
    · intro w hSw; (try dsimp only at hSw); go_simp; first | done | (with_reducible rfl)
    simp only [Act.put, List.setIfInBounds_toArray, List.set_cons_zero, List.set_cons_succ]
    refine tkq 17 (some 21) (v := ?_) rfl (Or.inl ⟨by rfl, ?_⟩) (by assumption) ?_
    rotate_left
    · intro w hSw; (try dsimp only at hSw); go_simp; first | done | (with_reducible rfl)
    simp only [Act.put, List.setIfInBounds_toArray, List.set_cons_zero, List.set_cons_succ]
    refine tkq 18 (some 22) (v := ?_) rfl (Or.inl ⟨by rfl, ?_⟩) (by assumption) ?_
    rotate_left
    · intro w hSw; (try dsimp only at hSw); go_simp; first | done | (with_reducible rfl)
    simp only [Act.put, List.setIfInBounds_toArray, List.set_cons_zero, List.set_cons_succ]
    refine wpAnyH_ready (rs := [19]) (by kernel_rfl) (by simp) ?_
    refine AllReadyH.cons rfl (fun K hK => ?_) AllReadyH.nil
    go_simp
    (try rw [wsub])
    (try rw [wn])
    (try rw [hmin])
    (try rw [wk])
    go_wp2_with (go_at_call 48; (with_reducible refine HD.out.mono ?_); rintro e w1 ⟨v', rfl, ho1, hk1, hv1⟩; obtain ⟨A1, c1, hve, _, _, _⟩ := ow_open ho1; have HE1 := Lib.hid (fun w2 => HE.out w1 w2 v' ho1 hk1 hv1); have s1 := HSS.out w1 hk1; have ha1 := Lib.hid (HAT.out w1 hk1); have hf1 := HFZ.out w1 hk1 o; have hf2 := HFZ.out w1 hk1 (o + 1); clear ho1 hk1 hv1; obtain ⟨n1, hn1⟩ : ∃ n1, ((List.map Value.bool s).drop k).length = n1 := ⟨_, rfl⟩; rw [hn1] at hve; subst hve; clear hn1)
    refine hK.out _ _ (s1.1) (fun hHeld => ?_)
    clear hK K
    refine tkq 20 (some 24) (v := ?_) rfl (Or.inl ⟨by rfl, ?_⟩) (by assumption) ?_
    rotate_left
    · intro w hSw; (try dsimp only at hSw); go_simp; first | done | (with_reducible rfl)
    simp only [Act.put, List.setIfInBounds_toArray, List.set_cons_zero, List.set_cons_succ]
    refine tkq 21 (some 25) (v := ?_) rfl (Or.inl ⟨by rfl, ?_⟩) (by assumption) ?_
    rotate_left
    · intro w hSw; (try dsimp only at hSw); go_simp; first | done | (with_reducible rfl)
    simp only [Act.put, List.setIfInBounds_toArray, List.set_cons_zero, List.set_cons_succ]
    refine wpAnyH_ready (rs := [22]) (by kernel_rfl) (by simp) ?_
    refine AllReadyH.cons rfl (fun K hK => ?_) AllReadyH.nil
    have t0 := s1.1
    have t1 := s1.2
    have f1 := hf2
    go_simp
    go_wp2_with fail
    refine hK.out _ _ (by rw [(ha1.out.1.set (o + 1) _).cell, List.getElem?_set_ne (by omega)]; exact ha1.out.2) (fun hHeld => ?_)
    clear hK K
    refine wpAnyH_done (by kernel_rfl) ?_ _
    go_wp2_with fail
    first | exact HE1.out _ rfl | (go_end0; exact HE1.out _ rfl) | (refine bodyPost_ret (results_none rfl _ _ _) rfl ?_; exact HE1.out _ rfl)
  · have t1 := HS0.out.2
    go_simp
    go_wp2_with fail
    refine hK.out _ _ (HS0.out.1) (fun hHeld => ?_)
    clear hK K
    refine tkq 15 (some 19) (v := ?_) rfl (Or.inl ⟨by rfl, ?_⟩) (by assumption) ?_
    rotate_left
    · intro w hSw; (try dsimp only at hSw); go_simp; first | done | (with_reducible rfl)
    simp only [Act.put, List.setIfInBounds_toArray, List.set_cons_zero, List.set_cons_succ]
    refine tkq 16 (some 20) (v := ?_) rfl (Or.inl ⟨by rfl, ?_⟩) (by assumption) ?_
    rotate_left
    · intro w hSw; (try dsimp only at hSw); go_simp; first | done | (with_reducible rfl)
    simp only [Act.put, List.setIfInBounds_toArray, List.set_cons_zero, List.set_cons_succ]
    refine tkq 17 (some 21) (v := ?_) rfl (Or.inl ⟨by rfl, ?_⟩) (by assumption) ?_
    rotate_left
    · intro w hSw; (try dsimp only at hSw); go_simp; first | done | (with_reducible rfl)
    simp only [Act.put, List.setIfInBounds_toArray, List.set_cons_zero, List.set_cons_succ]
    refine tkq 18 (some 22) (v := ?_) rfl (Or.inl ⟨by rfl, ?_⟩) (by assumption) ?_
    rotate_left
    · intro w hSw; (try dsimp only at hSw); go_simp; first | done | (with_reducible rfl)
    simp only [Act.put, List.setIfInBounds_toArray, List.set_cons_zero, List.set_cons_succ]
    refine wpAnyH_ready (rs := [4]) (by kernel_rfl) (by simp) ?_
    refine AllReadyH.cons rfl (fun K hK => ?_) AllReadyH.nil
    have t1 := HS0.out.2
    go_simp
    go_wp2_with fail
    refine hK.out _ _ (HS0.out.1) (fun hHeld => ?_)
    clear hK K
    refine wpAnyH_ready (rs := [19]) (by kernel_rfl) (by simp) ?_
    refine AllReadyH.cons rfl (fun K hK => ?_) AllReadyH.nil
    go_simp
    (try rw [wsub])
    (try rw [wn])
    (try rw [hmin])
    (try rw [wk])
    go_wp2_with (go_at_call 48; (with_reducible refine HD.out.mono ?_); rintro e w1 ⟨v', rfl, ho1, hk1, hv1⟩; obtain ⟨A1, c1, hve, _, _, _⟩ := ow_open ho1; have HE1 := Lib.hid (fun w2 => HE.out w1 w2 v' ho1 hk1 hv1); have s1 := HSS.out w1 hk1; have ha1 := Lib.hid (HAT.out w1 hk1); have hf1 := HFZ.out w1 hk1 o; have hf2 := HFZ.out w1 hk1 (o + 1); clear ho1 hk1 hv1; obtain ⟨n1, hn1⟩ : ∃ n1, ((List.map Value.bool s).drop k).length = n1 := ⟨_, rfl⟩; rw [hn1] at hve; subst hve; clear hn1)
    refine hK.out _ _ (s1.1) (fun hHeld => ?_)
    clear hK K
    refine tkq 20 (some 24) (v := ?_) rfl (Or.inl ⟨by rfl, ?_⟩) (by assumption) ?_
    rotate_left
    · intro w hSw; (try dsimp only at hSw); go_simp; first | done | (with_reducible rfl)
    simp only [Act.put, List.setIfInBounds_toArray, List.set_cons_zero, List.set_cons_succ]
    refine tkq 21 (some 25) (v := ?_) rfl (Or.inl ⟨by rfl, ?_⟩) (by assumption) ?_
    rotate_left
    · intro w hSw; (try dsimp only at hSw); go_simp; first | done | (with_reducible rfl)
    simp only [Act.put, List.setIfInBounds_toArray, List.set_cons_zero, List.set_cons_succ]
    refine wpAnyH_ready (rs := [22]) (by kernel_rfl) (by simp) ?_
    refine AllReadyH.cons rfl (fun K hK => ?_) AllReadyH.nil
    have t0 := s1.1
    have t1 := s1.2
    have f1 := hf2
    go_simp
    go_wp2_with fail
    refine hK.out _ _ (by rw [(ha1.out.1.set (o + 1) _).cell, List.getElem?_set_ne (by omega)]; exact ha1.out.2) (fun hHeld => ?_)
    clear hK K
    refine wpAnyH_done (by kernel_rfl) ?_ _
    go_wp2_with fail
    first | exact HE1.out _ rfl | (go_end0; exact HE1.out _ rfl) | (refine bodyPost_ret (results_none rfl _ _ _) rfl ?_; exact HE1.out _ rfl)
end
end
section
set_option linter.unusedVariables false
set_option linter.unusedSimpArgs false
open Go.RowKit
theorem pS_info : (Try.prog.info? 55).map (fun i => (i.zero, i.size, i.bytes)) = some (some (.pointer none), 1, 8) := by kernel_rfl
theorem run_app_p (w : World) (ty : TypeId) (base : Nat) (v : Value) (E : List En) (hown : Pw w base v E) (g c : Nat) (e : En) (hcell : w.cell? ⟨g, 0, none⟩ = some e.p) (hl : E.length ≤ 1000000) (hbase : base ≤ w.heap.size) :
    ∃ v' w', (Builtin.append_ #[50, 50] ty #[v, .slice (some ⟨g, 0, none⟩) 1 c]).run Try.prog w = .ok v' w' ∧ Pw w' base v' (E ++ [e]) ∧ w.grownBy w' v.ownBlock ∧ (v'.ownBlock = v.ownBlock ∨ v'.ownBlock = some w.heap.size) := by
  have hI := pS_info
  cases hq : Try.prog.info? 55 with
  | none => rw [hq] at hI; cases hI
  | some i =>
    rw [hq] at hI
    simp only [Option.map_some, Option.some.injEq, Prod.mk.injEq] at hI
    have hle : (E.map En.p).length = E.length := List.length_map ..
    have hown' : w.ownsRow base 55 1 v E.length (E.map En.p) := by have := hown; unfold Pw at this; rw [← hle]; exact this
    obtain ⟨v', w', k1, k2, k3, _, k5⟩ := run_append_own_at (P := Try.prog) (w := w) base 50 ty 55 i _ 1 8 Try.underlying50 hq hI.1 hI.2.1 hI.2.2 rfl (by omega) v E.length (E.map En.p) hown' ⟨g, 0, none⟩ 1 c [e.p] rfl
      (fun j u hj => by
        rcases j with _ | j
        · simp at hj; subst hj; exact hcell
        · simp at hj) (fun u hu => by simp at hu; subst hu; rfl) (by unfold maxLen; omega) (by omega) hbase
    refine ⟨v', w', k1, ?_, k3, k5⟩
    unfold Pw
    have e2 : ((E ++ [e]).map En.p) = E.map En.p ++ [e.p] := by simp
    rw [e2]
    have e3 : (E.map En.p ++ [e.p]).length = E.length + 1 := by simp
    unfold Ow
    rw [e3]
    exact k2
section
variable {ops : Array Oper} {rest : List Oper} {o : Oper} {a : Act} {w : World} {Q : Exit → Act → World → Prop}
/-- append(l, x) of one pointer. -/
theorem wpList_app_p (hgd : o.guard = none) (s x : Operand) (ho : o.op = .call { callee := .builtin .append, args := #[s, x], argTypes := #[50, 50] }) (base : Nat) (v : Value) (E : List En) (hs : a.eval s = v) (hown : Pw w base v E) (g c : Nat) (e : En)
    (hx : a.eval x = .slice (some ⟨g, 0, none⟩) 1 c) (hcell : w.cell? ⟨g, 0, none⟩ = some e.p) (hl : E.length ≤ 1000000) (hbase : base ≤ w.heap.size)
    (h : ∀ v' w', Pw w' base v' (E ++ [e]) → w.grownBy w' v.ownBlock → (v'.ownBlock = v.ownBlock ∨ v'.ownBlock = some w.heap.size) → wpList Try.prog ops Q rest (a.put o.dst v') w') :
    wpList Try.prog ops Q (o :: rest) a w := by
  obtain ⟨v', w', k1, k2, k3, k4⟩ := run_app_p w o.type base v E hown g c e hcell hl hbase
  refine wpList_plain hgd fun K hK => ?_
  unfold Oper.wp
  simp [execOp, ho, resolve, invoke, builtin, hs, hx, k1, Result.andThen]
  exact hK _ _ (h v' w' k2 k3 k4)
end
section
variable {w0 W W' : World} {s : Nat} {v0 v1 v : Value} {E0 E1 L : List En} {X : XS}
theorem Tt.c0 (h : Tt w0 W s v0 v1 E0 E1 X) : W.cell? ⟨s, 0, none⟩ = some (.int .u64 X.own) := by rw [h.at_.cell]; rfl
theorem Tt.c2 (h : Tt w0 W s v0 v1 E0 E1 X) : W.cell? ⟨s, 2, none⟩ = some (.int .u64 X.md) := by rw [h.at_.cell]; rfl
theorem Tt.c3 (h : Tt w0 W s v0 v1 E0 E1 X) : W.cell? ⟨s, 3, none⟩ = some (.int .u64 X.msd) := by rw [h.at_.cell]; rfl
theorem Tt.c4 (h : Tt w0 W s v0 v1 E0 E1 X) : W.cell? ⟨s, 4, none⟩ = some (.int .u64 X.ms) := by rw [h.at_.cell]; rfl
theorem Tt.c15 (h : Tt w0 W s v0 v1 E0 E1 X) : W.cell? ⟨s, 15, none⟩ = some (.int .u64 X.tsd) := by rw [h.at_.cell]; rfl
theorem Tt.c16 (h : Tt w0 W s v0 v1 E0 E1 X) : W.cell? ⟨s, 16, none⟩ = some (.int .u64 X.tms) := by rw [h.at_.cell]; rfl
theorem Tt.c25 (h : Tt w0 W s v0 v1 E0 E1 X) : W.cell? ⟨s, 25, none⟩ = some v0 := by rw [h.at_.cell]; rfl
theorem Tt.c26 (h : Tt w0 W s v0 v1 E0 E1 X) : W.cell? ⟨s, 26, none⟩ = some v1 := by rw [h.at_.cell]; rfl
theorem Tt.c27 (h : Tt w0 W s v0 v1 E0 E1 X) : W.cell? ⟨s, 27, none⟩ = some (.int .u64 X.limit) := by rw [h.at_.cell]; rfl
theorem Tt.c29 (h : Tt w0 W s v0 v1 E0 E1 X) : W.cell? ⟨s, 29, none⟩ = some (.int .u64 X.allowed) := by rw [h.at_.cell]; rfl
/-- One side's row, and one of its pointers. -/
theorem pw_open {base : Nat} {v : Value} {E : List En} (h : Pw W base v E) : ∃ A c, v = .slice A E.length c ∧ E.length ≤ c ∧ c ≤ maxLen ∧ ∀ (i : Nat) (e : En), E[i]? = some e → ∃ g, A = some ⟨g, 0, none⟩ ∧ W.cell? ⟨g, i, none⟩ = some e.p := by
  obtain ⟨A, c, hv, h1, h2, h3⟩ := ow_open h
  rw [List.length_map] at hv h1
  refine ⟨A, c, hv, h1, h2, fun i e he => ?_⟩
  have hi := (List.getElem?_eq_some_iff.1 he).1
  rcases h3 with ⟨_, _, h3⟩ | ⟨g, cur, rfl, _, _, hA, hl, ht⟩
  · have : (E.map En.p).length = 0 := by rw [h3]; rfl
    rw [List.length_map] at this
    omega
  · refine ⟨g, rfl, ?_⟩
    rw [hA.cell]
    have hm : (E.map En.p)[i]? = some e.p := by rw [List.getElem?_map, he]; rfl
    rw [← ht, List.getElem?_take] at hm
    split at hm
    · exact hm
    · cases hm
/-- What find answers. -/
def findV (o : Option En) : Value := .tuple #[match o with | some e => e.p | none => .pointer none, .bool o.isSome]
theorem and_one (id : Nat) (h : id < 18446744073709551616) : bits BinOp.and IntKind.u64 (id : Int) 1 = ((id % 2 : Nat) : Int) := by
  have := bits_and_u64_nat id 1 h (by decide)
  rw [Nat.and_one_is_mod] at this
  exact this
theorem and_two (id : Nat) (h : id < 18446744073709551616) : bits BinOp.and IntKind.u64 (id : Int) 2 = ((2 * (id / 2 % 2) : Nat) : Int) := by
  have := bits_and_u64_nat id 2 h (by decide)
  have e : id &&& 2 = 2 * (id / 2 % 2) := by
    have h1 : id &&& 2 ≤ 2 := Nat.and_le_right
    have h2 : (id &&& 2) % 2 ^ 2 = (id % 2 ^ 2) &&& (2 % 2 ^ 2) := Nat.and_mod_two_pow
    have h3 : (id &&& 2) % 2 ^ 2 = id &&& 2 := Nat.mod_eq_of_lt (by omega)
    rw [← h3, h2]
    have h4 : id % 2 ^ 2 < 4 := Nat.mod_lt _ (by decide)
    have h5 : id / 2 % 2 = id % 2 ^ 2 / 2 := by omega
    rw [h5]
    generalize id % 2 ^ 2 = r at h4
    have : r = 0 ∨ r = 1 ∨ r = 2 ∨ r = 3 := by omega
    rcases this with rfl | rfl | rfl | rfl <;> rfl
  rw [e] at this
  exact this
set_option maxRecDepth 100000 in
set_option maxHeartbeats 8000000 in
theorem find_any (h : Tt w0 W s v0 v1 E0 E1 X) (id : Nat) (hid : id < 18446744073709551616) (h0 : E0.length ≤ 1000000) (h1 : E1.length ≤ 1000000) :
    Calls Try.prog 28 #[.pointer (some ⟨s, 0, none⟩), .int .u64 id] W fun e w' => e = .returned (findV (findE E0 E1 id)) ∧ w' = W := by
  have c25 := h.c25
  have c26 := h.c26
  obtain ⟨A0, c0, rfl, hn0, hm0, hg0⟩ := pw_open h.r0
  obtain ⟨A1, c1, rfl, hn1, hm1, hg1⟩ := pw_open h.r1
  have HG0 := Lib.hid hg0
  have HG1 := Lib.hid hg1
  clear h hg0 hg1
  unfold maxLen at hm0 hm1
  have b1 := and_one id hid
  have b2 := and_two id hid
  by_cases hr : id / 2 % 2 = 1
  · have HF : Hid (findE E0 E1 id = none) := Lib.hid (by unfold findE; rw [if_pos hr])
    rw [hr] at b2
    clear HG0 HG1 hr
    go_enter Try.func28, Try.ntmps28
    go_wp2
    go_ret2
    exact ⟨by rw [HF.out]; rfl, rfl⟩
  · have hr0 : id / 2 % 2 = 0 := by omega
    rw [hr0] at b2
    obtain ⟨n0, hn0'⟩ : ∃ n, E0.length = n := ⟨_, rfl⟩
    obtain ⟨n1, hn1'⟩ : ∃ n, E1.length = n := ⟨_, rfl⟩
    obtain ⟨q, hq⟩ : ∃ q, id / 4 = q := ⟨_, rfl⟩
    have hq4 : (id : Int) / 4 = (q : Int) := by omega
    by_cases hp : id % 2 = 0
    · rw [hp] at b1
      have HFE : Hid (findE E0 E1 id = E0[q]?) := Lib.hid (by unfold findE; rw [if_neg hr, if_pos hp, hq])
      rcases Nat.lt_or_ge q n0 with hlt | hge
      · obtain ⟨e, he⟩ : ∃ e, E0[q]? = some e := ⟨_, List.getElem?_eq_getElem (by omega)⟩
        obtain ⟨g, rfl, hc⟩ := HG0.out q e he
        have hq9 : (q : Int) < (n0 : Int) := by omega
        go_enter Try.func28, Try.ntmps28
        go_wp2
        go_ret2
        exact ⟨by rw [HFE.out, he]; rfl, rfl⟩
      · have hen : E0[q]? = none := List.getElem?_eq_none (by omega)
        have hq9 : ¬ (q : Int) < (n0 : Int) := by omega
        have hq8 : (n0 : Int) ≤ (q : Int) := by omega
        go_enter Try.func28, Try.ntmps28
        go_wp2
        go_ret2
        exact ⟨by rw [HFE.out, hen]; rfl, rfl⟩
    · have hp1 : id % 2 = 1 := by omega
      rw [hp1] at b1
      have HFE : Hid (findE E0 E1 id = E1[q]?) := Lib.hid (by unfold findE; rw [if_neg hr, if_neg hp, hq])
      rcases Nat.lt_or_ge q n1 with hlt | hge
      · obtain ⟨e, he⟩ : ∃ e, E1[q]? = some e := ⟨_, List.getElem?_eq_getElem (by omega)⟩
        obtain ⟨g, rfl, hc⟩ := HG1.out q e he
        have hq9 : (q : Int) < (n1 : Int) := by omega
        go_enter Try.func28, Try.ntmps28
        go_wp2
        go_ret2
        exact ⟨by rw [HFE.out, he]; rfl, rfl⟩
      · have hen : E1[q]? = none := List.getElem?_eq_none (by omega)
        have hq9 : ¬ (q : Int) < (n1 : Int) := by omega
        have hq8 : (n1 : Int) ≤ (q : Int) := by omega
        go_enter Try.func28, Try.ntmps28
        go_wp2
        go_ret2
        exact ⟨by rw [HFE.out, hen]; rfl, rfl⟩
/-- The row of what rises, on its way. -/
structure Ri (W wr : World) (v : Value) (L : List En) : Prop where
  row : Pw wr W.heap.size v L
  bl : Below W.heap.size W wr
def pt (E0 E1 : List En) (k : Nat) : Nat → List En
  | 0 => []
  | 1 => E0[k]?.toList
  | _ => at2 E0 E1 k
theorem Ri.app {w1 w2 : World} {v' : Value} {e : En} (h : Ri W W' v L) (k : Below W'.heap.size W' w1) (h2 : Pw w2 W.heap.size v' (L ++ [e])) (hg : w1.grownBy w2 v.ownBlock) : Ri W w2 v' (L ++ [e]) := by
  have hk : Kept (fun j => v.ownBlock = some j) w1 w2 := Kept.of_grown hg fun k hk => .inl hk
  have hs := h.bl.size
  exact ⟨h2, hk.below (h.bl.trans (k.mono hs)) (Nat.le_trans hs k.size) fun j hj => (ow_lt h.row j hj).1⟩
set_option maxRecDepth 100000 in
theorem ix2_0 (a b : Value) (W : World) : (Instr.index 51 (.agg #[a, b]) (.int .i64 0)).run Try.prog W = .ok a W := by
  first | rfl | (show _ = _; kernel_rfl)
set_option maxRecDepth 100000 in
theorem ix2_1 (a b : Value) (W : World) : (Instr.index 51 (.agg #[a, b]) (.int .i64 1)).run Try.prog W = .ok b W := by
  first | rfl | (show _ = _; kernel_rfl)
set_option maxRecDepth 100000 in
set_option maxHeartbeats 8000000 in
theorem rising_any (h : Tt w0 W s v0 v1 E0 E1 X) (h0 : E0.length ≤ 100000) (h1 : E1.length ≤ 100000) :
    Calls Try.prog 18 #[.pointer (some ⟨s, 0, none⟩)] W fun e w' => ∃ v, e = .returned v ∧ Ri W w' v (rise E0 E1) := by
  have c25 := h.c25
  have c26 := h.c26
  obtain ⟨A0, c0, rfl, hn0, hm0, hg0⟩ := pw_open h.r0
  obtain ⟨A1, c1, rfl, hn1, hm1, hg1⟩ := pw_open h.r1
  obtain ⟨n0, hn0'⟩ : ∃ n, E0.length = n := ⟨_, rfl⟩
  obtain ⟨n1, hn1'⟩ : ∃ n, E1.length = n := ⟨_, rfl⟩
  have HT := Lib.hid h
  have HG0 := Lib.hid hg0
  have HG1 := Lib.hid hg1
  have HR0 : Hid (Ri W W (.slice none 0 0) (riseN E0 E1 0)) := Lib.hid ⟨ow_nil _ _ _, Below.refl _ _⟩
  obtain ⟨mx, hmx⟩ : ∃ mx : Nat, max n0 n1 = mx := ⟨_, rfl⟩
  have hmz : (if n0 < n1 then (n1 : Int) else (n0 : Int)) = (mx : Int) := by split <;> omega
  rw [hn0'] at c25
  rw [hn1'] at c26
  clear h hg0 hg1
  go_enter Try.func18, Try.ntmps18
  go_upto_region 2 with fail
  go_quiet (fail)
  have HTN := Lib.hid (HT.out.drewN nq)
  have HR1 : Hid (Ri W (W.drewN nq) (.slice none 0 0) (riseN E0 E1 0)) := Lib.hid ⟨ow_nil _ _ _, belowN (Below.refl _ _) nq⟩
  obtain ⟨w2, hw2⟩ : ∃ w2, W.drewN nq = w2 := ⟨_, rfl⟩
  rw [hw2] at HTN HR1 ⊢
  clear hw2 HR0
  (try rw [hmz])
  have HB2 := Lib.hid HR1.out.bl
  go_upto_region 3 with fail
  go_loopg [3, 20] mx (fun kx s3 s20 wr => ∃ (k : Nat) (v : Value), v = s3 ∧ s20 = .int .i64 k ∧ k ≤ mx ∧ mx - k ≤ kx ∧ Hid (Ri W wr v (riseN E0 E1 k)))
  case atStart => exact ⟨0, _, rfl, rfl, by omega, by omega, HR1⟩
  case round =>
    clear HR1
    obtain ⟨k, s3, rfl, rfl, hk, hkx, HI⟩ := hrel
    by_cases hgo : k < mx
    · have hkz : (k : Int) < (mx : Int) := by omega
      have r25 : wr.cell? ⟨s, 25, none⟩ = some (.slice A0 n0 c0) := (HI.out.bl.cell (p := ⟨s, 25, none⟩) HT.out.at_.lt).trans c25
      have r26 : wr.cell? ⟨s, 26, none⟩ = some (.slice A1 n1 c1) := (HI.out.bl.cell (p := ⟨s, 26, none⟩) HT.out.at_.lt).trans c26
      obtain ⟨wk, rfl⟩ : ∃ wk : World, wk = wr := ⟨_, rfl⟩
      have HI0 : Hid (Ri W wk s3 (riseN E0 E1 k ++ pt E0 E1 k 0)) := Lib.hid (by show Ri W wk s3 (riseN E0 E1 k ++ []); rw [List.append_nil]; exact HI.out)
      clear HI
      go_upto_region 6 with fail
      go_loopg [3, 27] 2 (fun kx s3 s27 wr => ∃ v : Value, v = s3 ∧ ((s27 = .int .i64 0 ∧ 2 ≤ kx ∧ Hid (Ri W wr v (riseN E0 E1 k ++ pt E0 E1 k 0))) ∨ (s27 = .int .i64 1 ∧ 1 ≤ kx ∧ Hid (Ri W wr v (riseN E0 E1 k ++ pt E0 E1 k 1))) ∨ (s27 = .int .i64 2 ∧ Hid (Ri W wr v (riseN E0 E1 k ++ pt E0 E1 k 2)))))
      case atStart => exact ⟨_, rfl, Or.inl ⟨rfl, by omega, HI0⟩⟩
      case round =>
        clear HI0
        obtain ⟨s3j, rfl, hrel⟩ := hrel
        rcases hrel with ⟨rfl, hkx2, HJ⟩ | ⟨rfl, hkx2, HJ⟩ | ⟨rfl, HJ⟩
        · -- side 0
          have hjz : (0 : Int) < 2 := by omega
          by_cases hin : k < n0
          · obtain ⟨e, he⟩ : ∃ e, E0[k]? = some e := ⟨_, List.getElem?_eq_getElem (by omega)⟩
            obtain ⟨g, rfl, hc⟩ := HG0.out k e he
            have hcr : wr.cell? ⟨g, k, none⟩ = some e.p := (HJ.out.bl.cell (p := ⟨g, k, none⟩) (cell_lt hc)).trans hc
            have hinz : (k : Int) < (n0 : Int) := by omega
            have HPT : Hid (riseN E0 E1 k ++ pt E0 E1 k 0 ++ [e] = riseN E0 E1 k ++ pt E0 E1 k (0 + 1)) := Lib.hid (by rw [List.append_assoc]; congr 1; simp [pt, at2, he])
            have HLN : Hid ((riseN E0 E1 k ++ pt E0 E1 k 0).length ≤ 1000000) := Lib.hid (by
              have := riseN_len E0 E1 k
              rw [List.length_append]
              have h9 : (pt E0 E1 k 0).length ≤ 1 := by simp [pt] <;> (cases E0[k]? <;> simp)
              omega)
            have ep : e.p = .pointer (some ⟨e.x, 0, none⟩) := rfl
            have hbox : Below wr.heap.size wr (wr.alloc (.cells #[.pointer (some ⟨e.x, 0, none⟩)] 55)) := (Below.refl _ _).alloc (Nat.le_refl _) _
            have hab := At.new wr 55 [.pointer (some ⟨e.x, 0, none⟩)]
            have HBX := Lib.hid hbox
            have HRW2 := Lib.hid (ow_kept HJ.out.row (Kept.of_below hbox (fun _ => False)) fun _ _ h => h)
            have HC9 : Hid ((wr.alloc (.cells #[.pointer (some ⟨e.x, 0, none⟩)] 55)).cell? ⟨wr.heap.size, 0, none⟩ = some e.p) := Lib.hid (by rw [hab.cell]; rfl)
            have HBS : Hid (W.heap.size ≤ (wr.alloc (.cells #[.pointer (some ⟨e.x, 0, none⟩)] 55)).heap.size) := Lib.hid (Nat.le_trans HJ.out.bl.size hbox.size)
            rw [ep] at hcr
            clear hbox hab he hc
            have hix := ix2_0 (.slice (some ⟨g, 0, none⟩) n0 c0) (.slice A1 n1 c1) wr
            go_wp2_with (first
              | (at_builtin; refine wpList_app_p rfl (.tmp 34) (.tmp 39) rfl W.heap.size _ _ rfl HRW2.out wr.heap.size 1 e (by rfl) HC9.out HLN.out HBS.out ?_; intro v9 w9 h9 hg9 hv9; have HR9 : Hid (Ri W w9 v9 (riseN E0 E1 k ++ pt E0 E1 k (0 + 1))) := Lib.hid (by rw [← HPT.out] at *; exact HJ.out.app HBX.out h9 hg9); clear h9 hg9 hv9)
              | fail)
            go_roundg (2 - (0 + 1))
            case measure => omega
            case rel => exact ⟨_, rfl, Or.inr (Or.inl ⟨rfl, by omega, HR9⟩)⟩
          · have hinz : ¬ (k : Int) < (n0 : Int) := by omega
            have hen : E0[k]? = none := List.getElem?_eq_none (by omega)
            have HR9 : Hid (Ri W wr s3j (riseN E0 E1 k ++ pt E0 E1 k (0 + 1))) := Lib.hid (by
              have e2 : pt E0 E1 k (0 + 1) = pt E0 E1 k 0 := by simp [pt, at2, hen]
              rw [e2]; exact HJ.out)
            have hix := ix2_0 (.slice A0 n0 c0) (.slice A1 n1 c1) wr
            go_wp2_with fail
            go_roundg (2 - (0 + 1))
            case measure => omega
            case rel => exact ⟨_, rfl, Or.inr (Or.inl ⟨rfl, by omega, HR9⟩)⟩
        · -- side 1
          have hjz : (1 : Int) < 2 := by omega
          by_cases hin : k < n1
          · obtain ⟨e, he⟩ : ∃ e, E1[k]? = some e := ⟨_, List.getElem?_eq_getElem (by omega)⟩
            obtain ⟨g, rfl, hc⟩ := HG1.out k e he
            have hcr : wr.cell? ⟨g, k, none⟩ = some e.p := (HJ.out.bl.cell (p := ⟨g, k, none⟩) (cell_lt hc)).trans hc
            have hinz : (k : Int) < (n1 : Int) := by omega
            have HPT : Hid (riseN E0 E1 k ++ pt E0 E1 k 1 ++ [e] = riseN E0 E1 k ++ pt E0 E1 k (1 + 1)) := Lib.hid (by rw [List.append_assoc]; congr 1; simp [pt, at2, he])
            have HLN : Hid ((riseN E0 E1 k ++ pt E0 E1 k 1).length ≤ 1000000) := Lib.hid (by
              have := riseN_len E0 E1 k
              rw [List.length_append]
              have h9 : (pt E0 E1 k 1).length ≤ 1 := by simp [pt] <;> (cases E0[k]? <;> simp)
              omega)
            have ep : e.p = .pointer (some ⟨e.x, 0, none⟩) := rfl
            have hbox : Below wr.heap.size wr (wr.alloc (.cells #[.pointer (some ⟨e.x, 0, none⟩)] 55)) := (Below.refl _ _).alloc (Nat.le_refl _) _
            have hab := At.new wr 55 [.pointer (some ⟨e.x, 0, none⟩)]
            have HBX := Lib.hid hbox
            have HRW2 := Lib.hid (ow_kept HJ.out.row (Kept.of_below hbox (fun _ => False)) fun _ _ h => h)
            have HC9 : Hid ((wr.alloc (.cells #[.pointer (some ⟨e.x, 0, none⟩)] 55)).cell? ⟨wr.heap.size, 0, none⟩ = some e.p) := Lib.hid (by rw [hab.cell]; rfl)
            have HBS : Hid (W.heap.size ≤ (wr.alloc (.cells #[.pointer (some ⟨e.x, 0, none⟩)] 55)).heap.size) := Lib.hid (Nat.le_trans HJ.out.bl.size hbox.size)
            rw [ep] at hcr
            clear hbox hab he hc
            have hix := ix2_1 (.slice A0 n0 c0) (.slice (some ⟨g, 0, none⟩) n1 c1) wr
            go_wp2_with (first
              | (at_builtin; refine wpList_app_p rfl (.tmp 34) (.tmp 39) rfl W.heap.size _ _ rfl HRW2.out wr.heap.size 1 e (by rfl) HC9.out HLN.out HBS.out ?_; intro v9 w9 h9 hg9 hv9; have HR9 : Hid (Ri W w9 v9 (riseN E0 E1 k ++ pt E0 E1 k (1 + 1))) := Lib.hid (by rw [← HPT.out] at *; exact HJ.out.app HBX.out h9 hg9); clear h9 hg9 hv9)
              | fail)
            go_roundg (2 - (1 + 1))
            case measure => omega
            case rel => exact ⟨_, rfl, Or.inr (Or.inr ⟨rfl, HR9⟩)⟩
          · have hinz : ¬ (k : Int) < (n1 : Int) := by omega
            have hen : E1[k]? = none := List.getElem?_eq_none (by omega)
            have HR9 : Hid (Ri W wr s3j (riseN E0 E1 k ++ pt E0 E1 k (1 + 1))) := Lib.hid (by
              have e2 : pt E0 E1 k (1 + 1) = pt E0 E1 k 1 := by simp [pt, at2, hen]
              rw [e2]; exact HJ.out)
            have hix := ix2_1 (.slice A0 n0 c0) (.slice A1 n1 c1) wr
            go_wp2_with fail
            go_roundg (2 - (1 + 1))
            case measure => omega
            case rel => exact ⟨_, rfl, Or.inr (Or.inr ⟨rfl, HR9⟩)⟩
        · have HR9 : Hid (Ri W wr s3j (riseN E0 E1 (k + 1))) := Lib.hid (by rw [riseN_step]; exact HJ.out)
          clear HJ
          go_wp2_with fail
          go_roundg (mx - (k + 1))
          case measure => omega
          case rel => exact ⟨k + 1, _, rfl, by simp, by omega, by omega, HR9⟩
    · obtain rfl : k = mx := by omega
      have HR9 : Hid (Ri W wr s3 (rise E0 E1)) := Lib.hid (by unfold rise; rw [hn0', hn1', hmx]; exact HI.out)
      clear HI
      go_wp2_with fail
      go_ret
      exact ⟨_, rfl, HR9.out⟩
end
end
section
set_option linter.unusedVariables false
set_option linter.unusedSimpArgs false
open Go.RowKit
/-- A stream of which nothing was told yet. -/
def frS (X : XS) (id : Nat) : TS := ⟨id, { ss0 id with lim := max (ss0 id).lim X.tsd }, qs0 id X.msd, 0, [], 0, []⟩
section
variable {w0 W W' : World} {s : Nat} {v0 v1 v : Value} {E0 E1 L : List En} {X : XS}
/-- Its three parts, in a new block. -/
theorem sq_fresh {W1 W2 : World} {id q p : Nat} {Oq Op : Nat → Prop} (hb : w0.heap.size ≤ W.heap.size) (hq : Sx w0 W1 q Oq (ss0 id)) (hqn : ∀ j, Oq j → W.heap.size ≤ j) (b1 : Below W.heap.size W W1)
    (hp : Qp W2 W1.heap.size p Op (qs0 id X.msd)) (b2 : Below W1.heap.size W1 W2) (hok : (qs0 id X.msd).ok) :
    Sq w0 (W2.alloc (.cells #[.int .u64 id, .pointer (some ⟨q, 0, none⟩), .pointer (some ⟨p, 0, none⟩), .int .u64 0, .slice none 0 0, .int .u64 0, .slice none 0 0] 61)) W2.heap.size q p Oq Op (.slice none 0 0) (.slice none 0 0) ⟨id, ss0 id, qs0 id X.msd, 0, [], 0, []⟩ := by
  have s1 := b1.size
  have s2 := b2.size
  have b3 : Below W2.heap.size W2 (W2.alloc (.cells #[.int .u64 id, .pointer (some ⟨q, 0, none⟩), .pointer (some ⟨p, 0, none⟩), .int .u64 0, .slice none 0 0, .int .u64 0, .slice none 0 0] 61)) := (Below.refl _ _).alloc (Nat.le_refl _) _
  have hq2 : Sx w0 W2 q Oq (ss0 id) := hq.kept (Kept.of_below b2 fun _ => False) (fun _ _ h => h) (fun _ h => h.elim)
  have hq3 := hq2.kept (Kept.of_below b3 fun _ => False) (fun _ _ h => h) (fun _ h => h.elim)
  have hp3 := (hp.kept (Kept.of_below b3 fun _ => False) (fun _ _ h => h)).baseT (show w0.heap.size ≤ W1.heap.size by omega)
  have lq := hq.lt
  have lp := hp.lt
  refine ⟨At.new W2 _ [.int .u64 id, .pointer (some ⟨q, 0, none⟩), .pointer (some ⟨p, 0, none⟩), .int .u64 0, .slice none 0 0, .int .u64 0, .slice none 0 0], hq3, hp3, ow_nil _ _ _, ow_nil _ _ _, ?_, by omega, hok⟩
  have nl : ∀ j, ¬ obk (.slice none 0 0) j := fun j hj => by cases hj
  intro a c A C ha hc hac b hA hC
  have e : ∀ (i : Nat) (P : Nat → Prop), ([(· = W2.heap.size), Oq, Op, obk (.slice none 0 0), obk (.slice none 0 0)] : List (Nat → Prop))[i]? = some P → P b → (i = 0 ∧ b = W2.heap.size) ∨ (i = 1 ∧ b < W1.heap.size) ∨ (i = 2 ∧ W1.heap.size ≤ b ∧ b < W2.heap.size) := fun i P hi hP => by
    rcases i with _ | _ | _ | _ | _ | i
    · simp at hi; subst hi; exact .inl ⟨rfl, hP⟩
    · simp at hi; subst hi; exact .inr (.inl ⟨rfl, (lq b hP).2⟩)
    · simp at hi; subst hi; exact .inr (.inr ⟨rfl, lp b hP⟩)
    · simp at hi; subst hi; exact absurd hP (nl b)
    · simp at hi; subst hi; exact absurd hP (nl b)
    · simp at hi
  have ea := e a A ha hA
  have ec := e c C hc hC
  omega
/-- What fresh hands back. -/
def FrPo (w0 W : World) (X : XS) (id : Nat) (e : Ending) (w' : World) : Prop :=
  ∃ x O, e = .returned (.pointer (some ⟨x, 0, none⟩)) ∧ Str w0 w' x O (frS X id) ∧ (∀ j, O j → W.heap.size ≤ j) ∧ Below W.heap.size W w'
theorem fresh_end {W5 w6 : World} {id x q p : Nat} {Oq Op : Nat → Prop} {e : Ending} (h : Sq w0 W5 x q p Oq Op (.slice none 0 0) (.slice none 0 0) ⟨id, ss0 id, qs0 id X.msd, 0, [], 0, []⟩)
    (b5 : Below W.heap.size W W5) (hx : W.heap.size ≤ x) (hq : ∀ j, Oq j → W.heap.size ≤ j) (hp : ∀ j, Op j → W.heap.size ≤ j)
    (hP : SxPost (.tuple #[]) w0 q Oq { ss0 id with lim := max (ss0 id).lim X.tsd } W5 e w6) : FrPo w0 W X id (.returned (.pointer (some ⟨x, 0, none⟩))) w6 := by
  obtain ⟨_, Oq', hs6, hk6, ho6⟩ := hP
  have h6 := h.sender hs6 hk6 ho6
  have s5 := b5.size
  refine ⟨x, _, rfl, ⟨q, p, _, _, _, _, rfl, h6⟩, ?_, hk6.below b5 s5 hq⟩
  rintro j (rfl | hj | hj | hj | hj)
  · exact hx
  · rcases ho6 j hj with e | e
    · exact hq j e
    · omega
  · exact hp j hj
  · cases hj
  · cases hj
end
end
end Go.Proofs.Ytndaikeeikimeaa
