/-
  The document's sender: Stop, Turn.
-/
import Derived.Test.YtbejpafephofaaaGreatMq22
import Derived.Test.YtbejpafephofaaaGreatZd
namespace Go.Proofs.YtbejpafephofaaaGreat
set_option linter.unusedVariables false
set_option linter.unusedSimpArgs false
open Go.RowKit
/-- A whole struct's store in the middle of a block, in a region that draws its order. -/
theorem step_st_in {P : Program} {ops : Array Oper} {a : Act} {w : World} {K : Act → World → Prop} {Q : Exit → Act → World → Prop} {E : Prop} {dst : Option Tmp} {x y : Operand} {ty t : TypeId} {pos : String} {after : Array Edge} {g : Option (Nat × Bool)}
    (hg : Region.wanted ⟨dst, .store ty x y, t, pos, after, g⟩ (yielded ops a.tmps) = true) (p o : Nat) (T : TypeId) (l l' : List Value) (hx : a.eval x = .pointer (some ⟨p, o, none⟩)) (hy : a.eval y = .agg l'.toArray) (hA : At w p T l) (hl : o + l'.length ≤ l.length)
    (hi : (P.info? ty).map (·.size) = some l'.length) (h1 : l'.all (·.oneCell') = true) (h : ∀ w', At w' p T (l.take o ++ l' ++ l.drop (o + l'.length)) → Kept (· = p) w w' → K (a.put dst undef) w') :
    if Region.wanted ⟨dst, .store ty x y, t, pos, after, g⟩ (yielded ops a.tmps) = true then Oper.wp P ⟨dst, .store ty x y, t, pos, after, g⟩ a w K Q else E := by
  rw [if_pos hg]
  refine wp_store_mid _ x y rfl p o l'.toArray hx hy ?_ (by simpa using hi) (by simpa using h1) ?_
  · intro j hj
    have hj' : j < l'.length := by simpa using hj
    refine ⟨?_, hA.frozen _⟩
    rw [hA.cell, List.getElem?_eq_getElem (by omega)]
    simp
  have := At.setFrom l' l o w hA
  rw [setFrom_eq l' l o hl] at this
  exact h _ (by simpa using this) (by simpa using Kept.setCells (S := (· = p)) rfl l' o w (Kept.refl _ _))
theorem mid_get {l l' : List Value} {o j : Nat} (hl : o + l'.length ≤ l.length) : (l.take o ++ l' ++ l.drop (o + l'.length))[j]? = if j < o then l[j]? else if j < o + l'.length then l'[j - o]? else l[j]? := by
  by_cases h1 : j < o
  · rw [if_pos h1, List.append_assoc, List.getElem?_append_left (by rw [List.length_take]; omega), List.getElem?_take_of_lt h1]
  · rw [if_neg h1]
    by_cases h2 : j < o + l'.length
    · rw [if_pos h2, List.getElem?_append_left (by rw [List.length_append, List.length_take]; omega), List.getElem?_append_right (by rw [List.length_take]; omega), List.length_take, Nat.min_eq_left (by omega)]
    · rw [if_neg h2, List.getElem?_append_right (by rw [List.length_append, List.length_take]; omega), List.getElem?_drop, List.length_append, List.length_take, Nat.min_eq_left (by omega)]
      congr 1
      omega
section
variable {w0 W : World} {q : Nat} {O : Nat → Prop} {X : SS} {fr : List Value} {dd : Bool}
theorem Dm.after (h : Dm w0 W q O X fr dd) {W1 W' : World} {X' : SS} {fr' : List Value} {dd' : Bool} (k : Below W.heap.size W W1) {r : Value} {e : Ending} (hP : DmPost w0 W1 q O X' fr' dd' r e W') : DmPost w0 W q O X' fr' dd' r e W' := by
  obtain ⟨he, O', h1, h2, h3⟩ := hP
  exact ⟨he, O', h1, (Kept.of_below k O).trans h2, fun j hj => (h3 j hj).imp (fun x => x) fun x => Nat.le_trans k.size x⟩
set_option maxRecDepth 100000 in
set_option maxHeartbeats 4000000 in
theorem rm_stop (h : Dm w0 W q O X fr dd) (hst : X.st ≤ 3) (code : Nat) (hc : code ≤ 4611686018427387903) : Calls Tryz.prog 15 #[.pointer (some ⟨q, 0, none⟩), .int .u64 code] W (DmPost w0 W q O { X with st := 5, cl := true, code := code, due := true } (frL (m4 X.id code X.o.gn) .nil .nil) true (.int .i64 0)) := by
  have h2 := h.c2
  have h30 := h.c30
  have f2 := h.frozen 2
  have f30 := h.frozen 30
  have hz : ¬ (4 : Int) ≤ (X.st : Int) := by omega
  have hz2 : ¬ (4611686018427387903 : Int) < (code : Int) := by omega
  have hgn : X.o.gn ≤ 800000 := by have := h.ok.gl; have := h.le; omega
  have wgn : IntKind.u64.wrap (X.o.gn : Int) = (X.o.gn : Int) := by rw [IntKind.wrap_u64]; omega
  obtain ⟨Y, hY⟩ : ∃ x, ((W.setCell ⟨q, 2, none⟩ (.int .i64 5)).setCell ⟨q, 30, none⟩ (.bool true)).drew = x := ⟨_, rfl⟩
  have hkY : Kept (· = q) W Y := by rw [← hY]; exact (((Kept.refl _ W).setAt 2 (.int .i64 5)).setAt 30 (.bool true)).drew
  obtain ⟨LL, hA0, hLl, _⟩ := h.at_
  have hAY : At Y q 53 ((LL.set 2 (.int .i64 5)).set 30 (.bool true)) := by rw [← hY]; exact (hA0.set 2 _).set 30 _
  have r0 : Y.cell? ⟨q, 0, none⟩ = some (.int .u64 X.id) := by
    rw [hAY.cell, List.getElem?_set_ne (by decide), List.getElem?_set_ne (by decide), ← hA0.cell]
    exact h.c0
  have r6 : Y.cell? ⟨q, 6, none⟩ = some (.int .i64 X.o.gn) := by
    rw [hAY.cell, List.getElem?_set_ne (by decide), List.getElem?_set_ne (by decide), ← hA0.cell]
    exact h.c6
  have HAY := Lib.hid hAY
  obtain ⟨LF, hLF⟩ : ∃ LF, frL (m4 X.id code X.o.gn) .nil .nil = LF := ⟨_, rfl⟩
  have hFl : LF.length = 19 := by rw [← hLF]; rfl
  have hFo : LF.all (·.oneCell') = true := by rw [← hLF]; rfl
  rw [hLF]
  have HLF := Lib.hid hLF
  have HFl := Lib.hid hFl
  have HFo := Lib.hid hFo
  have HLen : Hid (11 + LF.length ≤ ((LL.set 2 (.int .i64 5)).set 30 (.bool true)).length) := Lib.hid (by rw [hFl, List.length_set, List.length_set, hLl]; omega)
  have HEND : Hid (∀ w8, At w8 q 53 (((LL.set 2 (.int .i64 5)).set 30 (.bool true)).take 11 ++ LF ++ ((LL.set 2 (.int .i64 5)).set 30 (.bool true)).drop (11 + LF.length)) → Kept (· = q) Y w8 → DmPost w0 W q O { X with st := 5, cl := true, code := code, due := true } LF true (.int .i64 0) (.returned (.int .i64 0)) w8) := Lib.hid (fun w8 ha hk => by
    have hk8 : Kept (· = q) W w8 := hkY.trans hk
    refine h.top (h.outs (X' := { X with st := 5, cl := true, code := code, due := true }) (dd' := true) hk8 rfl hFl fun L hL hl => ?_) hk8 _
    have hLL : LL = L := by
      have e1 : W.heap[q]? = some (.cells LL.toArray 53 (0, 0)) := hA0
      have e2 : W.heap[q]? = some (.cells L.toArray 53 (0, 0)) := hL
      rw [e1] at e2
      injection e2 with e2
      injection e2 with e2 _ _
      simpa using congrArg Array.toList e2
    subst hLL
    have hle := HLen.out
    refine ⟨_, ha, by simp [hFl]; omega, fun j h1 h2 => ?_, fun e => ?_, fun e => ?_, fun e => ?_, fun e j v hv => ?_, fun e => ?_⟩
    · rw [mid_get hle, if_pos (by omega), List.getElem?_set_ne (by omega), List.getElem?_set_ne (by omega)]
    · rw [mid_get hle, if_pos (by omega), List.getElem?_set_ne (by decide), List.getElem?_set_ne (by decide)]
      exact e
    · rw [mid_get hle, if_pos (by omega), List.getElem?_set_ne (by decide), List.getElem?_set_ne (by decide)]
      exact e
    · rw [mid_get hle, if_pos (by omega), List.getElem?_set_ne (by decide), List.getElem?_set_self (by omega)]
      rfl
    · have hj := (List.getElem?_eq_some_iff.1 hv).1
      rw [mid_get hle, if_neg (by omega), if_pos (by omega), show 11 + j - 11 = j by omega]
      exact hv
    · rw [mid_get hle, if_neg (by omega), if_neg (by omega), List.getElem?_set_self (by rw [List.length_set]; omega)])
  clear h hst hc hkY hA0 hLl hAY hLF hFl hFo hgn
  go_enter Tryz.func15, Tryz.ntmps15
  go_wp2_with fail
  refine wp_region_held_drew (S := (fun W => W.cell? ⟨q, 0, none⟩ = some (.int .u64 X.id) ∧ W.cell? ⟨q, 6, none⟩ = some (.int .i64 X.o.gn))) (by kernel_rfl) (by rw [hY]; exact ⟨r0, r6⟩) (fun hHeld => ?_)
  rw [hY] at hHeld ⊢
  clear hY
  refine tkq 0 (some 18) (v := ?_) rfl (Or.inl ⟨by rfl, ?_⟩) (by assumption) ?_
  rotate_left
  · intro w hSw; (try dsimp only at hSw); go_simp; first | done | (with_reducible rfl)
  simp only [Act.put, List.setIfInBounds_toArray, List.set_cons_zero, List.set_cons_succ]
  refine tkq 1 (some 19) (v := ?_) rfl (Or.inl ⟨by rfl, ?_⟩) (by assumption) ?_
  rotate_left
  · intro w hSw; (try dsimp only at hSw); go_simp; first | done | (with_reducible rfl)
  simp only [Act.put, List.setIfInBounds_toArray, List.set_cons_zero, List.set_cons_succ]
  refine tkq 2 (some 20) (v := ?_) rfl (Or.inl ⟨by rfl, ?_⟩) (by assumption) ?_
  rotate_left
  · intro w hSw; (try dsimp only at hSw); go_simp; first | done | (with_reducible rfl)
  simp only [Act.put, List.setIfInBounds_toArray, List.set_cons_zero, List.set_cons_succ]
  refine tkq 3 (some 21) (v := ?_) rfl (Or.inl ⟨by rfl, ?_⟩) (by assumption) ?_
  rotate_left
  · intro w hSw; (try dsimp only at hSw); go_simp; first | done | (with_reducible rfl)
  simp only [Act.put, List.setIfInBounds_toArray, List.set_cons_zero, List.set_cons_succ]
  refine tkq 4 (some 22) (v := ?_) rfl (Or.inl ⟨by rfl, ?_⟩) (by assumption) ?_
  rotate_left
  · intro w hSw; (try dsimp only at hSw); go_simp; first | done | (with_reducible rfl)
  simp only [Act.put, List.setIfInBounds_toArray, List.set_cons_zero, List.set_cons_succ]
  refine tkq 5 (some 23) (v := ?_) rfl (Or.inl ⟨by rfl, ?_⟩) (by assumption) ?_
  rotate_left
  · intro w hSw; (try dsimp only at hSw); go_simp; first | done | (with_reducible rfl)
  simp only [Act.put, List.setIfInBounds_toArray, List.set_cons_zero, List.set_cons_succ]
  refine tkq 6 (some 24) (v := ?_) rfl (Or.inl ⟨by rfl, ?_⟩) (by assumption) ?_
  rotate_left
  · intro w hSw; (try dsimp only at hSw); go_simp; first | done | (with_reducible rfl)
  simp only [Act.put, List.setIfInBounds_toArray, List.set_cons_zero, List.set_cons_succ]
  refine tkq 7 (some 25) (v := ?_) rfl (Or.inl ⟨by rfl, ?_⟩) (by assumption) ?_
  rotate_left
  · intro w hSw; (try dsimp only at hSw); go_simp; first | done | (with_reducible rfl)
  simp only [Act.put, List.setIfInBounds_toArray, List.set_cons_zero, List.set_cons_succ]
  refine tkq 8 (some 26) (v := ?_) rfl (Or.inl ⟨by rfl, ?_⟩) (by assumption) ?_
  rotate_left
  · intro w hSw; (try dsimp only at hSw); go_simp; first | done | (with_reducible rfl)
  simp only [Act.put, List.setIfInBounds_toArray, List.set_cons_zero, List.set_cons_succ]
  refine tkq 9 (some 27) (v := ?_) rfl (Or.inl ⟨by rfl, ?_⟩) (by assumption) ?_
  rotate_left
  · intro w hSw; (try dsimp only at hSw); go_simp; first | done | (with_reducible rfl)
  simp only [Act.put, List.setIfInBounds_toArray, List.set_cons_zero, List.set_cons_succ]
  refine tkq 10 (some 28) (v := ?_) rfl (Or.inl ⟨by rfl, ?_⟩) (by assumption) ?_
  rotate_left
  · intro w hSw; (try dsimp only at hSw); go_simp; first | done | (with_reducible rfl)
  simp only [Act.put, List.setIfInBounds_toArray, List.set_cons_zero, List.set_cons_succ]
  refine tkq 11 (some 29) (v := ?_) rfl (Or.inl ⟨by rfl, ?_⟩) (by assumption) ?_
  rotate_left
  · intro w hSw; (try dsimp only at hSw); go_simp; first | done | (with_reducible rfl)
  simp only [Act.put, List.setIfInBounds_toArray, List.set_cons_zero, List.set_cons_succ]
  refine tkq 12 (some 30) (v := ?_) rfl (Or.inl ⟨by rfl, ?_⟩) (by assumption) ?_
  rotate_left
  · intro w hSw; (try dsimp only at hSw); go_simp; first | done | (with_reducible rfl)
  simp only [Act.put, List.setIfInBounds_toArray, List.set_cons_zero, List.set_cons_succ]
  refine tkq 13 (some 31) (v := ?_) rfl (Or.inl ⟨by rfl, ?_⟩) (by assumption) ?_
  rotate_left
  · intro w hSw; (try dsimp only at hSw); go_simp; first | done | (with_reducible rfl)
  simp only [Act.put, List.setIfInBounds_toArray, List.set_cons_zero, List.set_cons_succ]
  refine tkq 14 (some 32) (v := ?_) rfl (Or.inl ⟨by rfl, ?_⟩) (by assumption) ?_
  rotate_left
  · intro w hSw; (try dsimp only at hSw); go_simp; first | done | (with_reducible rfl)
  simp only [Act.put, List.setIfInBounds_toArray, List.set_cons_zero, List.set_cons_succ]
  refine wpAnyH_ready (rs := [15]) (by kernel_rfl) (by simp) ?_
  refine AllReadyH.cons rfl (fun K hK => ?_) AllReadyH.nil
  refine step_st_in (by rfl) q 11 53 _ LF (by rfl) (by rw [← HLF.out]; rfl) HAY.out HLen.out (by rw [HFl.out]; exact fr_info) HFo.out ?_
  intro w8 hAn hkn
  have HZ := Lib.hid (HEND.out w8 hAn hkn)
  have z0 : w8.cell? ⟨q, 0, none⟩ = some (.int .u64 X.id) := by obtain ⟨O', hD, _⟩ := HZ.out.2; exact hD.c0
  have z6 : w8.cell? ⟨q, 6, none⟩ = some (.int .i64 X.o.gn) := by obtain ⟨O', hD, _⟩ := HZ.out.2; exact hD.c6
  refine hK.out _ _ (⟨z0, z6⟩) (fun hHeld => ?_)
  clear hK K
  refine wpAnyH_done (by kernel_rfl) ?_ _
  go_wp2_with fail
  go_ret
  exact HZ.out
set_option maxRecDepth 100000 in
set_option maxHeartbeats 4000000 in
theorem rm_turn_other (h : Dm w0 W q O X fr dd) (m : FN) (d r : Sl) (ak : Bool) (hk : m.s ≠ X.id ∨ (m.k ≠ 8 ∧ m.k ≠ 4)) : Calls Tryz.prog 21 #[.pointer (some ⟨q, 0, none⟩), frV m d r, .bool ak] W (DmPost w0 W q O X fr dd (.tuple #[])) := by
  obtain ⟨L, W1, hfv, hW1, hB, d0, d1, d2, d3, d4⟩ := fr_box W m d r
  have h1 := h.below hB
  have c0 := h1.c0
  have c2 := h1.c2
  have HA := Lib.hid (fun (W2 : World) (k2 : Below W.heap.size W W2) (X' : SS) (fr' : List Value) (dd' : Bool) (r : Value) (e : Ending) (W' : World) (hP : DmPost w0 W2 q O X' fr' dd' r e W') => h.after k2 hP)
  have HB := Lib.hid hB
  have H1 := Lib.hid h1
  have HS := Lib.hid (fun W' (k : Below W.heap.size W W') => h.same k (.tuple #[]))
  rw [hfv]
  clear hB hfv h h1 d2 d3 d4 H1 HA c2
  cases hne : (m.s != (X.id : Int)) with
  | true =>
    clear hk
    have heq : (m.s == (X.id : Int)) = false := by simpa using hne
    go_enter Tryz.func21, Tryz.ntmps21
    go_wp2
    go_quiet (fail)
    go_wp2
    go_end0
    exact HS.out _ (below_drewN HB.out _)
  | false =>
    have heq : (m.s == (X.id : Int)) = true := by simpa using hne
    have hid : m.s = (X.id : Int) := by simpa using hne
    have hb8 : (m.k == 8) = false := by simp; omega
    have hb4 : (m.k == 4) = false := by simp; omega
    rw [hid] at d1
    clear hk hid hne heq
    go_enter Tryz.func21, Tryz.ntmps21
    go_wp2
    go_quiet (fail)
    go_wp2
    go_end0
    exact HS.out _ (below_drewN HB.out _)
set_option maxRecDepth 100000 in
set_option maxHeartbeats 4000000 in
theorem rm_turn_reset_acked (h : Dm w0 W q O X fr dd) (m : FN) (d r : Sl) (ak : Bool) (hak : ak = true) (hk : m.k = 4) (hs : m.s = X.id) (hst : X.st = 5) : Calls Tryz.prog 21 #[.pointer (some ⟨q, 0, none⟩), frV m d r, .bool ak] W (DmPost w0 W q O { X with st := 6 } fr false (.tuple #[])) := by
  obtain ⟨L, W1, hfv, hW1, hB, d0, d1, d2, d3, d4⟩ := fr_box W m d r
  have h1 := h.below hB
  have c0 := h1.c0
  have c2 := h1.c2
  have HA := Lib.hid (fun (W2 : World) (k2 : Below W.heap.size W W2) (X' : SS) (fr' : List Value) (dd' : Bool) (r : Value) (e : Ending) (W' : World) (hP : DmPost w0 W2 q O X' fr' dd' r e W') => h.after k2 hP)
  have HB := Lib.hid hB
  have H1 := Lib.hid h1
  rw [hk] at d0
  rw [hs] at d1
  rw [hfv]
  subst hak
  have HT := Lib.hid (fun (W2 : World) (h2 : Dm w0 W2 q O X fr dd) => (show DmPost w0 W2 q O { X with st := 6 } fr false (.tuple #[]) (.returned (.tuple #[])) ((W2.setCell ⟨q, 2, none⟩ (.int .i64 6)).setCell ⟨q, 30, none⟩ (.bool false)) from
    h2.top (h2.outs (X' := { X with st := 6 }) (dd' := false) (((Kept.refl _ W2).setAt 2 (.int .i64 6)).setAt 30 (.bool false)) rfl h2.fl fun L hL hl => ⟨_, (hL.set 2 _).set 30 _, by rw [List.length_set, List.length_set]; exact hl, fun j h1 h2 => by rw [List.getElem?_set_ne (by omega), List.getElem?_set_ne (by omega)], fun e => by rw [List.getElem?_set_ne (by decide), List.getElem?_set_ne (by decide)]; exact e, fun e => by rw [List.getElem?_set_ne (by decide), List.getElem?_set_ne (by decide)]; exact e,
      fun e => by rw [List.getElem?_set_ne (by decide), List.getElem?_set_self (by omega)]; rfl, fun e j v hv => by
        have hj := (List.getElem?_eq_some_iff.1 hv).1
        have := h2.fl
        rw [List.getElem?_set_ne (by omega), List.getElem?_set_ne (by omega)]
        exact e j v hv, fun e => by rw [List.getElem?_set_self (by rw [List.length_set]; omega)]⟩) (((Kept.refl _ W2).setAt 2 (.int .i64 6)).setAt 30 (.bool false)) _))
  rw [hst] at c2
  clear hfv h h1 hB hs hk hst d2 d3 d4
  go_enter Tryz.func21, Tryz.ntmps21
  go_wp2
  go_quiet (fail)
  have h2 := Lib.hid (And.intro (H1.out.drewN nq) (below_drewN HB.out nq))
  have e0 : (W1.drewN nq).cell? ⟨W.heap.size, 0, none⟩ = _ := d0
  have e2 : (W1.drewN nq).cell? ⟨q, 2, none⟩ = _ := c2
  have f2 := h2.out.1.frozen 2
  have f30 := h2.out.1.frozen 30
  have e30 := h2.out.1.c30
  generalize W1.drewN nq = W2 at h2 e0 e2 f2 f30 e30 ⊢
  clear d0 d1 c0 c2 H1 HB hW1
  go_wp2
  go_end0
  exact HA.out W2 h2.out.2 _ _ _ _ _ _ (HT.out W2 h2.out.1)
set_option maxRecDepth 100000 in
set_option maxHeartbeats 4000000 in
theorem rm_turn_reset_lost (h : Dm w0 W q O X fr dd) (m : FN) (d r : Sl) (ak : Bool) (hak : ak = false) (hk : m.k = 4) (hs : m.s = X.id) (hst : X.st = 5) : Calls Tryz.prog 21 #[.pointer (some ⟨q, 0, none⟩), frV m d r, .bool ak] W (DmPost w0 W q O { X with due := true } fr true (.tuple #[])) := by
  obtain ⟨L, W1, hfv, hW1, hB, d0, d1, d2, d3, d4⟩ := fr_box W m d r
  have h1 := h.below hB
  have c0 := h1.c0
  have c2 := h1.c2
  have HA := Lib.hid (fun (W2 : World) (k2 : Below W.heap.size W W2) (X' : SS) (fr' : List Value) (dd' : Bool) (r : Value) (e : Ending) (W' : World) (hP : DmPost w0 W2 q O X' fr' dd' r e W') => h.after k2 hP)
  have HB := Lib.hid hB
  have H1 := Lib.hid h1
  rw [hk] at d0
  rw [hs] at d1
  rw [hfv]
  subst hak
  have HT := Lib.hid (fun (W2 : World) (h2 : Dm w0 W2 q O X fr dd) => (show DmPost w0 W2 q O { X with due := true } fr true (.tuple #[]) (.returned (.tuple #[])) (W2.setCell ⟨q, 30, none⟩ (.bool true)) from
    h2.top (h2.outs (X' := { X with due := true }) (dd' := true) ((Kept.refl _ W2).setAt 30 (.bool true)) rfl h2.fl fun L hL hl => ⟨_, hL.set 30 _, by rw [List.length_set]; exact hl, fun j h1 h2 => by rw [List.getElem?_set_ne (by omega)], fun e => by rw [List.getElem?_set_ne (by decide)]; exact e, fun e => by rw [List.getElem?_set_ne (by decide)]; exact e,
      fun e => by rw [List.getElem?_set_ne (by decide)]; exact e, fun e j v hv => by
        have hj := (List.getElem?_eq_some_iff.1 hv).1
        have := h2.fl
        rw [List.getElem?_set_ne (by omega)]
        exact e j v hv, fun e => by rw [List.getElem?_set_self (by omega)]⟩) ((Kept.refl _ W2).setAt 30 (.bool true)) _))
  rw [hst] at c2
  clear hfv h h1 hB hs hk hst d2 d3 d4
  go_enter Tryz.func21, Tryz.ntmps21
  go_wp2
  go_quiet (fail)
  have h2 := Lib.hid (And.intro (H1.out.drewN nq) (below_drewN HB.out nq))
  have e0 : (W1.drewN nq).cell? ⟨W.heap.size, 0, none⟩ = _ := d0
  have e2 : (W1.drewN nq).cell? ⟨q, 2, none⟩ = _ := c2
  have f2 := h2.out.1.frozen 2
  have f30 := h2.out.1.frozen 30
  have e30 := h2.out.1.c30
  generalize W1.drewN nq = W2 at h2 e0 e2 f2 f30 e30 ⊢
  clear d0 d1 c0 c2 H1 HB hW1
  go_wp2
  go_end0
  exact HA.out W2 h2.out.2 _ _ _ _ _ _ (HT.out W2 h2.out.1)
set_option maxRecDepth 100000 in
set_option maxHeartbeats 4000000 in
theorem rm_turn_reset_no (h : Dm w0 W q O X fr dd) (m : FN) (d r : Sl) (ak : Bool) (hak : ak = ak) (hk : m.k = 4) (hs : m.s = X.id) (hst : X.st ≠ 5) : Calls Tryz.prog 21 #[.pointer (some ⟨q, 0, none⟩), frV m d r, .bool ak] W (DmPost w0 W q O X fr dd (.tuple #[])) := by
  obtain ⟨L, W1, hfv, hW1, hB, d0, d1, d2, d3, d4⟩ := fr_box W m d r
  have h1 := h.below hB
  have c0 := h1.c0
  have c2 := h1.c2
  have HA := Lib.hid (fun (W2 : World) (k2 : Below W.heap.size W W2) (X' : SS) (fr' : List Value) (dd' : Bool) (r : Value) (e : Ending) (W' : World) (hP : DmPost w0 W2 q O X' fr' dd' r e W') => h.after k2 hP)
  have HB := Lib.hid hB
  have H1 := Lib.hid h1
  rw [hk] at d0
  rw [hs] at d1
  rw [hfv]
  have hs5 : ((X.st : Int) == 5) = false := by simp; omega
  clear hfv h h1 hB hs hk hst d2 d3 d4
  go_enter Tryz.func21, Tryz.ntmps21
  go_wp2
  go_quiet (fail)
  have h2 := Lib.hid (And.intro (H1.out.drewN nq) (below_drewN HB.out nq))
  have e0 : (W1.drewN nq).cell? ⟨W.heap.size, 0, none⟩ = _ := d0
  have e2 : (W1.drewN nq).cell? ⟨q, 2, none⟩ = _ := c2
  have f2 := h2.out.1.frozen 2
  have f30 := h2.out.1.frozen 30
  have e30 := h2.out.1.c30
  generalize W1.drewN nq = W2 at h2 e0 e2 f2 f30 e30 ⊢
  clear d0 d1 c0 c2 H1 HB hW1
  go_wp2
  go_end0
  exact HA.out W2 h2.out.2 _ _ _ _ _ _ ⟨rfl, O, h2.out.1, Kept.refl _ _, fun j hj => .inl hj⟩
set_option maxRecDepth 100000 in
set_option maxHeartbeats 4000000 in
theorem rm_turn_acked (h : Dm w0 W q O X fr dd) (m : FN) (d r : Sl) (hk : m.k = 8) (hs : m.s = X.id) (off : Nat) (ho : m.o = off) (hob : off < 18446744073709551616) (hdn : d.n < 9223372036854775808) :
    Calls Tryz.prog 21 #[.pointer (some ⟨q, 0, none⟩), frV m d r, .bool true] W (DmPost w0 W q O (ackX X off d.n m.fin) fr dd (.tuple #[])) := by
  obtain ⟨L, W1, hfv, hW1, hB, d0, d1, d2, d3, d4⟩ := fr_box W m d r
  have h1 := h.below hB
  have c0 := h1.c0
  have c2 := h1.c2
  have HA := Lib.hid (fun (W2 : World) (k2 : Below W.heap.size W W2) (X' : SS) (fr' : List Value) (dd' : Bool) (r : Value) (e : Ending) (W' : World) (hP : DmPost w0 W2 q O X' fr' dd' r e W') => h.after k2 hP)
  have HB := Lib.hid hB
  have H1 := Lib.hid h1
  rw [hk] at d0
  rw [hs] at d1
  rw [ho] at d2
  have c3 := h1.c3
  generalize m.fin = fi at *
  obtain ⟨dA, dn, dc⟩ := d
  simp only at d3 hdn ⊢
  obtain ⟨S', hS'⟩ : ∃ S', ackO X.o off dn fi = S' := ⟨_, rfl⟩
  have hok' : S'.ok := by rw [← hS']; exact ackO_ok h.ok _ _ _
  have hle' : S'.bs.length ≤ 800000 := by rw [← hS']; exact h.le
  have hHle := h.le
  have hHok := h.ok
  have HC := Lib.hid (fun (W2 : World) (h2 : Dm w0 W2 q O X fr dd) => (show Calls Tryz.prog 42 #[.pointer (some ⟨q, 3, none⟩), .int .u64 off, .int .i64 dn, .bool fi, .bool true] W2 fun e w' => e = .returned (.tuple #[]) ∧ DmPost w0 W2 q O { X with o := S' } fr dd (.tuple #[]) e w' by
    obtain ⟨L, hrs, _⟩ := h2.ex
    have hT := fun L (hrs : Rs W2 w0.heap.size q 3 53 L O X.o) => rturn_acked hrs hHok (by omega) off hob dn (by omega) fi
    obtain ⟨hl, h0, h1, h2', hf, h30⟩ := ‹L.length = 31 ∧ _›
    refine (hT L hrs).mono fun e w' hP => ⟨hP.1, ?_⟩
    rw [show ((dn : Nat) : Int).toNat = dn by omega, hS'] at hP
    obtain ⟨he, L', O', q1, q2, q3, q4⟩ := hP
    exact ⟨he, O', ⟨hok', ⟨L', q1, by rw [q2.len]; exact hl, by rw [q2.out 0 (.inl (by omega))]; exact h0, by rw [q2.out 1 (.inl (by omega))]; exact h1, by rw [q2.out 2 (.inl (by omega))]; exact h2', fun j v hv => by rw [q2.out (11 + j) (.inr (by omega))]; exact hf j v hv, by rw [q2.out 30 (.inr (by omega))]; exact h30⟩, h2.fl, q3.belowO h2.bl fun j hj => (h2.lt j hj).1, hle'⟩, q3, q4⟩))
  have hX : ackX X off dn fi = { X with o := S', st := if X.st = 3 ∧ wholeO S' = true then 4 else X.st } := by unfold ackX; rw [hS']
  have HWH := Lib.hid (fun (W2 : World) (O' : Nat → Prop) (h2 : Dm w0 W2 q O' { X with o := S' } fr dd) => (show Calls Tryz.prog 43 #[.pointer (some ⟨q, 3, none⟩)] W2 fun e w' => e = .returned (.bool (wholeO S')) ∧ ∃ d, w' = W2.drewN d by
    obtain ⟨L, hrs, _⟩ := h2.ex
    exact rwhole_any hrs (by show S'.bs.length ≤ _; omega)))
  rw [hfv, hX]
  obtain ⟨ns, hns⟩ : ∃ ns, (if X.st = 3 ∧ wholeO S' = true then 4 else X.st) = ns := ⟨_, rfl⟩
  have hcase : Hid ((X.st = 3 ∧ wholeO S' = true ∧ ns = 4) ∨ (X.st = 3 ∧ wholeO S' = false ∧ ns = X.st) ∨ (X.st ≠ 3 ∧ ns = X.st)) := Lib.hid (by
    rw [← hns]
    cases wholeO S' with
    | true => by_cases h3 : X.st = 3 <;> simp [h3]
    | false => by_cases h3 : X.st = 3 <;> simp [h3])
  rw [hns]
  have HT := Lib.hid (fun (W2 W3 : World) (O' : Nat → Prop) (h3 : DmPost w0 W2 q O { X with o := S' } fr dd (.tuple #[]) (.returned (.tuple #[])) W3) => (show DmPost w0 W2 q O { X with o := S', st := 4 } fr dd (.tuple #[]) (.returned (.tuple #[])) (W3.setCell ⟨q, 2, none⟩ (.int .i64 4)) by
    obtain ⟨_, O', h3, k3, o3⟩ := h3
    have hOq : O q ∨ W2.heap.size ≤ q := o3 q h3.Oq
    have kS : Kept (· = q) W3 (W3.setCell ⟨q, 2, none⟩ (.int .i64 4)) := (Kept.refl _ W3).setAt 2 (.int .i64 4)
    refine ⟨rfl, O', h3.outs (X' := { X with o := S', st := 4 }) (dd' := dd) kS rfl h3.fl fun L hL hl => ⟨_, hL.set 2 _, by rw [List.length_set]; exact hl, fun j h1 h2 => by rw [List.getElem?_set_ne (by omega)], fun e => by rw [List.getElem?_set_ne (by decide)]; exact e, fun e => by rw [List.getElem?_set_ne (by decide)]; exact e,
      fun e => by rw [List.getElem?_set_self (by omega)]; rfl, fun e j v hv => by rw [List.getElem?_set_ne (by omega)]; exact e j v hv, fun e => by rw [List.getElem?_set_ne (by decide)]; exact e⟩, k3.trans' kS fun j hj => by rw [hj]; exact hOq, o3⟩))
  clear hns
  clear hfv h h1 hB ho hs hk hX hS' hok' hle' hHle hHok c2 c3
  go_enter Tryz.func21, Tryz.ntmps21
  go_wp2
  go_quiet (fail)
  have h2 := Lib.hid (And.intro (H1.out.drewN nq) (below_drewN HB.out nq))
  have e0 : (W1.drewN nq).cell? ⟨W.heap.size, 0, none⟩ = _ := d0
  have e2 : (W1.drewN nq).cell? ⟨W.heap.size, 2, none⟩ = _ := d2
  have e3 : (W1.drewN nq).cell? ⟨W.heap.size, 3, none⟩ = _ := d3
  have e4 : (W1.drewN nq).cell? ⟨W.heap.size, 4, none⟩ = _ := d4
  generalize W1.drewN nq = W2 at h2 e0 e2 e3 e4 ⊢
  clear d0 d1 d2 d3 d4 c0 H1 HB hW1
  go_wp2
  go_still_tail 11, (by kernel_rfl)
  change wpList _ _ _ _ _ (World.drew W2)
  have h3 := Lib.hid (And.intro (h2.out.1.drewN 1) (below_drewN h2.out.2 1))
  have HC3 := Lib.hid (HC.out (W2.drewN 1) h3.out.1)
  change wpList _ _ _ _ _ (World.drewN W2 1)
  generalize W2.drewN 1 = W3 at h3 HC3 ⊢
  clear HC h2 e0 e2 e3 e4
  rcases hcase.out with ⟨hc1, hc2, rfl⟩ | ⟨hc1, hc2, hns⟩ | ⟨hc1, hns⟩
  · have HC1 := Lib.hid hc1
    have HCW := Lib.hid hc2
    clear hc1 hc2
    skip
    go_wp2_with (first
      | (go_at_call 42; (with_reducible refine HC3.out.mono ?_); rintro e w4 ⟨rfl, hP⟩; have HP := Lib.hid hP; have HDX : Hid (∃ O', Dm w0 w4 q O' { X with o := S' } fr dd) := Lib.hid (by obtain ⟨_, O', hD, _⟩ := hP; exact ⟨O', hD⟩); have x2 : w4.cell? ⟨q, 2, none⟩ = some (.int .i64 X.st) := (by obtain ⟨O', hD⟩ := HDX.out; exact hD.c2); rw [HC1.out] at x2; have HW4 : Hid (Calls Tryz.prog 43 #[.pointer (some ⟨q, 3, none⟩)] w4 fun e w' => e = .returned (.bool (wholeO S')) ∧ ∃ d, w' = w4.drewN d) := Lib.hid (by obtain ⟨O', hD⟩ := HDX.out; exact HWH.out w4 O' hD); rw [HCW.out] at HW4; have f2 : w4.frozen? ⟨q, 2, none⟩ = false := (by obtain ⟨O', hD⟩ := HDX.out; exact hD.frozen 2); clear hP)
      | (go_at_call 43; (with_reducible refine HW4.out.mono ?_); rintro e w5 ⟨rfl, dn5, hw5⟩; rw [hw5]; clear hw5))
    go_end0
    have hP5 : DmPost w0 W3 q O { X with o := S' } fr dd (.tuple #[]) (.returned (.tuple #[])) (w4.drewN dn5) := by
      obtain ⟨he, O', hD, hk, ho⟩ := HP.out
      exact ⟨rfl, O', hD.drewN dn5, hk.drewN dn5, ho⟩
    exact HA.out W3 h3.out.2 _ _ _ _ _ _ (HT.out W3 _ O hP5)
  · have HC1 := Lib.hid hc1
    have HCW := Lib.hid hc2
    subst hns
    clear hc1 hc2
    skip
    go_wp2_with (first
      | (go_at_call 42; (with_reducible refine HC3.out.mono ?_); rintro e w4 ⟨rfl, hP⟩; have HP := Lib.hid hP; have HDX : Hid (∃ O', Dm w0 w4 q O' { X with o := S' } fr dd) := Lib.hid (by obtain ⟨_, O', hD, _⟩ := hP; exact ⟨O', hD⟩); have x2 : w4.cell? ⟨q, 2, none⟩ = some (.int .i64 X.st) := (by obtain ⟨O', hD⟩ := HDX.out; exact hD.c2); rw [HC1.out] at x2; have HW4 : Hid (Calls Tryz.prog 43 #[.pointer (some ⟨q, 3, none⟩)] w4 fun e w' => e = .returned (.bool (wholeO S')) ∧ ∃ d, w' = w4.drewN d) := Lib.hid (by obtain ⟨O', hD⟩ := HDX.out; exact HWH.out w4 O' hD); rw [HCW.out] at HW4; have f2 : w4.frozen? ⟨q, 2, none⟩ = false := (by obtain ⟨O', hD⟩ := HDX.out; exact hD.frozen 2); clear hP)
      | (go_at_call 43; (with_reducible refine HW4.out.mono ?_); rintro e w5 ⟨rfl, dn5, hw5⟩; rw [hw5]; clear hw5))
    go_end0
    have hP5 : DmPost w0 W3 q O { X with o := S' } fr dd (.tuple #[]) (.returned (.tuple #[])) (w4.drewN dn5) := by
      obtain ⟨he, O', hD, hk, ho⟩ := HP.out
      exact ⟨rfl, O', hD.drewN dn5, hk.drewN dn5, ho⟩
    exact HA.out W3 h3.out.2 _ _ _ _ _ _ hP5
  · subst hns
    have hs3 : ((X.st : Int) == 3) = false := by simp; omega
    clear hc1
    skip
    go_wp2_with (go_at_call 42; (with_reducible refine HC3.out.mono ?_); rintro e w4 ⟨rfl, hP⟩; have HP := Lib.hid hP; have HDX : Hid (∃ O', Dm w0 w4 q O' { X with o := S' } fr dd) := Lib.hid (by obtain ⟨_, O', hD, _⟩ := hP; exact ⟨O', hD⟩); have x2 : w4.cell? ⟨q, 2, none⟩ = some (.int .i64 X.st) := (by obtain ⟨O', hD⟩ := HDX.out; exact hD.c2); clear hP)
    go_end0
    exact HA.out W3 h3.out.2 _ _ _ _ _ _ ⟨rfl, HP.out.2⟩
set_option maxRecDepth 100000 in
set_option maxHeartbeats 4000000 in
theorem rm_turn_lost (h : Dm w0 W q O X fr dd) (m : FN) (d r : Sl) (hk : m.k = 8) (hs : m.s = X.id) (off : Nat) (ho : m.o = off) (hob : off < 18446744073709551616) (hdn : d.n < 9223372036854775808) (hw : X.st = 3 → wholeO X.o = false) :
    Calls Tryz.prog 21 #[.pointer (some ⟨q, 0, none⟩), frV m d r, .bool false] W (DmPost w0 W q O (lostX X off d.n m.fin) fr dd (.tuple #[])) := by
  obtain ⟨L, W1, hfv, hW1, hB, d0, d1, d2, d3, d4⟩ := fr_box W m d r
  have h1 := h.below hB
  have c0 := h1.c0
  have c2 := h1.c2
  have HA := Lib.hid (fun (W2 : World) (k2 : Below W.heap.size W W2) (X' : SS) (fr' : List Value) (dd' : Bool) (r : Value) (e : Ending) (W' : World) (hP : DmPost w0 W2 q O X' fr' dd' r e W') => h.after k2 hP)
  have HB := Lib.hid hB
  have H1 := Lib.hid h1
  rw [hk] at d0
  rw [hs] at d1
  rw [ho] at d2
  have c3 := h1.c3
  generalize m.fin = fi at *
  obtain ⟨dA, dn, dc⟩ := d
  simp only at d3 hdn ⊢
  obtain ⟨S', hS'⟩ : ∃ S', lostO X.o off dn fi = S' := ⟨_, rfl⟩
  have hok' : S'.ok := by rw [← hS']; exact lostO_ok h.ok _ _ _
  have hle' : S'.bs.length ≤ 800000 := by rw [← hS']; exact h.le
  have hHle := h.le
  have hHok := h.ok
  have HC := Lib.hid (fun (W2 : World) (h2 : Dm w0 W2 q O X fr dd) => (show Calls Tryz.prog 42 #[.pointer (some ⟨q, 3, none⟩), .int .u64 off, .int .i64 dn, .bool fi, .bool false] W2 fun e w' => e = .returned (.tuple #[]) ∧ DmPost w0 W2 q O { X with o := S' } fr dd (.tuple #[]) e w' by
    obtain ⟨L, hrs, _⟩ := h2.ex
    have hT := fun L (hrs : Rs W2 w0.heap.size q 3 53 L O X.o) => rturn_lost hrs hHok (by omega) off hob dn (by omega) fi
    obtain ⟨hl, h0, h1, h2', hf, h30⟩ := ‹L.length = 31 ∧ _›
    refine (hT L hrs).mono fun e w' hP => ⟨hP.1, ?_⟩
    rw [show ((dn : Nat) : Int).toNat = dn by omega, hS'] at hP
    obtain ⟨he, L', O', q1, q2, q3, q4⟩ := hP
    exact ⟨he, O', ⟨hok', ⟨L', q1, by rw [q2.len]; exact hl, by rw [q2.out 0 (.inl (by omega))]; exact h0, by rw [q2.out 1 (.inl (by omega))]; exact h1, by rw [q2.out 2 (.inl (by omega))]; exact h2', fun j v hv => by rw [q2.out (11 + j) (.inr (by omega))]; exact hf j v hv, by rw [q2.out 30 (.inr (by omega))]; exact h30⟩, h2.fl, q3.belowO h2.bl fun j hj => (h2.lt j hj).1, hle'⟩, q3, q4⟩))
  have hX : lostX X off dn fi = { X with o := S' } := by unfold lostX; rw [hS']
  have HWH := Lib.hid (fun (W2 : World) (O' : Nat → Prop) (h2 : Dm w0 W2 q O' { X with o := S' } fr dd) => (show Calls Tryz.prog 43 #[.pointer (some ⟨q, 3, none⟩)] W2 fun e w' => e = .returned (.bool (wholeO S')) ∧ ∃ d, w' = W2.drewN d by
    obtain ⟨L, hrs, _⟩ := h2.ex
    exact rwhole_any hrs (by show S'.bs.length ≤ _; omega)))
  rw [hfv, hX]
  have hwS : X.st = 3 → wholeO S' = false := fun e => by rw [← hS']; exact hw e
  have hcase : Hid ((X.st = 3 ∧ wholeO S' = false) ∨ X.st ≠ 3) := Lib.hid (by
    by_cases h3 : X.st = 3
    · exact .inl ⟨h3, hwS h3⟩
    · exact .inr h3)
  clear hw hwS
  clear hfv h h1 hB ho hs hk hX hS' hok' hle' hHle hHok c2 c3
  go_enter Tryz.func21, Tryz.ntmps21
  go_wp2
  go_quiet (fail)
  have h2 := Lib.hid (And.intro (H1.out.drewN nq) (below_drewN HB.out nq))
  have e0 : (W1.drewN nq).cell? ⟨W.heap.size, 0, none⟩ = _ := d0
  have e2 : (W1.drewN nq).cell? ⟨W.heap.size, 2, none⟩ = _ := d2
  have e3 : (W1.drewN nq).cell? ⟨W.heap.size, 3, none⟩ = _ := d3
  have e4 : (W1.drewN nq).cell? ⟨W.heap.size, 4, none⟩ = _ := d4
  generalize W1.drewN nq = W2 at h2 e0 e2 e3 e4 ⊢
  clear d0 d1 d2 d3 d4 c0 H1 HB hW1
  go_wp2
  go_still_tail 11, (by kernel_rfl)
  change wpList _ _ _ _ _ (World.drew W2)
  have h3 := Lib.hid (And.intro (h2.out.1.drewN 1) (below_drewN h2.out.2 1))
  have HC3 := Lib.hid (HC.out (W2.drewN 1) h3.out.1)
  change wpList _ _ _ _ _ (World.drewN W2 1)
  generalize W2.drewN 1 = W3 at h3 HC3 ⊢
  clear HC h2 e0 e2 e3 e4
  rcases hcase.out with ⟨hc1, hc2⟩ | hc1
  · have HC1 := Lib.hid hc1
    have HCW := Lib.hid hc2
    clear hc1 hc2
    skip
    go_wp2_with (first
      | (go_at_call 42; (with_reducible refine HC3.out.mono ?_); rintro e w4 ⟨rfl, hP⟩; have HP := Lib.hid hP; have HDX : Hid (∃ O', Dm w0 w4 q O' { X with o := S' } fr dd) := Lib.hid (by obtain ⟨_, O', hD, _⟩ := hP; exact ⟨O', hD⟩); have x2 : w4.cell? ⟨q, 2, none⟩ = some (.int .i64 X.st) := (by obtain ⟨O', hD⟩ := HDX.out; exact hD.c2); rw [HC1.out] at x2; have HW4 : Hid (Calls Tryz.prog 43 #[.pointer (some ⟨q, 3, none⟩)] w4 fun e w' => e = .returned (.bool (wholeO S')) ∧ ∃ d, w' = w4.drewN d) := Lib.hid (by obtain ⟨O', hD⟩ := HDX.out; exact HWH.out w4 O' hD); rw [HCW.out] at HW4; have f2 : w4.frozen? ⟨q, 2, none⟩ = false := (by obtain ⟨O', hD⟩ := HDX.out; exact hD.frozen 2); clear hP)
      | (go_at_call 43; (with_reducible refine HW4.out.mono ?_); rintro e w5 ⟨rfl, dn5, hw5⟩; rw [hw5]; clear hw5))
    go_end0
    have hP5 : DmPost w0 W3 q O { X with o := S' } fr dd (.tuple #[]) (.returned (.tuple #[])) (w4.drewN dn5) := by
      obtain ⟨he, O', hD, hk, ho⟩ := HP.out
      exact ⟨rfl, O', hD.drewN dn5, hk.drewN dn5, ho⟩
    exact HA.out W3 h3.out.2 _ _ _ _ _ _ hP5
  · have hs3 : ((X.st : Int) == 3) = false := by simp; omega
    clear hc1
    skip
    go_wp2_with (go_at_call 42; (with_reducible refine HC3.out.mono ?_); rintro e w4 ⟨rfl, hP⟩; have HP := Lib.hid hP; have HDX : Hid (∃ O', Dm w0 w4 q O' { X with o := S' } fr dd) := Lib.hid (by obtain ⟨_, O', hD, _⟩ := hP; exact ⟨O', hD⟩); have x2 : w4.cell? ⟨q, 2, none⟩ = some (.int .i64 X.st) := (by obtain ⟨O', hD⟩ := HDX.out; exact hD.c2); clear hP)
    go_end0
    exact HA.out W3 h3.out.2 _ _ _ _ _ _ ⟨rfl, HP.out.2⟩
end
end Go.Proofs.YtbejpafephofaaaGreat
