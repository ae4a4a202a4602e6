/-
  hello.Side: awaits, Out; First.
-/
import Derived.Test.YtdakbedohjemeaaMq14
namespace Go.Proofs.Ytdakbedohjemeaa
section
set_option linter.unusedVariables false
set_option linter.unusedSimpArgs false
open Go.RowKit Go.ChangeShapes Go.WideShapes Go.Deep
section
variable {w w' : World} {base p : Nat} {vo vh : Value} {O : Nat → Prop} {X X' : HS}
set_option maxRecDepth 100000 in
set_option maxHeartbeats 2000000 in
theorem h_awaits (h : Hm w base p O X) (hk : X.ok) (space x : Int) : Calls Try.prog 54 #[.pointer (some ⟨p, 0, none⟩), .int .i64 space, .int .u8 x] w fun e w' => e = .returned (.bool (awaitB X space x)) ∧ w' = w := by
  obtain ⟨vo, vh, h, rfl⟩ := h
  obtain ⟨n, hn⟩ : ∃ n, X.held.length = n := ⟨_, rfl⟩
  obtain ⟨A, c, hv, _, _, _⟩ := h.held.open_n n hn
  have c3 := h.c3
  have c4 := h.c4
  rw [hv] at c4
  have hs := hk.st
  have hl := hk.hl
  rw [hn] at hl
  have hbb : (X.held ≠ []) ↔ (n ≠ 0) := by rw [← hn]; exact ⟨fun h e => h (List.eq_nil_of_length_eq_zero e), fun h e => h (by rw [e]; rfl)⟩
  have HR : awaitB X space x = (if X.st = 0 then decide (space = 0 ∧ (n ≠ 0 ∨ x = 1)) else if X.st = 1 then decide (space = 1 ∧ (n ≠ 0 ∨ x = 20)) else false) := by
    unfold awaitB
    have e1 : decide (space = 0 ∧ (X.held ≠ [] ∨ x = 1)) = decide (space = 0 ∧ (n ≠ 0 ∨ x = 1)) := decide_eq_decide.2 (by rw [hbb])
    have e2 : decide (space = 1 ∧ (X.held ≠ [] ∨ x = 20)) = decide (space = 1 ∧ (n ≠ 0 ∨ x = 20)) := decide_eq_decide.2 (by rw [hbb])
    rw [e1, e2]
  rw [HR]
  clear HR hbb h hv hn
  generalize X.st = s at *
  by_cases hn0 : n = 0
  · subst hn0
    rcases hs with rfl | rfl | rfl
    · by_cases h1 : space = 0
      · subst h1
        have hx : decide ((0:Int) = 0 ∧ ((0:Nat) ≠ 0 ∨ x = 1)) = (x == 1) := by rw [Bool.eq_iff_iff]; simp
        rw [if_pos rfl, hx]
        clear hx
        go_enter Try.func54, Try.ntmps54
        go_wp2
        go_ret
        exact ⟨rfl, rfl⟩
      · have e1 : (space == 0) = false := by simp [h1]
        rw [if_pos rfl, decide_eq_false (fun h => h1 h.1)]
        go_enter Try.func54, Try.ntmps54
        go_wp2
        go_ret
        exact ⟨rfl, rfl⟩
    · by_cases h1 : space = 1
      · subst h1
        have hx : decide ((1:Int) = 1 ∧ ((0:Nat) ≠ 0 ∨ x = 20)) = (x == 20) := by rw [Bool.eq_iff_iff]; simp
        rw [if_neg (by omega), if_pos rfl, hx]
        clear hx
        go_enter Try.func54, Try.ntmps54
        go_wp2
        go_ret
        exact ⟨rfl, rfl⟩
      · have e1 : (space == 1) = false := by simp [h1]
        rw [if_neg (by omega), if_pos rfl, decide_eq_false (fun h => h1 h.1)]
        go_enter Try.func54, Try.ntmps54
        go_wp2
        go_ret
        exact ⟨rfl, rfl⟩
    · rw [if_neg (by omega), if_neg (by omega)]
      go_enter Try.func54, Try.ntmps54
      go_wp2
      go_ret
      exact ⟨rfl, rfl⟩
  · have e0 : ((n : Int) == 0) = false := by simp; omega
    rcases hs with rfl | rfl | rfl
    · by_cases h1 : space = 0
      · subst h1
        rw [if_pos rfl, decide_eq_true (⟨rfl, .inl hn0⟩)]
        go_enter Try.func54, Try.ntmps54
        go_wp2
        go_ret
        exact ⟨rfl, rfl⟩
      · have e1 : (space == 0) = false := by simp [h1]
        rw [if_pos rfl, decide_eq_false (fun h => h1 h.1)]
        go_enter Try.func54, Try.ntmps54
        go_wp2
        go_ret
        exact ⟨rfl, rfl⟩
    · by_cases h1 : space = 1
      · subst h1
        rw [if_neg (by omega), if_pos rfl, decide_eq_true (⟨rfl, .inl hn0⟩)]
        go_enter Try.func54, Try.ntmps54
        go_wp2
        go_ret
        exact ⟨rfl, rfl⟩
      · have e1 : (space == 1) = false := by simp [h1]
        rw [if_neg (by omega), if_pos rfl, decide_eq_false (fun h => h1 h.1)]
        go_enter Try.func54, Try.ntmps54
        go_wp2
        go_ret
        exact ⟨rfl, rfl⟩
    · rw [if_neg (by omega), if_neg (by omega)]
      go_enter Try.func54, Try.ntmps54
      go_wp2
      go_ret
      exact ⟨rfl, rfl⟩
set_option maxRecDepth 100000 in
set_option maxHeartbeats 4000000 in
theorem h_out (h : Hm w base p O X) (hk : X.ok) (space : Int) : Calls Try.prog 19 #[.pointer (some ⟨p, 0, none⟩), .int .i64 space] w fun e w' => ∃ v, e = .returned v ∧ Own w' w.heap.size 5 v (outS X space) ∧ Below w.heap.size w w' := by
  have HF := Lib.hid (h_finishes h hk)
  have HG := Lib.hid (h_greeted h hk)
  have HP := Lib.hid (h_proof h hk X.az)
  have hpb := proofS_byt X.sh X.az
  obtain ⟨vo, vh, h, rfl⟩ := h
  have hol := hk.ol
  obtain ⟨n, hn⟩ : ∃ n, X.own.length = n := ⟨_, rfl⟩
  obtain ⟨A, c, rfl, s1, s2, s3⟩ := h.own.open_n n hn
  have c0 := h.c0
  have c2 := h.c2
  have HCL := Lib.hid (sclone_any A n c X.own w s3 (by omega) h.own.nil_cap)
  unfold outS
  clear h hk s3
  generalize greetB X = gb at *
  generalize finB X = fb at *
  generalize X.own = own at *
  generalize X.az = az at *
  generalize proofS X.sh az = pr at *
  clear hn hol
  by_cases h1 : space = 0
  · subst h1
    cases az
    · cases gb
      · rw [if_neg (by simp), if_neg (by simp)]
        go_enter Try.func19, Try.ntmps19
        go_wp2_with (first | (go_at_call 33; refine HG.out.mono ?_; rintro e w' ⟨rfl, rfl⟩))
        go_ret
        exact ⟨_, rfl, Own.none_ _ _ _, Below.refl _ _⟩
      · rw [if_pos (by simp)]
        go_enter Try.func19, Try.ntmps19
        go_wp2_with (first | (go_at_call 33; refine HG.out.mono ?_; rintro e w' ⟨rfl, rfl⟩) | (go_at_call 34; refine HCL.out.mono ?_; rintro e w1 ⟨v1, rfl, ho1, hb1⟩))
        go_ret
        exact ⟨_, rfl, ho1, hb1⟩
    · rw [if_pos (by simp)]
      go_enter Try.func19, Try.ntmps19
      go_wp2_with (first | (go_at_call 34; refine HCL.out.mono ?_; rintro e w1 ⟨v1, rfl, ho1, hb1⟩))
      go_ret
      exact ⟨_, rfl, ho1, hb1⟩
  · have e1 : (space == 0) = false := by simp [h1]
    rw [if_neg (fun h => h1 h.1)]
    by_cases h2 : space = 1
    · subst h2
      cases fb
      · rw [if_neg (by simp)]
        go_enter Try.func19, Try.ntmps19
        go_wp2_with (first | (go_at_call 35; refine HF.out.mono ?_; rintro e w' ⟨rfl, rfl⟩))
        go_ret
        exact ⟨_, rfl, Own.none_ _ _ _, Below.refl _ _⟩
      · rw [if_pos (by simp)]
        go_enter Try.func19, Try.ntmps19
        go_wp2_with (first | (go_at_call 35; refine HF.out.mono ?_; rintro e w' ⟨rfl, rfl⟩) | (go_at_call 36; refine HP.out.mono ?_; rintro e w1 ⟨rfl, hb1⟩; have hA1 := z8_at w1; have hb2 := hb1.alloc hb1.size (.cells #[.int .u8 0, .int .u8 0, .int .u8 0, .int .u8 0, .int .u8 0, .int .u8 0, .int .u8 0, .int .u8 0] 23); clear c0 c2) | ((with_reducible refine at_st8 (x := .tmp 5) ?_); refine st_8 _ 23 (N8.zero.l.map (Value.int .u8)) pr (by rfl) (by rfl) hA1 rfl ?_; intro w3 hA3 hk3; have hb3 := hk3.below hb2 hb2.size (by intro j hj; have := hb1.size; omega)))
        refine (hmsg_any 20 _ 8 8 pr.l w3 (by omega) (At.rd8h hA3 hpb) (by omega)).mono ?_
        rintro e w4 ⟨v4, rfl, ho4, hb4⟩
        go_wp2_with fail
        go_ret
        exact ⟨_, rfl, ho4.base_ hb3.size, hb3.trans (hb4.mono hb3.size)⟩
    · have e2 : (space == 1) = false := by simp [h2]
      rw [if_neg (fun h => h2 h.1)]
      go_enter Try.func19, Try.ntmps19
      go_wp2
      go_ret
      exact ⟨_, rfl, Own.none_ _ _ _, Below.refl _ _⟩
end
section
variable {ops : Array Oper} {rest : List Oper} {a : Act} {w : World} {Q : Exit → Act → World → Prop} {dst : Option Tmp} {x y : Operand} {t : TypeId} {pos : String} {after : Array Edge}
theorem at_ldcid {g : Option (Nat × Bool)} (h : wpList Try.prog ops Q (⟨dst, .load 24 x, t, pos, after, g⟩ :: rest) a w) : wpList Try.prog ops Q (⟨dst, .load 24 x, t, pos, after, g⟩ :: rest) a w := h
end
set_option maxRecDepth 100000 in
set_option maxHeartbeats 1000000 in
theorem h_first (m : N8) (w : World) (hb : Byt m.l) : Calls Try.prog 28 #[m.v] w fun e w' => e = .returned (.int .u64 (firstS m)) ∧ Below w.heap.size w w' := by
  have HN := Lib.hid (fun W => number_any m W hb)
  have hbd := numS_bd m hb
  have HD := Lib.hid (fun W => (show Calls Try.prog 39 #[.int .u64 (numS m.l), .string { data := #[105, 110, 105, 116, 105, 97, 108] }] W _ from derive_any (numS m.l) initialB W initialB_byt (by unfold maxLen; simp [initialB]) hbd.1 hbd.2))
  unfold firstS
  clear hb hbd
  generalize keyedS (numS m.l) initialB = k at *
  generalize numS m.l = q at *
  have hA : At (w.alloc (.cells (m.l.map (Value.int .u8)).toArray 24)) w.heap.size 24 (m.l.map (Value.int .u8)) := At.new w _ _
  have hB0 : Below w.heap.size w (w.alloc (.cells (m.l.map (Value.int .u8)).toArray 24)) := (Below.refl _ _).alloc (Nat.le_refl _) _
  have hmv : m.v = .agg (m.l.map (Value.int .u8)).toArray := rfl
  rw [hmv] at HN ⊢
  have hll : (m.l.map (Value.int .u8)).length = 8 := rfl
  generalize m.l.map (Value.int .u8) = L at *
  clear hmv
  have HLL := Lib.hid hll
  clear hll
  go_enter Try.func28, Try.ntmps28
  go_wp2_with (first | (with_reducible refine at_ldcid ?_); (refine wpList_load_at _ _ L _ (by rfl) hA Try.underlying24 rfl (by rw [HLL.out]; exact cid_info) ?_))
  refine (HN.out _).mono ?_
  rintro e w1 ⟨rfl, hb1⟩
  go_wp2_with fail
  refine (HD.out _).mono ?_
  rintro e w2 ⟨rfl, hb2⟩
  go_wp2_with fail
  go_ret
  exact ⟨rfl, (hB0.trans (hb1.mono hB0.size)).trans (hb2.mono (hB0.trans (hb1.mono hB0.size)).size)⟩
end
section
set_option linter.unusedVariables false
set_option linter.unusedSimpArgs false
open Go.RowKit Go.ChangeShapes Go.WideShapes Go.Deep
section
variable {w w' : World} {base p : Nat} {vo vh : Value} {O : Nat → Prop} {X X' : HS}
theorem Hl.rt (h : Hl w base p vo vh X) : w.rangeAt p 5 (pmL X.th) := fun j v hv => by
  have hj : j < 12 := by
    rcases Nat.lt_or_ge j 12 with h | h
    · exact h
    · rw [List.getElem?_eq_none (by show 12 ≤ j; exact h)] at hv; cases hv
  rw [h.at_.cell, ← hv]
  have : j = 0 ∨ j = 1 ∨ j = 2 ∨ j = 3 ∨ j = 4 ∨ j = 5 ∨ j = 6 ∨ j = 7 ∨ j = 8 ∨ j = 9 ∨ j = 10 ∨ j = 11 := by omega
  rcases this with rfl | rfl | rfl | rfl | rfl | rfl | rfl | rfl | rfl | rfl | rfl | rfl <;> rfl
theorem Hl.rt_of {L : List Value} (h : Hl w base p vo vh X) (hL : pmL X.th = L) : w.rangeAt p 5 L := hL ▸ h.rt
set_option maxRecDepth 100000 in
set_option maxHeartbeats 2000000 in
theorem h_theirs (h : Hm w base p O X) (hk : X.ok) : Calls Try.prog 18 #[.pointer (some ⟨p, 0, none⟩)] w fun e w' => e = .returned (.tuple #[pmV X.th, .bool (greetB X)]) ∧ Below w.heap.size w w' := by
  have hB0 : Below w.heap.size w (w.alloc (.cells #[.int .u64 0, .int .u64 0, .int .u64 0, .int .u64 0, .int .u8 0, .int .u8 0, .int .u8 0, .int .u8 0, .int .u8 0, .int .u8 0, .int .u8 0, .int .u8 0] 26)) := (Below.refl _ _).alloc (Nat.le_refl _) _
  have hA0 : At (w.alloc (.cells #[.int .u64 0, .int .u64 0, .int .u64 0, .int .u64 0, .int .u8 0, .int .u8 0, .int .u8 0, .int .u8 0, .int .u8 0, .int .u8 0, .int .u8 0, .int .u8 0] 26)) w.heap.size 26 (pmL .zero) := At.new w 26 (pmL .zero)
  obtain ⟨W0, hW0⟩ : ∃ W, w.alloc (.cells #[.int .u64 0, .int .u64 0, .int .u64 0, .int .u64 0, .int .u8 0, .int .u8 0, .int .u8 0, .int .u8 0, .int .u8 0, .int .u8 0, .int .u8 0, .int .u8 0] 26) = W := ⟨_, rfl⟩
  have h0 := h.below hB0
  rw [hW0] at hA0 hB0 h0
  have hlt : p < w.heap.size := (h.lt p (by obtain ⟨_, _, _, e⟩ := h; rw [e]; exact .inl rfl)).2
  have HG := Lib.hid (h_greeted (h0.drewN 1) hk)
  obtain ⟨vo, vh, h0, rfl⟩ := h0
  obtain ⟨L, hL⟩ : ∃ L, pmL X.th = L := ⟨_, rfl⟩
  have hLl : L.length = 12 := by rw [← hL]; rfl
  have hfv : pmV X.th = .agg L.toArray := by rw [← hL]; rfl
  have hr : W0.drew.rangeAt p 5 L := (h0.drewN 1).rt_of hL
  have hLo : L.all (·.oneCell') = true := by rw [← hL]; rfl
  rw [hfv]
  have HLl := Lib.hid hLl
  have HLo := Lib.hid hLo
  generalize greetB X = gb at *
  obtain ⟨Y, hY⟩ : ∃ x, W0.drew = x := ⟨_, rfl⟩
  have hA1 : At Y w.heap.size 26 (pmL .zero) := by rw [← hY]; exact hA0.drewN 1
  have hB1 : Below w.heap.size w Y := by rw [← hY]; exact belowN hB0 1
  rw [show W0.drewN 1 = W0.drew from rfl, hY] at HG
  have hr0 := hr
  rw [hY] at hr
  have hpY : p < Y.heap.size := Nat.lt_of_lt_of_le hlt hB1.size
  have hpn : ¬ p = w.heap.size := by omega
  clear h h0 hL hLl hfv hA0 hB0 hlt hLo
  go_enter Try.func18, Try.ntmps18
  go_wp2_with fail
  refine wp_region_held_drew (S := fun W => W.rangeAt p 5 L) (by kernel_rfl) (hr0) (fun hHeld => ?_)
  rw [hY]
  refine tkq 0 (some 4) (v := ?_) rfl (Or.inl ⟨by rfl, ?_⟩) (by assumption) ?_
  rotate_left
  · intro w hSw; (try dsimp only at hSw); go_simp; first | done | (with_reducible rfl)
  simp only [Act.put, List.setIfInBounds_toArray, List.set_cons_zero, List.set_cons_succ]
  refine tkq 1 (some 5) (v := ?_) rfl (Or.inl ⟨by rfl, ?_⟩) (by assumption) ?_
  rotate_left
  · intro w hSw; (try dsimp only at hSw); go_simp; first | done | (with_reducible rfl)
  simp only [Act.put, List.setIfInBounds_toArray, List.set_cons_zero, List.set_cons_succ]
  refine tkq 2 (some 6) (v := ?_) rfl (Or.inl ⟨by rfl, ?_⟩) (by assumption) ?_
  rotate_left
  · intro w hSw; (try dsimp only at hSw); go_simp; first | done | (with_reducible rfl)
  simp only [Act.put, List.setIfInBounds_toArray, List.set_cons_zero, List.set_cons_succ]
  refine tkq 3 (some 7) (v := .agg L.toArray) rfl (yl_any 26 (.tmp 6) rfl p 5 (by rfl) L _ (fun W hW => hW) Try.underlying26 rfl (by rw [HLl.out]; exact pm_info) (by rfl)) (by assumption) ?_
  simp only [Act.put, List.setIfInBounds_toArray, List.set_cons_zero, List.set_cons_succ]
  refine tkq 4 (some 8) (v := ?_) rfl (Or.inl ⟨by rfl, ?_⟩) (by assumption) ?_
  rotate_left
  · intro w hSw; (try dsimp only at hSw); go_simp; first | done | (with_reducible rfl)
  simp only [Act.put, List.setIfInBounds_toArray, List.set_cons_zero, List.set_cons_succ]
  refine wpAnyH_ready (rs := [5]) (by kernel_rfl) (by simp) ?_
  refine AllReadyH.cons rfl (fun K hK => ?_) AllReadyH.nil
  go_simp
  go_wp2_with (go_at_call 33; refine HG.out.mono ?_; rintro e w' ⟨rfl, rfl⟩)
  refine hK.out _ _ (hr) (fun hHeld => ?_)
  clear hK K
  refine wpAnyH_ready (rs := [6]) (by kernel_rfl) (by simp) ?_
  refine AllReadyH.cons rfl (fun K hK => ?_) AllReadyH.nil
  refine step_st_any (by rfl) w.heap.size 26 (pmL .zero) L (by rfl) (by rfl) hA1 (by rw [HLl.out]; rfl) (by rw [HLl.out]; exact pm_info) HLo.out ?_
  intro Y4 hA4 hk4
  refine hK.out _ _ (fun j v hv => (hk4.cell (p := ⟨p, 5 + j, none⟩) hpY hpn).trans (hr j v hv)) (fun hHeld => ?_)
  clear hK K
  refine tkq 7 (some 3) (v := ?_) rfl (Or.inl ⟨by rfl, ?_⟩) (by assumption) ?_
  rotate_left
  · intro w hSw; (try dsimp only at hSw); go_simp; first | done | (with_reducible rfl)
  simp only [Act.put, List.setIfInBounds_toArray, List.set_cons_zero, List.set_cons_succ]
  refine wpAnyH_done (by kernel_rfl) ?_ _
  go_wp2_with fail
  refine bodyPost_ret (results_cell_tmp 2 3 26 (by rfl) _ 26 _ _ _ (by rfl) (by rfl) hA4 Try.underlying26 rfl (by rw [HLl.out]; exact pm_info)) rfl ?_
  exact ⟨rfl, hk4.below hB1 hB1.size (by intro j hj; omega)⟩
end
end
end Go.Proofs.Ytdakbedohjemeaa
