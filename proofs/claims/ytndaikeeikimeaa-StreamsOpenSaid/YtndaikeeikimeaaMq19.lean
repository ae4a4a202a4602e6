/-
  frame.Right, for every frame.
-/
import Derived.Test.YtndaikeeikimeaaMq18
import Derived.Test.YtndaikeeikimeaaKh
namespace Go.Proofs.Ytndaikeeikimeaa
section
set_option linter.unusedVariables false
set_option linter.unusedSimpArgs false
open Go.RowKit
section
variable {ops : Array Oper} {rest : List Oper} {a : Act} {w : World} {Q : Exit → Act → World → Prop} {dst : Option Tmp} {x y : Operand} {t : TypeId} {pos : String} {after : Array Edge} {g : Option (Nat × Bool)}
/-- A whole frame's load, its guard met. -/
theorem ld_fr_g (p : Nat) (l : List Value) (hg : Region.wanted ⟨dst, .load 34 x, t, pos, after, g⟩ (yielded ops a.tmps) = true) (hx : a.eval x = .pointer (some ⟨p, 0, none⟩)) (hA : At w p 34 l) (hl : l.length = 19)
    (h : wpList Try.prog ops Q rest (a.put dst (.agg l.toArray)) w) : wpList Try.prog ops Q (⟨dst, .load 34 x, t, pos, after, g⟩ :: rest) a w := by
  refine wpList_step fun K hK => ?_
  rw [if_pos hg]
  exact wp_load_mid _ _ rfl p 0 hx l _ hA.rangeAt Try.underlying34 rfl (by rw [hl]; exact fr_info) (hK _ _ h)
end
end
section
set_option linter.unusedVariables false
set_option linter.unusedSimpArgs false
open Go.RowKit
section
variable {w w' w1 : World} {base p pb : Nat} {O Ob Ob' : Nat → Prop} {X X' : QS}
/-- What speaks against a Reset's final size. -/
def rsB (X : QS) (f : Nat) : Bool := (sizedB X && !decide (f = sizedN X)) || decide (f < highQ X)
theorem onRE_eq (X : QS) (f : Nat) : onRE X f = if X.lim < f then 23 else if rsB X f = true then 30 else 0 := by
  unfold onRE rsB sizedB sizedN highQ
  by_cases h : X.lim < f
  · rw [if_pos h, if_pos h]
  · rw [if_neg h, if_neg h]
    by_cases h5 : 5 ≤ X.st
    · simp only [if_pos h5]
      by_cases e : f = X.fin
      · subst e; simp
      · simp [e]
    · simp only [if_neg h5]
      cases X.b.en <;> simp
/-- The world behind a Reset that is let by. -/
def rsW (Y : World) (p code f : Nat) : World := ((Y.setCell ⟨p, 5, none⟩ (.int .u64 code)).setCell ⟨p, 6, none⟩ (.int .u64 f)).setCell ⟨p, 4, none⟩ (.pointer none)
theorem rs_fin (h : Ql w base p pb Ob X) (code f j j2 : Nat) {W Y : World} (k : Below w.heap.size w W) (hY : Y = ((W.setCell ⟨p, 2, none⟩ (.int .i64 5)).setCell ⟨p, 9, none⟩ (.bool false)).drewN j) :
    QPost (.int .i64 0) base p (pOb p Ob) { X with st := 5, code := code, fin := f, due := false } w (.returned (.int .i64 0)) ((rsW Y p code f).drewN j2) ∧ Y.cell? ⟨p, 5, none⟩ = some (.int .u64 X.code) ∧ Y.cell? ⟨p, 6, none⟩ = some (.int .u64 X.fin) ∧ Y.cell? ⟨p, 4, none⟩ = some (.pointer (some ⟨pb, 0, none⟩)) ∧ ∀ j, Y.frozen? ⟨p, j, none⟩ = false := by
  have h1 := h.below k
  have a := ((h1.at_.set 2 (.int .i64 5)).set 9 (.bool false)).drewN j
  rw [← hY] at a
  have kY : Kept (· = p) w Y := by
    rw [hY]
    exact (((Kept.of_below k (· = p)).setAt 2 (.int .i64 5)).setAt 9 (.bool false)).drewN j
  refine ⟨⟨rfl, _, .inr ⟨by show 5 ≤ 5; omega, rfl, ⟨(((a.set 5 (.int .u64 code)).set 6 (.int .u64 f)).set 4 (.pointer none)).drewN j2, h.bp⟩⟩, ?_, fun i hi => .inl (hi.imp id fun e => e.elim)⟩, by rw [a.cell]; rfl, by rw [a.cell]; rfl, by rw [a.cell]; rfl, fun i => a.frozen i⟩
  exact ((((kY.setAt 5 (.int .u64 code)).setAt 6 (.int .u64 f)).setAt 4 (.pointer none)).drewN j2).mono fun i hi => .inl (.inl hi)
/-- What onReset needs behind sized. -/
structure RsF (w : World) (p g f code : Nat) (X : QS) (hi : Nat) (W : World) : Prop where
  b : Below w.heap.size w W
  g6 : W.cell? ⟨g, 6, none⟩ = some (.int .u64 code)
  g7 : W.cell? ⟨g, 7, none⟩ = some (.int .u64 f)
  c2 : W.cell? ⟨p, 2, none⟩ = some (.int .i64 X.st)
  c9 : W.cell? ⟨p, 9, none⟩ = some (.bool X.due)
  fz : ∀ i, W.frozen? ⟨p, i, none⟩ = false
  hq : ∀ i, Calls Try.prog 20 #[.pointer (some ⟨p, 0, none⟩)] (W.drewN i) fun e w' => e = .returned (.int .u64 hi) ∧ ∃ m, w' = W.drewN m
set_option maxHeartbeats 16000000 in
set_option maxRecDepth 100000 in
theorem q_onReset (h : Qp w base p O X) (ho : X.ok) (m : FN) (d r : Sl) (f code : Nat) (hmf : m.f = f) (hf : f < 18446744073709551616) (hmc : m.c = code) (hc : code < 18446744073709551616) :
    Calls Try.prog 47 #[.pointer (some ⟨p, 0, none⟩), frV m d r] w (QPost (.int .i64 (onRE X f)) base p O (onRX X f code) w) := by
  obtain ⟨L, W1, hfv, hL, hW1, hB, hlt, hA, d0, d1, d2, d3, d4, d5, d6, d7⟩ := fr_box8 w m d r
  rw [hfv]
  rw [hmf] at d7
  rw [hmc] at d6
  have h1 := h.below hB
  have c3 := h1.c3
  have HS := Lib.hid (fun W k r => h.same (w' := W) k r)
  have HB := Lib.hid hB
  have hlim : X.lim < 1099511700000 := by have := ho.lw; have := ho.win; have := ho.b.rh; have := ho.b.hm; omega
  obtain ⟨g, hg⟩ : ∃ g, w.heap.size = g := ⟨_, rfl⟩
  have hA2 : At W1 g 34 L := by rw [← hg]; exact hA
  rw [hg] at d0 d1 d2 d3 d4 d5 d6 d7
  rw [onRE_eq]
  by_cases hc1 : X.lim < f
  · rw [if_pos hc1]
    have hx2 : onRX X f code = X := by unfold onRX; rw [onRE_eq, if_pos hc1]; rfl
    rw [hx2]
    have hz : (X.lim : Int) < (f : Int) := by omega
    clear h ho h1 hx2 hL hA hA2
    go_enter Try.func47, Try.ntmps47
    go_wp2_with fail
    (try rw [hg])
    (try rw [hW1])
    go_quiet (fail)
    go_wp2
    go_ret
    exact HS.out _ (belowN HB.out _) _
  have hz : ¬ (X.lim : Int) < (f : Int) := by omega
  rw [if_neg hc1]
  have HZ : Hid (∀ j, Calls Try.prog 52 #[.pointer (some ⟨p, 0, none⟩)] (W1.drewN j) fun e w' => e = .returned (.tuple #[.int .u64 (sizedN X), .bool (sizedB X)]) ∧ ∃ d, w' = (W1.drewN j).drewN d) := Lib.hid (fun j => q_sized (h1.drewN j) ho)
  have hrs : rsB X f = ((sizedB X && !decide (f = sizedN X)) || decide (f < highQ X)) := rfl
  have HOK : Hid (rsB X f = true → onRX X f code = X) := Lib.hid (fun e => by unfold onRX; rw [onRE_eq, if_neg hc1, if_pos e]; rfl)
  have HOK2 : Hid (rsB X f = false → onRX X f code = if X.st ≤ 2 then { X with st := 5, code := code, fin := f, due := false } else X) := Lib.hid (fun e => by
    unfold onRX
    rw [onRE_eq, if_neg hc1, e]
    by_cases h2 : X.st ≤ 2
    · rw [if_pos ⟨rfl, h2⟩, if_pos h2]
    · rw [if_neg (fun h => h2 h.2), if_neg h2])
  have HQ := Lib.hid h
  have HST := Lib.hid ho.st
  have HFR : Hid (∀ (W : World) (j : Nat), Below w.heap.size w W → X.st ≤ 2 → ∀ Y, Y = ((W.setCell ⟨p, 2, none⟩ (.int .i64 5)).setCell ⟨p, 9, none⟩ (.bool false)).drewN j → (∀ j2, QPost (.int .i64 0) base p O { X with st := 5, code := code, fin := f, due := false } w (.returned (.int .i64 0)) ((rsW Y p code f).drewN j2)) ∧ Y.cell? ⟨p, 5, none⟩ = some (.int .u64 X.code) ∧ Y.cell? ⟨p, 6, none⟩ = some (.int .u64 X.fin) ∧ (∃ q, Y.cell? ⟨p, 4, none⟩ = some (.pointer (some ⟨q, 0, none⟩))) ∧ ∀ j, Y.frozen? ⟨p, j, none⟩ = false) := Lib.hid (by
    intro W j k hst Y hY
    obtain ⟨pb, Ob, rfl, hl⟩ := h.live (by omega)
    obtain ⟨_, e1, e2, e3, e4⟩ := rs_fin hl code f j 0 k hY
    exact ⟨fun j2 => (rs_fin hl code f j j2 k hY).1, e1, e2, ⟨_, e3⟩, e4⟩)
  have hpg : p ≠ g := by have := (h.lt p h.own).2; omega
  have HG : Hid (∀ (W : World) (i : Nat) (u : Value), W.cell? ⟨g, 6, none⟩ = some (.int .u64 code) ∧ W.cell? ⟨g, 7, none⟩ = some (.int .u64 f) → (W.setCell ⟨p, i, none⟩ u).cell? ⟨g, 6, none⟩ = some (.int .u64 code) ∧ (W.setCell ⟨p, i, none⟩ u).cell? ⟨g, 7, none⟩ = some (.int .u64 f)) := Lib.hid (fun W i u hh => by
    have hc : ∀ o, (W.setCell ⟨p, i, none⟩ u).cell? ⟨g, o, none⟩ = W.cell? ⟨g, o, none⟩ := fun o => World.cell?_of_block (Below.heap_setCell W ⟨p, i, none⟩ u g (fun e => hpg e.symm))
    rw [hc, hc]; exact hh)
  have HGN : Hid (∀ j, RsF w p g f code X (highQ X) (W1.drewN j)) := Lib.hid (fun j => ⟨belowN hB j, d6, d7, (h1.drewN j).c2, (h1.drewN j).c9, fun i => (h1.drewN j).fz i, fun i => Calls.quiet_of_same (q_high ((h1.drewN j).drewN i) ho)⟩)
  have c2 := h1.c2
  obtain ⟨SN, hSN⟩ : ∃ n, sizedN X = n := ⟨_, rfl⟩
  obtain ⟨SB, hSB⟩ : ∃ n, sizedB X = n := ⟨_, rfl⟩
  obtain ⟨HI, hHI⟩ : ∃ n, highQ X = n := ⟨_, rfl⟩
  rw [hSN, hSB, hHI] at hrs
  rw [hSN, hSB] at HZ
  rw [hHI] at HGN
  have HHR := Lib.hid hrs
  clear h ho h1 hL hA hA2 hSN hSB hHI hrs hpg c2
  generalize hR : rsB X f = R at *
  have HR := Lib.hid hR
  clear hR
  cases SB with
  | false =>
    by_cases hfh : f < HI
    · have hfz2 : (f : Int) < (HI : Int) := by omega
      obtain rfl : R = true := by rw [HHR.out, decide_eq_true hfh, Bool.or_true]
      rw [if_pos rfl]
      go_enter Try.func47, Try.ntmps47
      go_wp2_with fail
      (try rw [hg])
      (try rw [hW1])
      go_quiet (fail)
      go_wp2_with (go_at_call 52; (with_reducible refine (HZ.out _).mono ?_); rintro e w2 ⟨rfl, dz, hw2⟩; rw [hw2]; clear hw2)
      have hK3 := HGN.out (nq + dz)
      obtain ⟨W3, hW3⟩ : ∃ W, W1.drewN (nq + dz) = W := ⟨_, rfl⟩
      rw [hW3] at hK3 ⊢
      clear hW3
      obtain ⟨eb, e6, e7, e2, e9, ef, eq⟩ := hK3
      have HB3 := Lib.hid eb
      have HQ3 := Lib.hid eq
      clear eb eq
      go_quiet ((go_at_call 20; (with_reducible exact HQ3.out _)))
      all_goals go_wp2
      all_goals go_ret
      all_goals (rw [HOK.out (by first | trivial | exact HR.out)]; exact HS.out _ (belowN HB3.out _) _)
    · have hfz2 : ¬ (f : Int) < (HI : Int) := by omega
      obtain rfl : R = false := by rw [HHR.out, decide_eq_false hfh]; rfl
      rw [if_neg (by simp)]
      have hOK := HOK2.out (by first | trivial | exact HR.out)
      by_cases h2 : X.st ≤ 2
      · rw [if_pos h2] at hOK
        rw [hOK]
        clear hOK
        have HF := Lib.hid (fun W j k Y hY => HFR.out W j k h2 Y hY)
        have hk : X.st = 1 ∨ X.st = 2 := by have := HST.out; omega
        clear h2 HFR HOK HOK2
        rcases hk with hk | hk
        all_goals
          go_enter Try.func47, Try.ntmps47
          go_wp2_with fail
          (try rw [hg])
          (try rw [hW1])
          go_quiet (fail)
          go_wp2_with (go_at_call 52; (with_reducible refine (HZ.out _).mono ?_); rintro e w2 ⟨rfl, dz, hw2⟩; rw [hw2]; clear hw2)
          have hK3 := HGN.out (nq + dz)
          obtain ⟨W3, hW3⟩ : ∃ W, W1.drewN (nq + dz) = W := ⟨_, rfl⟩
          rw [hW3] at hK3 ⊢
          clear hW3
          obtain ⟨eb, e6, e7, e2, e9, ef, eq⟩ := hK3
          have HB3 := Lib.hid eb
          have HQ3 := Lib.hid eq
          clear eb eq
          go_quiet ((go_at_call 20; (with_reducible exact HQ3.out _)))
          rw [hk] at e2
          clear hk
          have ef2 := ef 2
          have ef9 := ef 9
          go_wp2_with fail
          obtain ⟨Y, hY⟩ : ∃ Y, (((W3.drewN nq).setCell ⟨p, 2, none⟩ (.int .i64 5)).setCell ⟨p, 9, none⟩ (.bool false)).drew = Y := ⟨_, rfl⟩
          obtain ⟨hf1, y5, y6, ⟨qb, y4⟩, yf⟩ := HF.out (W3.drewN nq) 1 (belowN HB3.out nq) Y hY.symm
          have HF1 := Lib.hid hf1
          have yf4 := yf 4
          have yf5 := yf 5
          have yf6 := yf 6
          clear hf1 HF yf
          refine wp_region_held_drew (S := (fun W => W.cell? ⟨g, 6, none⟩ = some (.int .u64 code) ∧ W.cell? ⟨g, 7, none⟩ = some (.int .u64 f))) (by kernel_rfl) (HG.out _ _ _ (HG.out _ _ _ ⟨e6, e7⟩)) (fun hHeld => ?_)
          rw [hY] at hHeld ⊢
          clear hY
          refine tkq 0 (some 46) (v := ?_) rfl (Or.inl ⟨by rfl, ?_⟩) (by assumption) ?_
          rotate_left
          · intro w hSw; (try dsimp only at hSw); go_simp; first | done | (with_reducible rfl)
          simp only [Act.put, List.setIfInBounds_toArray, List.set_cons_zero, List.set_cons_succ]
          refine tkq 1 (some 47) (v := ?_) rfl (Or.inl ⟨by rfl, ?_⟩) (by assumption) ?_
          rotate_left
          · intro w hSw; (try dsimp only at hSw); go_simp; first | done | (with_reducible rfl)
          simp only [Act.put, List.setIfInBounds_toArray, List.set_cons_zero, List.set_cons_succ]
          refine tkq 2 (some 48) (v := ?_) rfl (Or.inl ⟨by rfl, ?_⟩) (by assumption) ?_
          rotate_left
          · intro w hSw; (try dsimp only at hSw); go_simp; first | done | (with_reducible rfl)
          simp only [Act.put, List.setIfInBounds_toArray, List.set_cons_zero, List.set_cons_succ]
          refine tkq 3 (some 49) (v := ?_) rfl (Or.inl ⟨by rfl, ?_⟩) (by assumption) ?_
          rotate_left
          · intro w hSw; (try dsimp only at hSw); go_simp; first | done | (with_reducible rfl)
          simp only [Act.put, List.setIfInBounds_toArray, List.set_cons_zero, List.set_cons_succ]
          refine tkq 4 (some 50) (v := ?_) rfl (Or.inl ⟨by rfl, ?_⟩) (by assumption) ?_
          rotate_left
          · intro w hSw; (try dsimp only at hSw); go_simp; first | done | (with_reducible rfl)
          simp only [Act.put, List.setIfInBounds_toArray, List.set_cons_zero, List.set_cons_succ]
          refine tkq 5 (some 51) (v := ?_) rfl (Or.inl ⟨by rfl, ?_⟩) (by assumption) ?_
          rotate_left
          · intro w hSw; (try dsimp only at hSw); go_simp; first | done | (with_reducible rfl)
          simp only [Act.put, List.setIfInBounds_toArray, List.set_cons_zero, List.set_cons_succ]
          refine tkq 6 (some 52) (v := ?_) rfl (Or.inl ⟨by rfl, ?_⟩) (by assumption) ?_
          rotate_left
          · intro w hSw; (try dsimp only at hSw); go_simp; first | done | (with_reducible rfl)
          simp only [Act.put, List.setIfInBounds_toArray, List.set_cons_zero, List.set_cons_succ]
          refine tkq 7 (some 53) (v := ?_) rfl (Or.inl ⟨by rfl, ?_⟩) (by assumption) ?_
          rotate_left
          · intro w hSw; (try dsimp only at hSw); go_simp; first | done | (with_reducible rfl)
          simp only [Act.put, List.setIfInBounds_toArray, List.set_cons_zero, List.set_cons_succ]
          refine tkq 8 (some 54) (v := ?_) rfl (Or.inl ⟨by rfl, ?_⟩) (by assumption) ?_
          rotate_left
          · intro w hSw; (try dsimp only at hSw); go_simp; first | done | (with_reducible rfl)
          simp only [Act.put, List.setIfInBounds_toArray, List.set_cons_zero, List.set_cons_succ]
          refine wpAnyH_ready (rs := [9]) (by kernel_rfl) (by simp) ?_
          refine AllReadyH.cons rfl (fun K hK => ?_) AllReadyH.nil
          go_simp
          go_wp2_with (fail)
          refine hK.out _ _ (HG.out _ _ _ hHeld) (fun hHeld => ?_)
          clear hK K
          refine tkq 10 (some 55) (v := ?_) rfl (Or.inl ⟨by rfl, ?_⟩) (by assumption) ?_
          rotate_left
          · intro w hSw; (try dsimp only at hSw); go_simp; first | done | (with_reducible rfl)
          simp only [Act.put, List.setIfInBounds_toArray, List.set_cons_zero, List.set_cons_succ]
          refine tkq 11 (some 56) (v := ?_) rfl (Or.inl ⟨by rfl, ?_⟩) (by assumption) ?_
          rotate_left
          · intro w hSw; (try dsimp only at hSw); go_simp; first | done | (with_reducible rfl)
          simp only [Act.put, List.setIfInBounds_toArray, List.set_cons_zero, List.set_cons_succ]
          refine wpAnyH_ready (rs := [12]) (by kernel_rfl) (by simp) ?_
          refine AllReadyH.cons rfl (fun K hK => ?_) AllReadyH.nil
          go_simp
          go_wp2_with (fail)
          refine hK.out _ _ (HG.out _ _ _ hHeld) (fun hHeld => ?_)
          clear hK K
          refine tkq 13 (some 57) (v := ?_) rfl (Or.inl ⟨by rfl, ?_⟩) (by assumption) ?_
          rotate_left
          · intro w hSw; (try dsimp only at hSw); go_simp; first | done | (with_reducible rfl)
          simp only [Act.put, List.setIfInBounds_toArray, List.set_cons_zero, List.set_cons_succ]
          refine tkq 14 (some 58) (v := ?_) rfl (Or.inl ⟨by rfl, ?_⟩) (by assumption) ?_
          rotate_left
          · intro w hSw; (try dsimp only at hSw); go_simp; first | done | (with_reducible rfl)
          simp only [Act.put, List.setIfInBounds_toArray, List.set_cons_zero, List.set_cons_succ]
          refine wpAnyH_ready (rs := [15]) (by kernel_rfl) (by simp) ?_
          refine AllReadyH.cons rfl (fun K hK => ?_) AllReadyH.nil
          go_simp
          go_wp2_with (fail)
          refine hK.out _ _ (HG.out _ _ _ hHeld) (fun hHeld => ?_)
          clear hK K
          refine wpAnyH_done (by kernel_rfl) ?_ _
          go_wp2
          go_ret
          first | exact HF1.out 0 | exact HF1.out 1
      · rw [if_neg h2] at hOK
        rw [hOK]
        clear hOK
        have hk : X.st = 3 ∨ X.st = 4 ∨ X.st = 5 ∨ X.st = 6 := by have := HST.out; omega
        clear h2 HFR HOK HOK2
        rcases hk with hk | hk | hk | hk
        all_goals
          go_enter Try.func47, Try.ntmps47
          go_wp2_with fail
          (try rw [hg])
          (try rw [hW1])
          go_quiet (fail)
          go_wp2_with (go_at_call 52; (with_reducible refine (HZ.out _).mono ?_); rintro e w2 ⟨rfl, dz, hw2⟩; rw [hw2]; clear hw2)
          have hK3 := HGN.out (nq + dz)
          obtain ⟨W3, hW3⟩ : ∃ W, W1.drewN (nq + dz) = W := ⟨_, rfl⟩
          rw [hW3] at hK3 ⊢
          clear hW3
          obtain ⟨eb, e6, e7, e2, e9, ef, eq⟩ := hK3
          have HB3 := Lib.hid eb
          have HQ3 := Lib.hid eq
          clear eb eq
          go_quiet ((go_at_call 20; (with_reducible exact HQ3.out _)))
          rw [hk] at e2
          clear hk
          go_wp2
          go_ret
          exact HS.out _ (belowN HB3.out _) _
  | true =>
    by_cases hfs : f = SN
    · have hfz : ((f : Int) != (SN : Int)) = false := by simp; omega
      by_cases hfh : f < HI
      · have hfz2 : (f : Int) < (HI : Int) := by omega
        obtain rfl : R = true := by rw [HHR.out, decide_eq_true hfh, Bool.or_true]
        clear hfs
        rw [if_pos rfl]
        go_enter Try.func47, Try.ntmps47
        go_wp2_with fail
        (try rw [hg])
        (try rw [hW1])
        go_quiet (fail)
        go_wp2_with (go_at_call 52; (with_reducible refine (HZ.out _).mono ?_); rintro e w2 ⟨rfl, dz, hw2⟩; rw [hw2]; clear hw2)
        have hK3 := HGN.out (nq + dz)
        obtain ⟨W3, hW3⟩ : ∃ W, W1.drewN (nq + dz) = W := ⟨_, rfl⟩
        rw [hW3] at hK3 ⊢
        clear hW3
        obtain ⟨eb, e6, e7, e2, e9, ef, eq⟩ := hK3
        have HB3 := Lib.hid eb
        have HQ3 := Lib.hid eq
        clear eb eq
        go_quiet ((go_at_call 20; (with_reducible exact HQ3.out _)))
        all_goals go_wp2
        all_goals go_ret
        all_goals (rw [HOK.out (by first | trivial | exact HR.out)]; exact HS.out _ (belowN HB3.out _) _)
      · have hfz2 : ¬ (f : Int) < (HI : Int) := by omega
        obtain rfl : R = false := by rw [HHR.out, decide_eq_false hfh, decide_eq_true hfs]; rfl
        clear hfs
        rw [if_neg (by simp)]
        have hOK := HOK2.out (by first | trivial | exact HR.out)
        by_cases h2 : X.st ≤ 2
        · rw [if_pos h2] at hOK
          rw [hOK]
          clear hOK
          have HF := Lib.hid (fun W j k Y hY => HFR.out W j k h2 Y hY)
          have hk : X.st = 1 ∨ X.st = 2 := by have := HST.out; omega
          clear h2 HFR HOK HOK2
          rcases hk with hk | hk
          all_goals
            go_enter Try.func47, Try.ntmps47
            go_wp2_with fail
            (try rw [hg])
            (try rw [hW1])
            go_quiet (fail)
            go_wp2_with (go_at_call 52; (with_reducible refine (HZ.out _).mono ?_); rintro e w2 ⟨rfl, dz, hw2⟩; rw [hw2]; clear hw2)
            have hK3 := HGN.out (nq + dz)
            obtain ⟨W3, hW3⟩ : ∃ W, W1.drewN (nq + dz) = W := ⟨_, rfl⟩
            rw [hW3] at hK3 ⊢
            clear hW3
            obtain ⟨eb, e6, e7, e2, e9, ef, eq⟩ := hK3
            have HB3 := Lib.hid eb
            have HQ3 := Lib.hid eq
            clear eb eq
            go_quiet ((go_at_call 20; (with_reducible exact HQ3.out _)))
            rw [hk] at e2
            clear hk
            have ef2 := ef 2
            have ef9 := ef 9
            go_wp2_with fail
            obtain ⟨Y, hY⟩ : ∃ Y, (((W3.drewN nq).setCell ⟨p, 2, none⟩ (.int .i64 5)).setCell ⟨p, 9, none⟩ (.bool false)).drew = Y := ⟨_, rfl⟩
            obtain ⟨hf1, y5, y6, ⟨qb, y4⟩, yf⟩ := HF.out (W3.drewN nq) 1 (belowN HB3.out nq) Y hY.symm
            have HF1 := Lib.hid hf1
            have yf4 := yf 4
            have yf5 := yf 5
            have yf6 := yf 6
            clear hf1 HF yf
            refine wp_region_held_drew (S := (fun W => W.cell? ⟨g, 6, none⟩ = some (.int .u64 code) ∧ W.cell? ⟨g, 7, none⟩ = some (.int .u64 f))) (by kernel_rfl) (HG.out _ _ _ (HG.out _ _ _ ⟨e6, e7⟩)) (fun hHeld => ?_)
            rw [hY] at hHeld ⊢
            clear hY
            refine tkq 0 (some 46) (v := ?_) rfl (Or.inl ⟨by rfl, ?_⟩) (by assumption) ?_
            rotate_left
            · intro w hSw; (try dsimp only at hSw); go_simp; first | done | (with_reducible rfl)
            simp only [Act.put, List.setIfInBounds_toArray, List.set_cons_zero, List.set_cons_succ]
            refine tkq 1 (some 47) (v := ?_) rfl (Or.inl ⟨by rfl, ?_⟩) (by assumption) ?_
            rotate_left
            · intro w hSw; (try dsimp only at hSw); go_simp; first | done | (with_reducible rfl)
            simp only [Act.put, List.setIfInBounds_toArray, List.set_cons_zero, List.set_cons_succ]
            refine tkq 2 (some 48) (v := ?_) rfl (Or.inl ⟨by rfl, ?_⟩) (by assumption) ?_
            rotate_left
            · intro w hSw; (try dsimp only at hSw); go_simp; first | done | (with_reducible rfl)
            simp only [Act.put, List.setIfInBounds_toArray, List.set_cons_zero, List.set_cons_succ]
            refine tkq 3 (some 49) (v := ?_) rfl (Or.inl ⟨by rfl, ?_⟩) (by assumption) ?_
            rotate_left
            · intro w hSw; (try dsimp only at hSw); go_simp; first | done | (with_reducible rfl)
            simp only [Act.put, List.setIfInBounds_toArray, List.set_cons_zero, List.set_cons_succ]
            refine tkq 4 (some 50) (v := ?_) rfl (Or.inl ⟨by rfl, ?_⟩) (by assumption) ?_
            rotate_left
            · intro w hSw; (try dsimp only at hSw); go_simp; first | done | (with_reducible rfl)
            simp only [Act.put, List.setIfInBounds_toArray, List.set_cons_zero, List.set_cons_succ]
            refine tkq 5 (some 51) (v := ?_) rfl (Or.inl ⟨by rfl, ?_⟩) (by assumption) ?_
            rotate_left
            · intro w hSw; (try dsimp only at hSw); go_simp; first | done | (with_reducible rfl)
            simp only [Act.put, List.setIfInBounds_toArray, List.set_cons_zero, List.set_cons_succ]
            refine tkq 6 (some 52) (v := ?_) rfl (Or.inl ⟨by rfl, ?_⟩) (by assumption) ?_
            rotate_left
            · intro w hSw; (try dsimp only at hSw); go_simp; first | done | (with_reducible rfl)
            simp only [Act.put, List.setIfInBounds_toArray, List.set_cons_zero, List.set_cons_succ]
            refine tkq 7 (some 53) (v := ?_) rfl (Or.inl ⟨by rfl, ?_⟩) (by assumption) ?_
            rotate_left
            · intro w hSw; (try dsimp only at hSw); go_simp; first | done | (with_reducible rfl)
            simp only [Act.put, List.setIfInBounds_toArray, List.set_cons_zero, List.set_cons_succ]
            refine tkq 8 (some 54) (v := ?_) rfl (Or.inl ⟨by rfl, ?_⟩) (by assumption) ?_
            rotate_left
            · intro w hSw; (try dsimp only at hSw); go_simp; first | done | (with_reducible rfl)
            simp only [Act.put, List.setIfInBounds_toArray, List.set_cons_zero, List.set_cons_succ]
            refine wpAnyH_ready (rs := [9]) (by kernel_rfl) (by simp) ?_
            refine AllReadyH.cons rfl (fun K hK => ?_) AllReadyH.nil
            go_simp
            go_wp2_with (fail)
            refine hK.out _ _ (HG.out _ _ _ hHeld) (fun hHeld => ?_)
            clear hK K
            refine tkq 10 (some 55) (v := ?_) rfl (Or.inl ⟨by rfl, ?_⟩) (by assumption) ?_
            rotate_left
            · intro w hSw; (try dsimp only at hSw); go_simp; first | done | (with_reducible rfl)
            simp only [Act.put, List.setIfInBounds_toArray, List.set_cons_zero, List.set_cons_succ]
            refine tkq 11 (some 56) (v := ?_) rfl (Or.inl ⟨by rfl, ?_⟩) (by assumption) ?_
            rotate_left
            · intro w hSw; (try dsimp only at hSw); go_simp; first | done | (with_reducible rfl)
            simp only [Act.put, List.setIfInBounds_toArray, List.set_cons_zero, List.set_cons_succ]
            refine wpAnyH_ready (rs := [12]) (by kernel_rfl) (by simp) ?_
            refine AllReadyH.cons rfl (fun K hK => ?_) AllReadyH.nil
            go_simp
            go_wp2_with (fail)
            refine hK.out _ _ (HG.out _ _ _ hHeld) (fun hHeld => ?_)
            clear hK K
            refine tkq 13 (some 57) (v := ?_) rfl (Or.inl ⟨by rfl, ?_⟩) (by assumption) ?_
            rotate_left
            · intro w hSw; (try dsimp only at hSw); go_simp; first | done | (with_reducible rfl)
            simp only [Act.put, List.setIfInBounds_toArray, List.set_cons_zero, List.set_cons_succ]
            refine tkq 14 (some 58) (v := ?_) rfl (Or.inl ⟨by rfl, ?_⟩) (by assumption) ?_
            rotate_left
            · intro w hSw; (try dsimp only at hSw); go_simp; first | done | (with_reducible rfl)
            simp only [Act.put, List.setIfInBounds_toArray, List.set_cons_zero, List.set_cons_succ]
            refine wpAnyH_ready (rs := [15]) (by kernel_rfl) (by simp) ?_
            refine AllReadyH.cons rfl (fun K hK => ?_) AllReadyH.nil
            go_simp
            go_wp2_with (fail)
            refine hK.out _ _ (HG.out _ _ _ hHeld) (fun hHeld => ?_)
            clear hK K
            refine wpAnyH_done (by kernel_rfl) ?_ _
            go_wp2
            go_ret
            first | exact HF1.out 0 | exact HF1.out 1
        · rw [if_neg h2] at hOK
          rw [hOK]
          clear hOK
          have hk : X.st = 3 ∨ X.st = 4 ∨ X.st = 5 ∨ X.st = 6 := by have := HST.out; omega
          clear h2 HFR HOK HOK2
          rcases hk with hk | hk | hk | hk
          all_goals
            go_enter Try.func47, Try.ntmps47
            go_wp2_with fail
            (try rw [hg])
            (try rw [hW1])
            go_quiet (fail)
            go_wp2_with (go_at_call 52; (with_reducible refine (HZ.out _).mono ?_); rintro e w2 ⟨rfl, dz, hw2⟩; rw [hw2]; clear hw2)
            have hK3 := HGN.out (nq + dz)
            obtain ⟨W3, hW3⟩ : ∃ W, W1.drewN (nq + dz) = W := ⟨_, rfl⟩
            rw [hW3] at hK3 ⊢
            clear hW3
            obtain ⟨eb, e6, e7, e2, e9, ef, eq⟩ := hK3
            have HB3 := Lib.hid eb
            have HQ3 := Lib.hid eq
            clear eb eq
            go_quiet ((go_at_call 20; (with_reducible exact HQ3.out _)))
            rw [hk] at e2
            clear hk
            go_wp2
            go_ret
            exact HS.out _ (belowN HB3.out _) _
    · have hfz : ((f : Int) != (SN : Int)) = true := by simp; omega
      obtain rfl : R = true := by rw [HHR.out, decide_eq_false hfs]; rfl
      rw [if_pos rfl]
      go_enter Try.func47, Try.ntmps47
      go_wp2_with fail
      (try rw [hg])
      (try rw [hW1])
      go_quiet (fail)
      go_wp2_with (go_at_call 52; (with_reducible refine (HZ.out _).mono ?_); rintro e w2 ⟨rfl, dz, hw2⟩; rw [hw2]; clear hw2)
      have hK3 := HGN.out (nq + dz)
      obtain ⟨W3, hW3⟩ : ∃ W, W1.drewN (nq + dz) = W := ⟨_, rfl⟩
      rw [hW3] at hK3 ⊢
      clear hW3
      obtain ⟨eb, e6, e7, e2, e9, ef, eq⟩ := hK3
      have HB3 := Lib.hid eb
      have HQ3 := Lib.hid eq
      clear eb eq
      go_quiet (fail)
      all_goals go_wp2
      all_goals go_ret
      all_goals (rw [HOK.out (by first | trivial | exact HR.out)]; exact HS.out _ (belowN HB3.out _) _)
/-- On: the error's number, what it is then. -/
def onE (X : QS) (m : FN) (n : Nat) : Int := if m.s = X.id then (if m.k = 8 then onSE X m.o.toNat n m.fin else if m.k = 4 then onRE X m.f.toNat else 1) else 1
def onX (X : QS) (m : FN) (bs : List Int) : QS := if m.s = X.id then (if m.k = 8 then onSX X m.o.toNat bs m.fin else if m.k = 4 then onRX X m.f.toNat m.c.toNat else X) else X
set_option maxHeartbeats 16000000 in
set_option maxRecDepth 100000 in
theorem q_on (h : Qp w base p O X) (ho : X.ok) (hb : base ≤ w.heap.size) (m : FN) (d r : Sl) (bs : List Int) (hm : m.wf) (hd : RdP w (fun b => ¬ O b) d.A d.n bs) (hdc : d.n ≤ d.c) (hdn : d.n < 9223372036854775808) :
    Calls Try.prog 41 #[.pointer (some ⟨p, 0, none⟩), frV m d r] w (QPost (.int .i64 (onE X m bs.length)) base p O (onX X m bs) w) := by
  obtain ⟨L, W1, hfv, hL, hW1, hB, hlt, hA, d0, d1, d2, d3, d4, d5, d6, d7⟩ := fr_box8 w m d r
  have h1 := h.below hB
  have c0 := h1.c0
  have HB := Lib.hid hB
  have HS := Lib.hid (fun W k r => h.same (w' := W) k r)
  have hLl : L.length = 19 := by rw [hL]; rfl
  have HLl := Lib.hid hLl
  have hbs : base ≤ W1.heap.size := Nat.le_trans hb hB.size
  have HST : Hid (∀ j, Calls Try.prog 46 #[.pointer (some ⟨p, 0, none⟩), .agg L.toArray] (W1.drewN j) (QPost (.int .i64 (onSE X m.o.toNat bs.length m.fin)) base p O (onSX X m.o.toNat bs m.fin) w)) := Lib.hid (fun j => by
    rw [← hfv]
    have o0 := hm.o0
    have o1 := hm.o1
    exact (q_onStream (h1.drewN j) ho hbs m d r m.o.toNat bs (by omega) (by omega) (hd.kept (Kept.of_below (belowN hB j) (fun _ => False)) fun _ _ h => h) hdc hdn).mono fun e w' hP => h.after (belowN hB j) hP)
  have HRS : Hid (∀ j, Calls Try.prog 47 #[.pointer (some ⟨p, 0, none⟩), .agg L.toArray] (W1.drewN j) (QPost (.int .i64 (onRE X m.f.toNat)) base p O (onRX X m.f.toNat m.c.toNat) w)) := Lib.hid (fun j => by
    rw [← hfv]
    have f0 := hm.f0
    have f1 := hm.f1
    have c0 := hm.c0
    have c1 := hm.c1
    exact (q_onReset (h1.drewN j) ho m d r m.f.toNat m.c.toNat (by omega) (by omega) (by omega) (by omega)).mono fun e w' hP => h.after (belowN hB j) hP)
  rw [hfv]
  obtain ⟨g, hg⟩ : ∃ g, w.heap.size = g := ⟨_, rfl⟩
  have hA2 : At W1 g 34 L := by rw [← hg]; exact hA
  have HA2 := Lib.hid (fun j => hA2.drewN j)
  rw [hg] at d0 d1 d2 d3 d4 d5 d6 d7
  clear h ho hb hd hA hA2 h1 hfv hL hlt
  by_cases hs : m.s = X.id
  · have hx2 : onX X m bs = (if m.k = 8 then onSX X m.o.toNat bs m.fin else if m.k = 4 then onRX X m.f.toNat m.c.toNat else X) := by unfold onX; rw [if_pos hs]
    have hx : onE X m bs.length = (if m.k = 8 then onSE X m.o.toNat bs.length m.fin else if m.k = 4 then onRE X m.f.toNat else 1) := by unfold onE; rw [if_pos hs]
    rw [hx, hx2]
    have hss : ((m.s : Int) != (X.id : Int)) = false := by simp [hs]
    clear hx hx2
    rw [hs] at d1
    clear hss hs
    by_cases h8 : m.k = 8
    · rw [if_pos h8, if_pos h8]
      rw [h8] at d0
      clear h8
      go_enter Try.func41, Try.ntmps41
      go_wp2_with fail
      (try rw [hg])
      (try rw [hW1])
      go_quiet (fail)
      go_wp2_with (first
        | ((with_reducible refine at_ld ?_); refine ld_fr_g _ _ (by rfl) (by rfl) (HA2.out nq) HLl.out ?_)
        | (go_at_call 46; (with_reducible refine (HST.out _).mono ?_); rintro e w2 ⟨rfl, hq⟩; have HQ2 := Lib.hid hq; clear hq))
      go_ret
      exact ⟨rfl, HQ2.out⟩
    · rw [if_neg h8, if_neg h8]
      have hk8 : ((m.k : Int) == 8) = false := by simpa using h8
      by_cases h4 : m.k = 4
      · rw [if_pos h4, if_pos h4]
        rw [h4] at d0
        clear h8 h4 hk8
        go_enter Try.func41, Try.ntmps41
        go_wp2_with fail
        (try rw [hg])
        (try rw [hW1])
        go_quiet (fail)
        go_wp2_with (first
          | ((with_reducible refine at_ld ?_); refine ld_fr_g _ _ (by rfl) (by rfl) (HA2.out nq) HLl.out ?_)
          | (go_at_call 47; (with_reducible refine (HRS.out _).mono ?_); rintro e w2 ⟨rfl, hq⟩; have HQ2 := Lib.hid hq; clear hq))
        go_ret
        exact ⟨rfl, HQ2.out⟩
      · rw [if_neg h4, if_neg h4]
        have hk4 : ((m.k : Int) == 4) = false := by simpa using h4
        clear h8 h4
        generalize m.k = kk at *
        go_enter Try.func41, Try.ntmps41
        go_wp2_with fail
        (try rw [hg])
        (try rw [hW1])
        go_quiet (fail)
        go_wp2
        go_ret
        exact HS.out _ (belowN HB.out _) _
  · have hx2 : onX X m bs = X := by unfold onX; rw [if_neg hs]
    have hx : onE X m bs.length = 1 := by unfold onE; rw [if_neg hs]
    rw [hx, hx2]
    have hss : ((m.s : Int) != (X.id : Int)) = true := by simpa using hs
    clear hx hx2 hs
    generalize m.s = ss at *
    go_enter Try.func41, Try.ntmps41
    go_wp2_with fail
    (try rw [hg])
    (try rw [hW1])
    go_quiet (fail)
    go_wp2
    go_ret
    exact HS.out _ (belowN HB.out _) _
end
end
end Go.Proofs.Ytndaikeeikimeaa
