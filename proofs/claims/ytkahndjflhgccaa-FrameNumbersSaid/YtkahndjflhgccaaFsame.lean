/-
  The program's Same (frame.Same).
-/
import Derived.Test.YtkahndjflhgccaaSeq
import Derived.Test.YtkahndjflhgccaaMe
namespace Go.Proofs.Ytkahndjflhgccaa
set_option linter.unusedVariables false
set_option linter.unusedSimpArgs false
open Go.RowKit
def fsB (a b : FN) (ds ds' : List Int) (rs rs' : RS) : Bool := a.k == b.k && (a.fin == b.fin && (cidB a b && (numB a b && (decide (ds = ds') && decide (rs = rs')))))
theorem rangeAt_cid {w' : World} {p : Nat} {m : FN} {d r : Sl} (h : w'.rangeAt p 0 (frL m d r)) : w'.rangeAt p 11 [.int .u8 m.c0, .int .u8 m.c1, .int .u8 m.c2, .int .u8 m.c3, .int .u8 m.c4, .int .u8 m.c5, .int .u8 m.c6, .int .u8 m.c7] := fun j v hv => by
  have := h (11 + j) v (by
    rw [Nat.add_comm]
    match j, hv with
    | 0, h => exact h
    | 1, h => exact h
    | 2, h => exact h
    | 3, h => exact h
    | 4, h => exact h
    | 5, h => exact h
    | 6, h => exact h
    | 7, h => exact h
    | j + 8, h => simp at h)
  rw [Nat.zero_add] at this
  exact this
theorem fsS {w' : World} {p : Nat} {L : List Value} {m : FN} {d r : Sl} (hL : frL m d r = L) (h : At w' p 31 L) :
    w'.cell? ⟨p, 0, none⟩ = some (.int .i64 m.k) ∧ w'.cell? ⟨p, 4, none⟩ = some (.bool m.fin) ∧ w'.cell? ⟨p, 3, none⟩ = some (.slice d.A d.n d.c) ∧ w'.cell? ⟨p, 10, none⟩ = some (.slice r.A r.n r.c) ∧
    w'.rangeAt p 11 [.int .u8 m.c0, .int .u8 m.c1, .int .u8 m.c2, .int .u8 m.c3, .int .u8 m.c4, .int .u8 m.c5, .int .u8 m.c6, .int .u8 m.c7] ∧ w'.rangeAt p 0 L := by
  subst hL
  exact ⟨h.cell 0, h.cell 4, h.cell 3, h.cell 10, rangeAt_cid h.rangeAt, h.rangeAt⟩
theorem cid_info : (Try.prog.info? 29).map (·.size) = some 8 := by kernel_rfl
theorem yl_cid {ops : Array Oper} {S : World → Prop} {op : Oper} {a : Act} (x : Operand) (ho : op.op = .load 29 x) (b o : Nat) (hx : a.eval x = .pointer (some ⟨b, o, none⟩)) (c0 c1 c2 c3 c4 c5 c6 c7 : Int)
    (hS : ∀ w, S w → w.rangeAt b o [.int .u8 c0, .int .u8 c1, .int .u8 c2, .int .u8 c3, .int .u8 c4, .int .u8 c5, .int .u8 c6, .int .u8 c7]) (hw : Region.wanted op (yielded ops a.tmps) = true) :
    YieldsIf Try.prog ops S op (.agg #[.int .u8 c0, .int .u8 c1, .int .u8 c2, .int .u8 c3, .int .u8 c4, .int .u8 c5, .int .u8 c6, .int .u8 c7]) a :=
  yieldsIf_load_mid hw _ x ho b o hx [.int .u8 c0, .int .u8 c1, .int .u8 c2, .int .u8 c3, .int .u8 c4, .int .u8 c5, .int .u8 c6, .int .u8 c7] _ hS Try.underlying29 rfl cid_info

set_option maxRecDepth 100000 in
set_option maxHeartbeats 4000000 in
theorem fsame_any (P : Nat → Prop) (m n : FN) (d0 r0 e0 t0 : Sl) (ds ds' : List Int) (rs rs' : RS) (w : World) (hf : Fits w P m d0 r0 ds rs) (hf' : Fits w P n e0 t0 ds' rs') :
    Calls Try.prog 9 #[frV m d0 r0, frV n e0 t0] w (FrPost (.bool (fsB (askN m) (askN n) (askDs m.k ds) (askDs n.k ds') (askRs m.k rs) (askRs n.k rs'))) w) := by
  have hak := hf.ask
  have hbk := hf'.ask
  have hC := asked_any m d0 r0
  have hD := asked_any n e0 t0
  unfold AskedPost at hC hD
  obtain ⟨a, ha⟩ : ∃ x, askN m = x := ⟨_, rfl⟩
  obtain ⟨b, hb⟩ : ∃ x, askN n = x := ⟨_, rfl⟩
  obtain ⟨d, hd⟩ : ∃ x, askD m.k d0 = x := ⟨_, rfl⟩
  obtain ⟨r, hr⟩ : ∃ x, askR m.k r0 = x := ⟨_, rfl⟩
  obtain ⟨e, he⟩ : ∃ x, askD n.k e0 = x := ⟨_, rfl⟩
  obtain ⟨t, ht⟩ : ∃ x, askR n.k t0 = x := ⟨_, rfl⟩
  obtain ⟨da, hda⟩ : ∃ x, askDs m.k ds = x := ⟨_, rfl⟩
  obtain ⟨db, hdb⟩ : ∃ x, askDs n.k ds' = x := ⟨_, rfl⟩
  obtain ⟨ra, hra⟩ : ∃ x, askRs m.k rs = x := ⟨_, rfl⟩
  obtain ⟨rb, hrb⟩ : ∃ x, askRs n.k rs' = x := ⟨_, rfl⟩
  obtain ⟨ka0, hka0⟩ : ∃ x, knownB m.k = x := ⟨_, rfl⟩
  obtain ⟨kb0, hkb0⟩ : ∃ x, knownB n.k = x := ⟨_, rfl⟩
  rw [ha, hd, hr, hda, hra] at hak
  rw [hb, he, ht, hdb, hrb] at hbk
  rw [ha, hd, hr, hka0] at hC
  rw [hb, he, ht, hkb0] at hD
  rw [ha, hb, hda, hdb, hra, hrb]
  clear ha hb hd hr he ht hda hdb hra hrb hka0 hkb0 hf hf'
  obtain ⟨M, hM⟩ : ∃ L, frL m d0 r0 = L := ⟨_, rfl⟩
  obtain ⟨N, hN⟩ : ∃ L, frL n e0 t0 = L := ⟨_, rfl⟩
  have hMl : M.length = 19 := by rw [← hM]; rfl
  have hNl : N.length = 19 := by rw [← hN]; rfl
  have hMv : frV m d0 r0 = .agg M.toArray := by rw [← hM]; rfl
  have hNv : frV n e0 t0 = .agg N.toArray := by rw [← hN]; rfl
  rw [hMv] at hC ⊢
  rw [hNv] at hD ⊢
  clear hM hN hMv hNv
  obtain ⟨ka, sa, oa, fa, la, ca, xa, qa, ya, a0, a1, a2, a3, a4, a5, a6, a7⟩ := a
  obtain ⟨kb, sb, ob, fb, lb, cb, xb, qb, yb, b0, b1, b2, b3, b4, b5, b6, b7⟩ := b
  obtain ⟨dA, dn, dc⟩ := d
  obtain ⟨rA, rn, rc⟩ := r
  obtain ⟨eA, en, ec⟩ := e
  obtain ⟨tA, tn, tc⟩ := t
  have hNa := fun W => numbers_any ⟨ka, sa, oa, fa, la, ca, xa, qa, ya, a0, a1, a2, a3, a4, a5, a6, a7⟩ ⟨dA, dn, dc⟩ ⟨rA, rn, rc⟩ W
  have hNb := fun W => numbers_any ⟨kb, sb, ob, fb, lb, cb, xb, qb, yb, b0, b1, b2, b3, b4, b5, b6, b7⟩ ⟨eA, en, ec⟩ ⟨tA, tn, tc⟩ W
  have hBE := fun (W : World) a1 a2 => beq_any P P ⟨dA, dn, dc⟩ ⟨eA, en, ec⟩ da db W a1 a2
  have hSE := fun (W : World) a1 a2 => seq_any P P ⟨rA, rn, rc⟩ ⟨tA, tn, tc⟩ ra rb W a1 a2
  have RC := fun W => run_cid W ⟨ka, sa, oa, fa, la, ca, xa, qa, ya, a0, a1, a2, a3, a4, a5, a6, a7⟩ ⟨kb, sb, ob, fb, lb, cb, xb, qb, yb, b0, b1, b2, b3, b4, b5, b6, b7⟩
  have RN := fun W => run_nums W ⟨ka, sa, oa, fa, la, ca, xa, qa, ya, a0, a1, a2, a3, a4, a5, a6, a7⟩ ⟨kb, sb, ob, fb, lb, cb, xb, qb, yb, b0, b1, b2, b3, b4, b5, b6, b7⟩
  obtain ⟨CB, hCB⟩ : ∃ x, cidB ⟨ka, sa, oa, fa, la, ca, xa, qa, ya, a0, a1, a2, a3, a4, a5, a6, a7⟩ ⟨kb, sb, ob, fb, lb, cb, xb, qb, yb, b0, b1, b2, b3, b4, b5, b6, b7⟩ = x := ⟨_, rfl⟩
  obtain ⟨NB, hNB⟩ : ∃ x, numB ⟨ka, sa, oa, fa, la, ca, xa, qa, ya, a0, a1, a2, a3, a4, a5, a6, a7⟩ ⟨kb, sb, ob, fb, lb, cb, xb, qb, yb, b0, b1, b2, b3, b4, b5, b6, b7⟩ = x := ⟨_, rfl⟩
  obtain ⟨DB, hDB⟩ : ∃ x, decide (da = db) = x := ⟨_, rfl⟩
  obtain ⟨RB, hRB⟩ : ∃ x, decide (ra = rb) = x := ⟨_, rfl⟩
  have hFV : fsB ⟨ka, sa, oa, fa, la, ca, xa, qa, ya, a0, a1, a2, a3, a4, a5, a6, a7⟩ ⟨kb, sb, ob, fb, lb, cb, xb, qb, yb, b0, b1, b2, b3, b4, b5, b6, b7⟩ da db ra rb = (ka == kb && (fa == fb && (CB && (NB && (DB && RB))))) := by unfold fsB; rw [hCB, hNB, hDB, hRB]
  rw [hFV]
  rw [hCB] at RC
  rw [hNB] at RN
  rw [hDB] at hBE
  rw [hRB] at hSE
  clear hFV hCB hNB hDB hRB
  simp only at hNa hNb hBE hSE RC RN
  obtain ⟨La, hLa⟩ : ∃ L, frL ⟨ka, sa, oa, fa, la, ca, xa, qa, ya, a0, a1, a2, a3, a4, a5, a6, a7⟩ ⟨dA, dn, dc⟩ ⟨rA, rn, rc⟩ = L := ⟨_, rfl⟩
  obtain ⟨Lb, hLb⟩ : ∃ L, frL ⟨kb, sb, ob, fb, lb, cb, xb, qb, yb, b0, b1, b2, b3, b4, b5, b6, b7⟩ ⟨eA, en, ec⟩ ⟨tA, tn, tc⟩ = L := ⟨_, rfl⟩
  have hLal : La.length = 19 := by rw [← hLa]; rfl
  have hLbl : Lb.length = 19 := by rw [← hLb]; rfl
  have hao : La.all (·.oneCell') = true := by rw [← hLa]; rfl
  have hbo : Lb.all (·.oneCell') = true := by rw [← hLb]; rfl
  have hav : frV ⟨ka, sa, oa, fa, la, ca, xa, qa, ya, a0, a1, a2, a3, a4, a5, a6, a7⟩ ⟨dA, dn, dc⟩ ⟨rA, rn, rc⟩ = .agg La.toArray := by rw [← hLa]; rfl
  have hbv : frV ⟨kb, sb, ob, fb, lb, cb, xb, qb, yb, b0, b1, b2, b3, b4, b5, b6, b7⟩ ⟨eA, en, ec⟩ ⟨tA, tn, tc⟩ = .agg Lb.toArray := by rw [← hLb]; rfl
  rw [hav] at hC hNa
  rw [hbv] at hD hNb
  clear hav hbv
  have HC := Lib.hid hC
  have HD := Lib.hid hD
  have HNA := Lib.hid hNa
  have HNB := Lib.hid hNb
  have HBE := Lib.hid hBE
  have HSE := Lib.hid hSE
  have HSA := Lib.hid (fun (W : World) (p : Nat) => fsS (w' := W) (p := p) hLa)
  have HSB := Lib.hid (fun (W : World) (p : Nat) => fsS (w' := W) (p := p) hLb)
  have HAK := Lib.hid hak
  have HBK := Lib.hid hbk
  have HMl := Lib.hid hMl
  have HNl := Lib.hid hNl
  have HLl := Lib.hid hLal
  have HLl2 := Lib.hid hLbl
  have HAO := Lib.hid hao
  have HBO := Lib.hid hbo
  clear hC hD hNa hNb hBE hSE hLa hLb hak hbk hMl hNl hLal hLbl hao hbo
  have hP0 : At ((w.alloc (.cells M.toArray 31)).alloc (.cells N.toArray 31)) w.heap.size 31 M := (At.new w _ _).alloc _
  have hQ0 : At ((w.alloc (.cells M.toArray 31)).alloc (.cells N.toArray 31)) (w.heap.size + 1) 31 N := At.new_ _ _ _ (by simp)
  have hB0 : Below w.heap.size w ((w.alloc (.cells M.toArray 31)).alloc (.cells N.toArray 31)) := ((Below.refl _ _).alloc (Nat.le_refl _) _).alloc (by simp) _
  have HP0 := Lib.hid hP0
  have HQ0 := Lib.hid hQ0
  have HB0 := Lib.hid hB0
  clear hP0 hQ0 hB0
  go_enter Try.func9, Try.ntmps9
  go_wp2_with (first | ((with_reducible refine at_ld ?_); refine ld_fr_g _ _ (by rfl) (by rfl) HP0.out HMl.out ?_) | fail)
  refine (HC.out _).mono ?_
  rintro e w1 ⟨rfl, hb1⟩
  have HP1 := Lib.hid (HP0.out.below hb1 HP0.out.lt)
  have HQ1 := Lib.hid (HQ0.out.below hb1 HQ0.out.lt)
  have HB1 := Lib.hid (HB0.out.trans (hb1.mono (by have := HP0.out.lt; omega)))
  clear hb1 HP0 HQ0 HB0
  go_wp2_with (first | ((with_reducible refine at_st ?_); refine st_at _ _ _ (by rfl) (by rfl) HP1.out HMl.out HLl.out HAO.out ?_; intro w2 hP2 hK2) | ((with_reducible refine at_ld ?_); refine ld_fr_g _ _ (by rfl) (by rfl) (HQ1.out.kept hK2 (by omega)) HNl.out ?_) | fail)
  have hQ2 := HQ1.out.kept hK2 (by omega)
  have hB2 : Below w.heap.size w w2 := hK2.below HB1.out (by have := HP1.out.lt; omega) (fun j hj => by omega)
  clear hK2
  refine (HD.out _).mono ?_
  rintro e w3 ⟨rfl, hb3⟩
  have HP3 := Lib.hid (hP2.below hb3 hP2.lt)
  have HQ3 := Lib.hid (hQ2.below hb3 hQ2.lt)
  have HB3 := Lib.hid (hB2.trans (hb3.mono (by have := hP2.lt; omega)))
  clear hb3 hP2 hQ2 hB2
  go_wp2_with (first | ((with_reducible refine at_st ?_); refine st_at _ _ _ (by rfl) (by rfl) HQ3.out HNl.out HLl2.out HBO.out ?_; intro w4 hQ4 hK4) | fail)
  have hP4 := HP3.out.kept hK4 (by omega)
  have hB4 : Below w.heap.size w w4 := hK4.below HB3.out (by have := HP3.out.lt; omega) (fun j hj => by omega)
  clear hK4
  have hP5 := hP4.drew
  have hQ5 := hQ4.drew
  have hB5 := below_drew hB4
  have hp5 := hP5.lt
  have hq5 := hQ5.lt
  clear hP4 hQ4 hB4
  by_cases ek : ka = kb
  · subst ek
    by_cases ef : fa = fb
    · subst ef
      cases CB with
      | false =>
        refine wp_region_held_drew (S := (fun w' => (w'.cell? ⟨w.heap.size, 0, none⟩ = some (.int .i64 ka) ∧ w'.cell? ⟨w.heap.size, 4, none⟩ = some (.bool fa) ∧ w'.cell? ⟨w.heap.size, 3, none⟩ = some (.slice dA dn dc) ∧ w'.cell? ⟨w.heap.size, 10, none⟩ = some (.slice rA rn rc) ∧ w'.rangeAt w.heap.size 11 [.int .u8 a0, .int .u8 a1, .int .u8 a2, .int .u8 a3, .int .u8 a4, .int .u8 a5, .int .u8 a6, .int .u8 a7] ∧ w'.rangeAt w.heap.size 0 La) ∧ (w'.cell? ⟨(w.heap.size + 1), 0, none⟩ = some (.int .i64 ka) ∧ w'.cell? ⟨(w.heap.size + 1), 4, none⟩ = some (.bool fa) ∧ w'.cell? ⟨(w.heap.size + 1), 3, none⟩ = some (.slice eA en ec) ∧ w'.cell? ⟨(w.heap.size + 1), 10, none⟩ = some (.slice tA tn tc) ∧ w'.rangeAt (w.heap.size + 1) 11 [.int .u8 b0, .int .u8 b1, .int .u8 b2, .int .u8 b3, .int .u8 b4, .int .u8 b5, .int .u8 b6, .int .u8 b7] ∧ w'.rangeAt (w.heap.size + 1) 0 Lb))) (by kernel_rfl) (⟨HSA.out _ _ hP5, HSB.out _ _ hQ5⟩) (fun hHeld => ?_)
        refine tkp 0 (some 15) (v := ?_) rfl (Or.inl ⟨by rfl, ?_⟩) (by assumption) ?_
        rotate_left
        · intro w hSw; (try dsimp only at hSw); go_simp; first | done | (with_reducible rfl)
        simp only [Act.put, List.setIfInBounds_toArray, List.set_cons_zero, List.set_cons_succ]
        refine tkp 1 (some 16) (v := ?_) rfl (Or.inl ⟨by rfl, ?_⟩) (by assumption) ?_
        rotate_left
        · intro w hSw; (try dsimp only at hSw); go_simp; first | done | (with_reducible rfl)
        simp only [Act.put, List.setIfInBounds_toArray, List.set_cons_zero, List.set_cons_succ]
        refine tkp 2 (some 17) (v := ?_) rfl (Or.inl ⟨by rfl, ?_⟩) (by assumption) ?_
        rotate_left
        · intro w hSw; (try dsimp only at hSw); go_simp; first | done | (with_reducible rfl)
        simp only [Act.put, List.setIfInBounds_toArray, List.set_cons_zero, List.set_cons_succ]
        refine tkp 3 (some 18) (v := ?_) rfl (Or.inl ⟨by rfl, ?_⟩) (by assumption) ?_
        rotate_left
        · intro w hSw; (try dsimp only at hSw); go_simp; first | done | (with_reducible rfl)
        simp only [Act.put, List.setIfInBounds_toArray, List.set_cons_zero, List.set_cons_succ]
        refine tkp 4 (some 19) (v := ?_) rfl (Or.inl ⟨by rfl, ?_⟩) (by assumption) ?_
        rotate_left
        · intro w hSw; (try dsimp only at hSw); go_simp; first | done | (with_reducible rfl)
        simp only [Act.put, List.setIfInBounds_toArray, List.set_cons_zero, List.set_cons_succ]
        refine tkp 5 (some 20) (v := ?_) rfl (Or.inl ⟨by rfl, ?_⟩) (by assumption) ?_
        rotate_left
        · intro w hSw; (try dsimp only at hSw); go_simp; first | done | (with_reducible rfl)
        simp only [Act.put, List.setIfInBounds_toArray, List.set_cons_zero, List.set_cons_succ]
        refine tkp 6 (some 21) (v := ?_) rfl (Or.inl ⟨by rfl, ?_⟩) (by assumption) ?_
        rotate_left
        · intro w hSw; (try dsimp only at hSw); go_simp; first | done | (with_reducible rfl)
        simp only [Act.put, List.setIfInBounds_toArray, List.set_cons_zero, List.set_cons_succ]
        refine tkp 7 (some 22) (v := ?_) rfl (Or.inl ⟨by rfl, ?_⟩) (by assumption) ?_
        rotate_left
        · intro w hSw; (try dsimp only at hSw); go_simp; first | done | (with_reducible rfl)
        simp only [Act.put, List.setIfInBounds_toArray, List.set_cons_zero, List.set_cons_succ]
        refine tkp 8 (some 23) (v := ?_) rfl (Or.inl ⟨by rfl, ?_⟩) (by assumption) ?_
        rotate_left
        · intro w hSw; (try dsimp only at hSw); go_simp; first | done | (with_reducible rfl)
        simp only [Act.put, List.setIfInBounds_toArray, List.set_cons_zero, List.set_cons_succ]
        refine tkp 9 (some 24) (v := ?_) rfl (Or.inl ⟨by rfl, ?_⟩) (by assumption) ?_
        rotate_left
        · intro w hSw; (try dsimp only at hSw); go_simp; first | done | (with_reducible rfl)
        simp only [Act.put, List.setIfInBounds_toArray, List.set_cons_zero, List.set_cons_succ]
        refine tkp 10 (some 25) (v := ?_) rfl (Or.inl ⟨by rfl, ?_⟩) (by assumption) ?_
        rotate_left
        · intro w hSw; (try dsimp only at hSw); go_simp; first | done | (with_reducible rfl)
        simp only [Act.put, List.setIfInBounds_toArray, List.set_cons_zero, List.set_cons_succ]
        refine tkp 11 (some 26) (v := ?_) rfl (Or.inl ⟨by rfl, ?_⟩) (by assumption) ?_
        rotate_left
        · intro w hSw; (try dsimp only at hSw); go_simp; first | done | (with_reducible rfl)
        simp only [Act.put, List.setIfInBounds_toArray, List.set_cons_zero, List.set_cons_succ]
        refine tkp 12 (some 27) (v := ?_) rfl (Or.inl ⟨by rfl, ?_⟩) (by assumption) ?_
        rotate_left
        · intro w hSw; (try dsimp only at hSw); go_simp; first | done | (with_reducible rfl)
        simp only [Act.put, List.setIfInBounds_toArray, List.set_cons_zero, List.set_cons_succ]
        refine tkp 13 (some 28) (v := ?_) rfl (Or.inl ⟨by rfl, ?_⟩) (by assumption) ?_
        rotate_left
        · intro w hSw; (try dsimp only at hSw); go_simp; first | done | (with_reducible rfl)
        simp only [Act.put, List.setIfInBounds_toArray, List.set_cons_zero, List.set_cons_succ]
        refine take_dst (i := 14) (dst := some 29) rfl rfl (by kernel_rfl) (by kernel_rfl) (by kernel_rfl) (fun _ _ _ h => h) (v := ?_) ?_ (by assumption) ?_
        rotate_left
        · refine yl_cid ?ylx14 ?ylo14 ?ylb14 ?ylq14 ?ylp14 ?yc014 ?yc114 ?yc214 ?yc314 ?yc414 ?yc514 ?yc614 ?yc714 ?ylS14 ?ylw14
          case ylo14 => rfl
          case ylp14 => rfl
          case ylS14 => intro w hSw; (try dsimp only at hSw); go_split_ands; assumption
          case ylw14 => rfl
        simp only [Act.put, List.setIfInBounds_toArray, List.set_cons_zero, List.set_cons_succ]
        refine tkp 15 (some 30) (v := ?_) rfl (Or.inl ⟨by rfl, ?_⟩) (by assumption) ?_
        rotate_left
        · intro w hSw; (try dsimp only at hSw); go_simp; first | done | (with_reducible rfl)
        simp only [Act.put, List.setIfInBounds_toArray, List.set_cons_zero, List.set_cons_succ]
        refine take_dst (i := 16) (dst := some 31) rfl rfl (by kernel_rfl) (by kernel_rfl) (by kernel_rfl) (fun _ _ _ h => h) (v := ?_) ?_ (by assumption) ?_
        rotate_left
        · refine yl_cid ?ylx16 ?ylo16 ?ylb16 ?ylq16 ?ylp16 ?yc016 ?yc116 ?yc216 ?yc316 ?yc416 ?yc516 ?yc616 ?yc716 ?ylS16 ?ylw16
          case ylo16 => rfl
          case ylp16 => rfl
          case ylS16 => intro w hSw; (try dsimp only at hSw); go_split_ands; assumption
          case ylw16 => rfl
        simp only [Act.put, List.setIfInBounds_toArray, List.set_cons_zero, List.set_cons_succ]
        refine tkp 17 (some 32) (v := ?_) rfl (Or.inl ⟨by rfl, ?_⟩) (by assumption) ?_
        rotate_left
        · intro w hSw; (try dsimp only at hSw); go_simp; first | done | (with_reducible rfl)
        simp only [Act.put, List.setIfInBounds_toArray, List.set_cons_zero, List.set_cons_succ]
        refine tkp 18 (some 33) (v := ?_) rfl (Or.inl ⟨by rfl, ?_⟩) (by assumption) ?_
        rotate_left
        · intro w hSw; (try dsimp only at hSw); go_simp; first | done | (with_reducible rfl)
        simp only [Act.put, List.setIfInBounds_toArray, List.set_cons_zero, List.set_cons_succ]
        refine tkp 19 (some 34) (v := ?_) rfl (Or.inl ⟨by rfl, ?_⟩) (by assumption) ?_
        rotate_left
        · intro w hSw; (try dsimp only at hSw); go_simp; first | done | (with_reducible rfl)
        simp only [Act.put, List.setIfInBounds_toArray, List.set_cons_zero, List.set_cons_succ]
        refine tkp 20 (some 35) (v := undef) rfl (Or.inr ⟨by rfl, rfl⟩) (by assumption) ?_
        simp only [Act.put, List.setIfInBounds_toArray, List.set_cons_zero, List.set_cons_succ]
        refine tkp 21 (some 36) (v := undef) rfl (Or.inr ⟨by rfl, rfl⟩) (by assumption) ?_
        simp only [Act.put, List.setIfInBounds_toArray, List.set_cons_zero, List.set_cons_succ]
        refine tkp 22 (some 37) (v := undef) rfl (Or.inr ⟨by rfl, rfl⟩) (by assumption) ?_
        simp only [Act.put, List.setIfInBounds_toArray, List.set_cons_zero, List.set_cons_succ]
        refine tkp 23 (some 38) (v := undef) rfl (Or.inr ⟨by rfl, rfl⟩) (by assumption) ?_
        simp only [Act.put, List.setIfInBounds_toArray, List.set_cons_zero, List.set_cons_succ]
        refine tkp 24 (some 39) (v := undef) rfl (Or.inr ⟨by rfl, rfl⟩) (by assumption) ?_
        simp only [Act.put, List.setIfInBounds_toArray, List.set_cons_zero, List.set_cons_succ]
        refine tkp 25 (some 40) (v := ?_) rfl (Or.inl ⟨by rfl, ?_⟩) (by assumption) ?_
        rotate_left
        · intro w hSw; (try dsimp only at hSw); go_simp; first | done | (with_reducible rfl)
        simp only [Act.put, List.setIfInBounds_toArray, List.set_cons_zero, List.set_cons_succ]
        refine tkp 26 (some 41) (v := ?_) rfl (Or.inl ⟨by rfl, ?_⟩) (by assumption) ?_
        rotate_left
        · intro w hSw; (try dsimp only at hSw); go_simp; first | done | (with_reducible rfl)
        simp only [Act.put, List.setIfInBounds_toArray, List.set_cons_zero, List.set_cons_succ]
        refine tkp 27 (some 42) (v := undef) rfl (Or.inr ⟨by rfl, rfl⟩) (by assumption) ?_
        simp only [Act.put, List.setIfInBounds_toArray, List.set_cons_zero, List.set_cons_succ]
        refine tkp 28 (some 43) (v := undef) rfl (Or.inr ⟨by rfl, rfl⟩) (by assumption) ?_
        simp only [Act.put, List.setIfInBounds_toArray, List.set_cons_zero, List.set_cons_succ]
        refine tkp 29 (some 44) (v := undef) rfl (Or.inr ⟨by rfl, rfl⟩) (by assumption) ?_
        simp only [Act.put, List.setIfInBounds_toArray, List.set_cons_zero, List.set_cons_succ]
        refine tkp 30 (some 45) (v := undef) rfl (Or.inr ⟨by rfl, rfl⟩) (by assumption) ?_
        simp only [Act.put, List.setIfInBounds_toArray, List.set_cons_zero, List.set_cons_succ]
        refine tkp 31 (some 46) (v := undef) rfl (Or.inr ⟨by rfl, rfl⟩) (by assumption) ?_
        simp only [Act.put, List.setIfInBounds_toArray, List.set_cons_zero, List.set_cons_succ]
        refine tkp 32 (some 47) (v := ?_) rfl (Or.inl ⟨by rfl, ?_⟩) (by assumption) ?_
        rotate_left
        · intro w hSw; (try dsimp only at hSw); go_simp; first | done | (with_reducible rfl)
        simp only [Act.put, List.setIfInBounds_toArray, List.set_cons_zero, List.set_cons_succ]
        refine tkp 33 (some 48) (v := ?_) rfl (Or.inl ⟨by rfl, ?_⟩) (by assumption) ?_
        rotate_left
        · intro w hSw; (try dsimp only at hSw); go_simp; first | done | (with_reducible rfl)
        simp only [Act.put, List.setIfInBounds_toArray, List.set_cons_zero, List.set_cons_succ]
        refine tkp 34 (some 49) (v := undef) rfl (Or.inr ⟨by rfl, rfl⟩) (by assumption) ?_
        simp only [Act.put, List.setIfInBounds_toArray, List.set_cons_zero, List.set_cons_succ]
        refine tkp 35 (some 50) (v := undef) rfl (Or.inr ⟨by rfl, rfl⟩) (by assumption) ?_
        simp only [Act.put, List.setIfInBounds_toArray, List.set_cons_zero, List.set_cons_succ]
        refine tkp 36 (some 51) (v := undef) rfl (Or.inr ⟨by rfl, rfl⟩) (by assumption) ?_
        simp only [Act.put, List.setIfInBounds_toArray, List.set_cons_zero, List.set_cons_succ]
        refine tkp 37 (some 52) (v := undef) rfl (Or.inr ⟨by rfl, rfl⟩) (by assumption) ?_
        simp only [Act.put, List.setIfInBounds_toArray, List.set_cons_zero, List.set_cons_succ]
        refine tkp 38 (some 53) (v := undef) rfl (Or.inr ⟨by rfl, rfl⟩) (by assumption) ?_
        simp only [Act.put, List.setIfInBounds_toArray, List.set_cons_zero, List.set_cons_succ]
        refine tkp 39 (some 54) (v := ?_) rfl (Or.inl ⟨by rfl, ?_⟩) (by assumption) ?_
        rotate_left
        · intro w hSw; (try dsimp only at hSw); go_simp; first | done | (with_reducible rfl)
        simp only [Act.put, List.setIfInBounds_toArray, List.set_cons_zero, List.set_cons_succ]
        refine tkp 40 (some 4) (v := ?_) rfl (Or.inl ⟨by rfl, ?_⟩) (by assumption) ?_
        rotate_left
        · intro w hSw; (try dsimp only at hSw); go_simp; first | done | (with_reducible rfl)
        simp only [Act.put, List.setIfInBounds_toArray, List.set_cons_zero, List.set_cons_succ]
        refine wpAnyH_done (by kernel_rfl) ?_ _
        go_wp2_with fail
        go_ret
        exact ⟨by simp, hB5⟩
      | true =>
        cases NB with
        | false =>
          refine wp_region_held_drew (S := (fun w' => (w'.cell? ⟨w.heap.size, 0, none⟩ = some (.int .i64 ka) ∧ w'.cell? ⟨w.heap.size, 4, none⟩ = some (.bool fa) ∧ w'.cell? ⟨w.heap.size, 3, none⟩ = some (.slice dA dn dc) ∧ w'.cell? ⟨w.heap.size, 10, none⟩ = some (.slice rA rn rc) ∧ w'.rangeAt w.heap.size 11 [.int .u8 a0, .int .u8 a1, .int .u8 a2, .int .u8 a3, .int .u8 a4, .int .u8 a5, .int .u8 a6, .int .u8 a7] ∧ w'.rangeAt w.heap.size 0 La) ∧ (w'.cell? ⟨(w.heap.size + 1), 0, none⟩ = some (.int .i64 ka) ∧ w'.cell? ⟨(w.heap.size + 1), 4, none⟩ = some (.bool fa) ∧ w'.cell? ⟨(w.heap.size + 1), 3, none⟩ = some (.slice eA en ec) ∧ w'.cell? ⟨(w.heap.size + 1), 10, none⟩ = some (.slice tA tn tc) ∧ w'.rangeAt (w.heap.size + 1) 11 [.int .u8 b0, .int .u8 b1, .int .u8 b2, .int .u8 b3, .int .u8 b4, .int .u8 b5, .int .u8 b6, .int .u8 b7] ∧ w'.rangeAt (w.heap.size + 1) 0 Lb))) (by kernel_rfl) (⟨HSA.out _ _ hP5, HSB.out _ _ hQ5⟩) (fun hHeld => ?_)
          refine tkp 0 (some 15) (v := ?_) rfl (Or.inl ⟨by rfl, ?_⟩) (by assumption) ?_
          rotate_left
          · intro w hSw; (try dsimp only at hSw); go_simp; first | done | (with_reducible rfl)
          simp only [Act.put, List.setIfInBounds_toArray, List.set_cons_zero, List.set_cons_succ]
          refine tkp 1 (some 16) (v := ?_) rfl (Or.inl ⟨by rfl, ?_⟩) (by assumption) ?_
          rotate_left
          · intro w hSw; (try dsimp only at hSw); go_simp; first | done | (with_reducible rfl)
          simp only [Act.put, List.setIfInBounds_toArray, List.set_cons_zero, List.set_cons_succ]
          refine tkp 2 (some 17) (v := ?_) rfl (Or.inl ⟨by rfl, ?_⟩) (by assumption) ?_
          rotate_left
          · intro w hSw; (try dsimp only at hSw); go_simp; first | done | (with_reducible rfl)
          simp only [Act.put, List.setIfInBounds_toArray, List.set_cons_zero, List.set_cons_succ]
          refine tkp 3 (some 18) (v := ?_) rfl (Or.inl ⟨by rfl, ?_⟩) (by assumption) ?_
          rotate_left
          · intro w hSw; (try dsimp only at hSw); go_simp; first | done | (with_reducible rfl)
          simp only [Act.put, List.setIfInBounds_toArray, List.set_cons_zero, List.set_cons_succ]
          refine tkp 4 (some 19) (v := ?_) rfl (Or.inl ⟨by rfl, ?_⟩) (by assumption) ?_
          rotate_left
          · intro w hSw; (try dsimp only at hSw); go_simp; first | done | (with_reducible rfl)
          simp only [Act.put, List.setIfInBounds_toArray, List.set_cons_zero, List.set_cons_succ]
          refine tkp 5 (some 20) (v := ?_) rfl (Or.inl ⟨by rfl, ?_⟩) (by assumption) ?_
          rotate_left
          · intro w hSw; (try dsimp only at hSw); go_simp; first | done | (with_reducible rfl)
          simp only [Act.put, List.setIfInBounds_toArray, List.set_cons_zero, List.set_cons_succ]
          refine tkp 6 (some 21) (v := ?_) rfl (Or.inl ⟨by rfl, ?_⟩) (by assumption) ?_
          rotate_left
          · intro w hSw; (try dsimp only at hSw); go_simp; first | done | (with_reducible rfl)
          simp only [Act.put, List.setIfInBounds_toArray, List.set_cons_zero, List.set_cons_succ]
          refine tkp 7 (some 22) (v := ?_) rfl (Or.inl ⟨by rfl, ?_⟩) (by assumption) ?_
          rotate_left
          · intro w hSw; (try dsimp only at hSw); go_simp; first | done | (with_reducible rfl)
          simp only [Act.put, List.setIfInBounds_toArray, List.set_cons_zero, List.set_cons_succ]
          refine tkp 8 (some 23) (v := ?_) rfl (Or.inl ⟨by rfl, ?_⟩) (by assumption) ?_
          rotate_left
          · intro w hSw; (try dsimp only at hSw); go_simp; first | done | (with_reducible rfl)
          simp only [Act.put, List.setIfInBounds_toArray, List.set_cons_zero, List.set_cons_succ]
          refine tkp 9 (some 24) (v := ?_) rfl (Or.inl ⟨by rfl, ?_⟩) (by assumption) ?_
          rotate_left
          · intro w hSw; (try dsimp only at hSw); go_simp; first | done | (with_reducible rfl)
          simp only [Act.put, List.setIfInBounds_toArray, List.set_cons_zero, List.set_cons_succ]
          refine tkp 10 (some 25) (v := ?_) rfl (Or.inl ⟨by rfl, ?_⟩) (by assumption) ?_
          rotate_left
          · intro w hSw; (try dsimp only at hSw); go_simp; first | done | (with_reducible rfl)
          simp only [Act.put, List.setIfInBounds_toArray, List.set_cons_zero, List.set_cons_succ]
          refine tkp 11 (some 26) (v := ?_) rfl (Or.inl ⟨by rfl, ?_⟩) (by assumption) ?_
          rotate_left
          · intro w hSw; (try dsimp only at hSw); go_simp; first | done | (with_reducible rfl)
          simp only [Act.put, List.setIfInBounds_toArray, List.set_cons_zero, List.set_cons_succ]
          refine tkp 12 (some 27) (v := ?_) rfl (Or.inl ⟨by rfl, ?_⟩) (by assumption) ?_
          rotate_left
          · intro w hSw; (try dsimp only at hSw); go_simp; first | done | (with_reducible rfl)
          simp only [Act.put, List.setIfInBounds_toArray, List.set_cons_zero, List.set_cons_succ]
          refine tkp 13 (some 28) (v := ?_) rfl (Or.inl ⟨by rfl, ?_⟩) (by assumption) ?_
          rotate_left
          · intro w hSw; (try dsimp only at hSw); go_simp; first | done | (with_reducible rfl)
          simp only [Act.put, List.setIfInBounds_toArray, List.set_cons_zero, List.set_cons_succ]
          refine take_dst (i := 14) (dst := some 29) rfl rfl (by kernel_rfl) (by kernel_rfl) (by kernel_rfl) (fun _ _ _ h => h) (v := ?_) ?_ (by assumption) ?_
          rotate_left
          · refine yl_cid ?ylx14 ?ylo14 ?ylb14 ?ylq14 ?ylp14 ?yc014 ?yc114 ?yc214 ?yc314 ?yc414 ?yc514 ?yc614 ?yc714 ?ylS14 ?ylw14
            case ylo14 => rfl
            case ylp14 => rfl
            case ylS14 => intro w hSw; (try dsimp only at hSw); go_split_ands; assumption
            case ylw14 => rfl
          simp only [Act.put, List.setIfInBounds_toArray, List.set_cons_zero, List.set_cons_succ]
          refine tkp 15 (some 30) (v := ?_) rfl (Or.inl ⟨by rfl, ?_⟩) (by assumption) ?_
          rotate_left
          · intro w hSw; (try dsimp only at hSw); go_simp; first | done | (with_reducible rfl)
          simp only [Act.put, List.setIfInBounds_toArray, List.set_cons_zero, List.set_cons_succ]
          refine take_dst (i := 16) (dst := some 31) rfl rfl (by kernel_rfl) (by kernel_rfl) (by kernel_rfl) (fun _ _ _ h => h) (v := ?_) ?_ (by assumption) ?_
          rotate_left
          · refine yl_cid ?ylx16 ?ylo16 ?ylb16 ?ylq16 ?ylp16 ?yc016 ?yc116 ?yc216 ?yc316 ?yc416 ?yc516 ?yc616 ?yc716 ?ylS16 ?ylw16
            case ylo16 => rfl
            case ylp16 => rfl
            case ylS16 => intro w hSw; (try dsimp only at hSw); go_split_ands; assumption
            case ylw16 => rfl
          simp only [Act.put, List.setIfInBounds_toArray, List.set_cons_zero, List.set_cons_succ]
          refine tkp 17 (some 32) (v := ?_) rfl (Or.inl ⟨by rfl, ?_⟩) (by assumption) ?_
          rotate_left
          · intro w hSw; (try dsimp only at hSw); go_simp; first | done | (with_reducible rfl)
          simp only [Act.put, List.setIfInBounds_toArray, List.set_cons_zero, List.set_cons_succ]
          refine tkp 18 (some 33) (v := ?_) rfl (Or.inl ⟨by rfl, ?_⟩) (by assumption) ?_
          rotate_left
          · intro w hSw; (try dsimp only at hSw); go_simp; first | done | (with_reducible rfl)
          simp only [Act.put, List.setIfInBounds_toArray, List.set_cons_zero, List.set_cons_succ]
          refine tkp 19 (some 34) (v := ?_) rfl (Or.inl ⟨by rfl, ?_⟩) (by assumption) ?_
          rotate_left
          · intro w hSw; (try dsimp only at hSw); go_simp; first | done | (with_reducible rfl)
          simp only [Act.put, List.setIfInBounds_toArray, List.set_cons_zero, List.set_cons_succ]
          refine take_dst (i := 20) (dst := some 35) rfl rfl (by kernel_rfl) (by kernel_rfl) (by kernel_rfl) (fun _ _ _ h => h) (v := ?_) ?_ (by assumption) ?_
          rotate_left
          · refine yl_fr ?ylx20 ?ylo20 ?ylb20 ?ylp20 ?ylL20 ?ylS20 ?yll20 ?ylw20
            case ylo20 => rfl
            case ylp20 => rfl
            case ylS20 => intro w hSw; (try dsimp only at hSw); go_split_ands; assumption
            case yll20 => first | rfl | exact HLl.out | exact HLl2.out
            case ylw20 => rfl
          simp only [Act.put, List.setIfInBounds_toArray, List.set_cons_zero, List.set_cons_succ]
          refine take_dst (i := 22) (dst := some 37) rfl rfl (by kernel_rfl) (by kernel_rfl) (by kernel_rfl) (fun _ _ _ h => h) (v := ?_) ?_ (by assumption) ?_
          rotate_left
          · refine yl_fr ?ylx22 ?ylo22 ?ylb22 ?ylp22 ?ylL22 ?ylS22 ?yll22 ?ylw22
            case ylo22 => rfl
            case ylp22 => rfl
            case ylS22 => intro w hSw; (try dsimp only at hSw); go_split_ands; assumption
            case yll22 => first | rfl | exact HLl.out | exact HLl2.out
            case ylw22 => rfl
          simp only [Act.put, List.setIfInBounds_toArray, List.set_cons_zero, List.set_cons_succ]
          refine wpAnyH_ready (rs := [21]) (by kernel_rfl) (by simp) ?_
          refine AllReadyH.cons rfl (fun K hK => ?_) AllReadyH.nil
          go_simp
          go_wp2_with ((go_at_call 31; refine (HNA.out _).mono ?_; rintro e w6 ⟨rfl, hb6⟩; have hP6 := hP5.below hb6 hP5.lt; have hQ6 := hQ5.below hb6 hQ5.lt; have hB6 := hB5.trans (hb6.mono (hB5.size))))
          refine hK.out _ _ (⟨HSA.out _ _ hP6, HSB.out _ _ hQ6⟩) (fun hHeld => ?_)
          clear hK K
          refine wpAnyH_ready (rs := [23]) (by kernel_rfl) (by simp) ?_
          refine AllReadyH.cons rfl (fun K hK => ?_) AllReadyH.nil
          go_simp
          go_wp2_with ((go_at_call 31; refine (HNB.out _).mono ?_; rintro e w7 ⟨rfl, hb7⟩; have hP7 := hP6.below hb7 hP6.lt; have hQ7 := hQ6.below hb7 hQ6.lt; have hB7 := hB6.trans (hb7.mono (hB6.size))))
          refine hK.out _ _ (⟨HSA.out _ _ hP7, HSB.out _ _ hQ7⟩) (fun hHeld => ?_)
          clear hK K
          refine tkp 24 (some 39) (v := ?_) rfl (Or.inl ⟨by rfl, ?_⟩) (by assumption) ?_
          rotate_left
          · intro w hSw; (try dsimp only at hSw); go_simp; first | done | (with_reducible rfl)
          simp only [Act.put, List.setIfInBounds_toArray, List.set_cons_zero, List.set_cons_succ]
          refine tkp 25 (some 40) (v := ?_) rfl (Or.inl ⟨by rfl, ?_⟩) (by assumption) ?_
          rotate_left
          · intro w hSw; (try dsimp only at hSw); go_simp; first | done | (with_reducible rfl)
          simp only [Act.put, List.setIfInBounds_toArray, List.set_cons_zero, List.set_cons_succ]
          refine tkp 26 (some 41) (v := ?_) rfl (Or.inl ⟨by rfl, ?_⟩) (by assumption) ?_
          rotate_left
          · intro w hSw; (try dsimp only at hSw); go_simp; first | done | (with_reducible rfl)
          simp only [Act.put, List.setIfInBounds_toArray, List.set_cons_zero, List.set_cons_succ]
          refine tkp 27 (some 42) (v := undef) rfl (Or.inr ⟨by rfl, rfl⟩) (by assumption) ?_
          simp only [Act.put, List.setIfInBounds_toArray, List.set_cons_zero, List.set_cons_succ]
          refine tkp 28 (some 43) (v := undef) rfl (Or.inr ⟨by rfl, rfl⟩) (by assumption) ?_
          simp only [Act.put, List.setIfInBounds_toArray, List.set_cons_zero, List.set_cons_succ]
          refine tkp 29 (some 44) (v := undef) rfl (Or.inr ⟨by rfl, rfl⟩) (by assumption) ?_
          simp only [Act.put, List.setIfInBounds_toArray, List.set_cons_zero, List.set_cons_succ]
          refine tkp 30 (some 45) (v := undef) rfl (Or.inr ⟨by rfl, rfl⟩) (by assumption) ?_
          simp only [Act.put, List.setIfInBounds_toArray, List.set_cons_zero, List.set_cons_succ]
          refine tkp 31 (some 46) (v := undef) rfl (Or.inr ⟨by rfl, rfl⟩) (by assumption) ?_
          simp only [Act.put, List.setIfInBounds_toArray, List.set_cons_zero, List.set_cons_succ]
          refine tkp 32 (some 47) (v := ?_) rfl (Or.inl ⟨by rfl, ?_⟩) (by assumption) ?_
          rotate_left
          · intro w hSw; (try dsimp only at hSw); go_simp; first | done | (with_reducible rfl)
          simp only [Act.put, List.setIfInBounds_toArray, List.set_cons_zero, List.set_cons_succ]
          refine tkp 33 (some 48) (v := ?_) rfl (Or.inl ⟨by rfl, ?_⟩) (by assumption) ?_
          rotate_left
          · intro w hSw; (try dsimp only at hSw); go_simp; first | done | (with_reducible rfl)
          simp only [Act.put, List.setIfInBounds_toArray, List.set_cons_zero, List.set_cons_succ]
          refine tkp 34 (some 49) (v := undef) rfl (Or.inr ⟨by rfl, rfl⟩) (by assumption) ?_
          simp only [Act.put, List.setIfInBounds_toArray, List.set_cons_zero, List.set_cons_succ]
          refine tkp 35 (some 50) (v := undef) rfl (Or.inr ⟨by rfl, rfl⟩) (by assumption) ?_
          simp only [Act.put, List.setIfInBounds_toArray, List.set_cons_zero, List.set_cons_succ]
          refine tkp 36 (some 51) (v := undef) rfl (Or.inr ⟨by rfl, rfl⟩) (by assumption) ?_
          simp only [Act.put, List.setIfInBounds_toArray, List.set_cons_zero, List.set_cons_succ]
          refine tkp 37 (some 52) (v := undef) rfl (Or.inr ⟨by rfl, rfl⟩) (by assumption) ?_
          simp only [Act.put, List.setIfInBounds_toArray, List.set_cons_zero, List.set_cons_succ]
          refine tkp 38 (some 53) (v := undef) rfl (Or.inr ⟨by rfl, rfl⟩) (by assumption) ?_
          simp only [Act.put, List.setIfInBounds_toArray, List.set_cons_zero, List.set_cons_succ]
          refine tkp 39 (some 54) (v := ?_) rfl (Or.inl ⟨by rfl, ?_⟩) (by assumption) ?_
          rotate_left
          · intro w hSw; (try dsimp only at hSw); go_simp; first | done | (with_reducible rfl)
          simp only [Act.put, List.setIfInBounds_toArray, List.set_cons_zero, List.set_cons_succ]
          refine tkp 40 (some 4) (v := ?_) rfl (Or.inl ⟨by rfl, ?_⟩) (by assumption) ?_
          rotate_left
          · intro w hSw; (try dsimp only at hSw); go_simp; first | done | (with_reducible rfl)
          simp only [Act.put, List.setIfInBounds_toArray, List.set_cons_zero, List.set_cons_succ]
          refine wpAnyH_done (by kernel_rfl) ?_ _
          go_wp2_with fail
          go_ret
          exact ⟨by simp, hB7⟩
        | true =>
          cases DB with
          | false =>
            refine wp_region_held_drew (S := (fun w' => (w'.cell? ⟨w.heap.size, 0, none⟩ = some (.int .i64 ka) ∧ w'.cell? ⟨w.heap.size, 4, none⟩ = some (.bool fa) ∧ w'.cell? ⟨w.heap.size, 3, none⟩ = some (.slice dA dn dc) ∧ w'.cell? ⟨w.heap.size, 10, none⟩ = some (.slice rA rn rc) ∧ w'.rangeAt w.heap.size 11 [.int .u8 a0, .int .u8 a1, .int .u8 a2, .int .u8 a3, .int .u8 a4, .int .u8 a5, .int .u8 a6, .int .u8 a7] ∧ w'.rangeAt w.heap.size 0 La) ∧ (w'.cell? ⟨(w.heap.size + 1), 0, none⟩ = some (.int .i64 ka) ∧ w'.cell? ⟨(w.heap.size + 1), 4, none⟩ = some (.bool fa) ∧ w'.cell? ⟨(w.heap.size + 1), 3, none⟩ = some (.slice eA en ec) ∧ w'.cell? ⟨(w.heap.size + 1), 10, none⟩ = some (.slice tA tn tc) ∧ w'.rangeAt (w.heap.size + 1) 11 [.int .u8 b0, .int .u8 b1, .int .u8 b2, .int .u8 b3, .int .u8 b4, .int .u8 b5, .int .u8 b6, .int .u8 b7] ∧ w'.rangeAt (w.heap.size + 1) 0 Lb))) (by kernel_rfl) (⟨HSA.out _ _ hP5, HSB.out _ _ hQ5⟩) (fun hHeld => ?_)
            refine tkp 0 (some 15) (v := ?_) rfl (Or.inl ⟨by rfl, ?_⟩) (by assumption) ?_
            rotate_left
            · intro w hSw; (try dsimp only at hSw); go_simp; first | done | (with_reducible rfl)
            simp only [Act.put, List.setIfInBounds_toArray, List.set_cons_zero, List.set_cons_succ]
            refine tkp 1 (some 16) (v := ?_) rfl (Or.inl ⟨by rfl, ?_⟩) (by assumption) ?_
            rotate_left
            · intro w hSw; (try dsimp only at hSw); go_simp; first | done | (with_reducible rfl)
            simp only [Act.put, List.setIfInBounds_toArray, List.set_cons_zero, List.set_cons_succ]
            refine tkp 2 (some 17) (v := ?_) rfl (Or.inl ⟨by rfl, ?_⟩) (by assumption) ?_
            rotate_left
            · intro w hSw; (try dsimp only at hSw); go_simp; first | done | (with_reducible rfl)
            simp only [Act.put, List.setIfInBounds_toArray, List.set_cons_zero, List.set_cons_succ]
            refine tkp 3 (some 18) (v := ?_) rfl (Or.inl ⟨by rfl, ?_⟩) (by assumption) ?_
            rotate_left
            · intro w hSw; (try dsimp only at hSw); go_simp; first | done | (with_reducible rfl)
            simp only [Act.put, List.setIfInBounds_toArray, List.set_cons_zero, List.set_cons_succ]
            refine tkp 4 (some 19) (v := ?_) rfl (Or.inl ⟨by rfl, ?_⟩) (by assumption) ?_
            rotate_left
            · intro w hSw; (try dsimp only at hSw); go_simp; first | done | (with_reducible rfl)
            simp only [Act.put, List.setIfInBounds_toArray, List.set_cons_zero, List.set_cons_succ]
            refine tkp 5 (some 20) (v := ?_) rfl (Or.inl ⟨by rfl, ?_⟩) (by assumption) ?_
            rotate_left
            · intro w hSw; (try dsimp only at hSw); go_simp; first | done | (with_reducible rfl)
            simp only [Act.put, List.setIfInBounds_toArray, List.set_cons_zero, List.set_cons_succ]
            refine tkp 6 (some 21) (v := ?_) rfl (Or.inl ⟨by rfl, ?_⟩) (by assumption) ?_
            rotate_left
            · intro w hSw; (try dsimp only at hSw); go_simp; first | done | (with_reducible rfl)
            simp only [Act.put, List.setIfInBounds_toArray, List.set_cons_zero, List.set_cons_succ]
            refine tkp 7 (some 22) (v := ?_) rfl (Or.inl ⟨by rfl, ?_⟩) (by assumption) ?_
            rotate_left
            · intro w hSw; (try dsimp only at hSw); go_simp; first | done | (with_reducible rfl)
            simp only [Act.put, List.setIfInBounds_toArray, List.set_cons_zero, List.set_cons_succ]
            refine tkp 8 (some 23) (v := ?_) rfl (Or.inl ⟨by rfl, ?_⟩) (by assumption) ?_
            rotate_left
            · intro w hSw; (try dsimp only at hSw); go_simp; first | done | (with_reducible rfl)
            simp only [Act.put, List.setIfInBounds_toArray, List.set_cons_zero, List.set_cons_succ]
            refine tkp 9 (some 24) (v := ?_) rfl (Or.inl ⟨by rfl, ?_⟩) (by assumption) ?_
            rotate_left
            · intro w hSw; (try dsimp only at hSw); go_simp; first | done | (with_reducible rfl)
            simp only [Act.put, List.setIfInBounds_toArray, List.set_cons_zero, List.set_cons_succ]
            refine tkp 10 (some 25) (v := ?_) rfl (Or.inl ⟨by rfl, ?_⟩) (by assumption) ?_
            rotate_left
            · intro w hSw; (try dsimp only at hSw); go_simp; first | done | (with_reducible rfl)
            simp only [Act.put, List.setIfInBounds_toArray, List.set_cons_zero, List.set_cons_succ]
            refine tkp 11 (some 26) (v := ?_) rfl (Or.inl ⟨by rfl, ?_⟩) (by assumption) ?_
            rotate_left
            · intro w hSw; (try dsimp only at hSw); go_simp; first | done | (with_reducible rfl)
            simp only [Act.put, List.setIfInBounds_toArray, List.set_cons_zero, List.set_cons_succ]
            refine tkp 12 (some 27) (v := ?_) rfl (Or.inl ⟨by rfl, ?_⟩) (by assumption) ?_
            rotate_left
            · intro w hSw; (try dsimp only at hSw); go_simp; first | done | (with_reducible rfl)
            simp only [Act.put, List.setIfInBounds_toArray, List.set_cons_zero, List.set_cons_succ]
            refine tkp 13 (some 28) (v := ?_) rfl (Or.inl ⟨by rfl, ?_⟩) (by assumption) ?_
            rotate_left
            · intro w hSw; (try dsimp only at hSw); go_simp; first | done | (with_reducible rfl)
            simp only [Act.put, List.setIfInBounds_toArray, List.set_cons_zero, List.set_cons_succ]
            refine take_dst (i := 14) (dst := some 29) rfl rfl (by kernel_rfl) (by kernel_rfl) (by kernel_rfl) (fun _ _ _ h => h) (v := ?_) ?_ (by assumption) ?_
            rotate_left
            · refine yl_cid ?ylx14 ?ylo14 ?ylb14 ?ylq14 ?ylp14 ?yc014 ?yc114 ?yc214 ?yc314 ?yc414 ?yc514 ?yc614 ?yc714 ?ylS14 ?ylw14
              case ylo14 => rfl
              case ylp14 => rfl
              case ylS14 => intro w hSw; (try dsimp only at hSw); go_split_ands; assumption
              case ylw14 => rfl
            simp only [Act.put, List.setIfInBounds_toArray, List.set_cons_zero, List.set_cons_succ]
            refine tkp 15 (some 30) (v := ?_) rfl (Or.inl ⟨by rfl, ?_⟩) (by assumption) ?_
            rotate_left
            · intro w hSw; (try dsimp only at hSw); go_simp; first | done | (with_reducible rfl)
            simp only [Act.put, List.setIfInBounds_toArray, List.set_cons_zero, List.set_cons_succ]
            refine take_dst (i := 16) (dst := some 31) rfl rfl (by kernel_rfl) (by kernel_rfl) (by kernel_rfl) (fun _ _ _ h => h) (v := ?_) ?_ (by assumption) ?_
            rotate_left
            · refine yl_cid ?ylx16 ?ylo16 ?ylb16 ?ylq16 ?ylp16 ?yc016 ?yc116 ?yc216 ?yc316 ?yc416 ?yc516 ?yc616 ?yc716 ?ylS16 ?ylw16
              case ylo16 => rfl
              case ylp16 => rfl
              case ylS16 => intro w hSw; (try dsimp only at hSw); go_split_ands; assumption
              case ylw16 => rfl
            simp only [Act.put, List.setIfInBounds_toArray, List.set_cons_zero, List.set_cons_succ]
            refine tkp 17 (some 32) (v := ?_) rfl (Or.inl ⟨by rfl, ?_⟩) (by assumption) ?_
            rotate_left
            · intro w hSw; (try dsimp only at hSw); go_simp; first | done | (with_reducible rfl)
            simp only [Act.put, List.setIfInBounds_toArray, List.set_cons_zero, List.set_cons_succ]
            refine tkp 18 (some 33) (v := ?_) rfl (Or.inl ⟨by rfl, ?_⟩) (by assumption) ?_
            rotate_left
            · intro w hSw; (try dsimp only at hSw); go_simp; first | done | (with_reducible rfl)
            simp only [Act.put, List.setIfInBounds_toArray, List.set_cons_zero, List.set_cons_succ]
            refine tkp 19 (some 34) (v := ?_) rfl (Or.inl ⟨by rfl, ?_⟩) (by assumption) ?_
            rotate_left
            · intro w hSw; (try dsimp only at hSw); go_simp; first | done | (with_reducible rfl)
            simp only [Act.put, List.setIfInBounds_toArray, List.set_cons_zero, List.set_cons_succ]
            refine take_dst (i := 20) (dst := some 35) rfl rfl (by kernel_rfl) (by kernel_rfl) (by kernel_rfl) (fun _ _ _ h => h) (v := ?_) ?_ (by assumption) ?_
            rotate_left
            · refine yl_fr ?ylx20 ?ylo20 ?ylb20 ?ylp20 ?ylL20 ?ylS20 ?yll20 ?ylw20
              case ylo20 => rfl
              case ylp20 => rfl
              case ylS20 => intro w hSw; (try dsimp only at hSw); go_split_ands; assumption
              case yll20 => first | rfl | exact HLl.out | exact HLl2.out
              case ylw20 => rfl
            simp only [Act.put, List.setIfInBounds_toArray, List.set_cons_zero, List.set_cons_succ]
            refine take_dst (i := 22) (dst := some 37) rfl rfl (by kernel_rfl) (by kernel_rfl) (by kernel_rfl) (fun _ _ _ h => h) (v := ?_) ?_ (by assumption) ?_
            rotate_left
            · refine yl_fr ?ylx22 ?ylo22 ?ylb22 ?ylp22 ?ylL22 ?ylS22 ?yll22 ?ylw22
              case ylo22 => rfl
              case ylp22 => rfl
              case ylS22 => intro w hSw; (try dsimp only at hSw); go_split_ands; assumption
              case yll22 => first | rfl | exact HLl.out | exact HLl2.out
              case ylw22 => rfl
            simp only [Act.put, List.setIfInBounds_toArray, List.set_cons_zero, List.set_cons_succ]
            refine wpAnyH_ready (rs := [21]) (by kernel_rfl) (by simp) ?_
            refine AllReadyH.cons rfl (fun K hK => ?_) AllReadyH.nil
            go_simp
            go_wp2_with ((go_at_call 31; refine (HNA.out _).mono ?_; rintro e w6 ⟨rfl, hb6⟩; have hP6 := hP5.below hb6 hP5.lt; have hQ6 := hQ5.below hb6 hQ5.lt; have hB6 := hB5.trans (hb6.mono (hB5.size))))
            refine hK.out _ _ (⟨HSA.out _ _ hP6, HSB.out _ _ hQ6⟩) (fun hHeld => ?_)
            clear hK K
            refine wpAnyH_ready (rs := [23]) (by kernel_rfl) (by simp) ?_
            refine AllReadyH.cons rfl (fun K hK => ?_) AllReadyH.nil
            go_simp
            go_wp2_with ((go_at_call 31; refine (HNB.out _).mono ?_; rintro e w7 ⟨rfl, hb7⟩; have hP7 := hP6.below hb7 hP6.lt; have hQ7 := hQ6.below hb7 hQ6.lt; have hB7 := hB6.trans (hb7.mono (hB6.size))))
            refine hK.out _ _ (⟨HSA.out _ _ hP7, HSB.out _ _ hQ7⟩) (fun hHeld => ?_)
            clear hK K
            refine tkp 24 (some 39) (v := ?_) rfl (Or.inl ⟨by rfl, ?_⟩) (by assumption) ?_
            rotate_left
            · intro w hSw; (try dsimp only at hSw); go_simp; first | done | (with_reducible rfl)
            simp only [Act.put, List.setIfInBounds_toArray, List.set_cons_zero, List.set_cons_succ]
            refine tkp 25 (some 40) (v := ?_) rfl (Or.inl ⟨by rfl, ?_⟩) (by assumption) ?_
            rotate_left
            · intro w hSw; (try dsimp only at hSw); go_simp; first | done | (with_reducible rfl)
            simp only [Act.put, List.setIfInBounds_toArray, List.set_cons_zero, List.set_cons_succ]
            refine tkp 26 (some 41) (v := ?_) rfl (Or.inl ⟨by rfl, ?_⟩) (by assumption) ?_
            rotate_left
            · intro w hSw; (try dsimp only at hSw); go_simp; first | done | (with_reducible rfl)
            simp only [Act.put, List.setIfInBounds_toArray, List.set_cons_zero, List.set_cons_succ]
            refine tkp 27 (some 42) (v := ?_) rfl (Or.inl ⟨by rfl, ?_⟩) (by assumption) ?_
            rotate_left
            · intro w hSw; (try dsimp only at hSw); go_simp; first | done | (with_reducible rfl)
            simp only [Act.put, List.setIfInBounds_toArray, List.set_cons_zero, List.set_cons_succ]
            refine tkp 28 (some 43) (v := ?_) rfl (Or.inl ⟨by rfl, ?_⟩) (by assumption) ?_
            rotate_left
            · intro w hSw; (try dsimp only at hSw); go_simp; first | done | (with_reducible rfl)
            simp only [Act.put, List.setIfInBounds_toArray, List.set_cons_zero, List.set_cons_succ]
            refine tkp 29 (some 44) (v := ?_) rfl (Or.inl ⟨by rfl, ?_⟩) (by assumption) ?_
            rotate_left
            · intro w hSw; (try dsimp only at hSw); go_simp; first | done | (with_reducible rfl)
            simp only [Act.put, List.setIfInBounds_toArray, List.set_cons_zero, List.set_cons_succ]
            refine tkp 30 (some 45) (v := ?_) rfl (Or.inl ⟨by rfl, ?_⟩) (by assumption) ?_
            rotate_left
            · intro w hSw; (try dsimp only at hSw); go_simp; first | done | (with_reducible rfl)
            simp only [Act.put, List.setIfInBounds_toArray, List.set_cons_zero, List.set_cons_succ]
            refine wpAnyH_ready (rs := [31]) (by kernel_rfl) (by simp) ?_
            refine AllReadyH.cons rfl (fun K hK => ?_) AllReadyH.nil
            go_simp
            go_wp2_with ((go_at_call 32; refine (HBE.out _ (HAK.out.below hB7).dt (HBK.out.below hB7).dt).mono ?_; rintro e w8 ⟨rfl, hb8⟩; have hP8 := hP7.below hb8 hP7.lt; have hQ8 := hQ7.below hb8 hQ7.lt; have hB8 := hB7.trans (hb8.mono (hB7.size))))
            refine hK.out _ _ (⟨HSA.out _ _ hP8, HSB.out _ _ hQ8⟩) (fun hHeld => ?_)
            clear hK K
            refine tkp 32 (some 47) (v := ?_) rfl (Or.inl ⟨by rfl, ?_⟩) (by assumption) ?_
            rotate_left
            · intro w hSw; (try dsimp only at hSw); go_simp; first | done | (with_reducible rfl)
            simp only [Act.put, List.setIfInBounds_toArray, List.set_cons_zero, List.set_cons_succ]
            refine tkp 33 (some 48) (v := ?_) rfl (Or.inl ⟨by rfl, ?_⟩) (by assumption) ?_
            rotate_left
            · intro w hSw; (try dsimp only at hSw); go_simp; first | done | (with_reducible rfl)
            simp only [Act.put, List.setIfInBounds_toArray, List.set_cons_zero, List.set_cons_succ]
            refine tkp 34 (some 49) (v := undef) rfl (Or.inr ⟨by rfl, rfl⟩) (by assumption) ?_
            simp only [Act.put, List.setIfInBounds_toArray, List.set_cons_zero, List.set_cons_succ]
            refine tkp 35 (some 50) (v := undef) rfl (Or.inr ⟨by rfl, rfl⟩) (by assumption) ?_
            simp only [Act.put, List.setIfInBounds_toArray, List.set_cons_zero, List.set_cons_succ]
            refine tkp 36 (some 51) (v := undef) rfl (Or.inr ⟨by rfl, rfl⟩) (by assumption) ?_
            simp only [Act.put, List.setIfInBounds_toArray, List.set_cons_zero, List.set_cons_succ]
            refine tkp 37 (some 52) (v := undef) rfl (Or.inr ⟨by rfl, rfl⟩) (by assumption) ?_
            simp only [Act.put, List.setIfInBounds_toArray, List.set_cons_zero, List.set_cons_succ]
            refine tkp 38 (some 53) (v := undef) rfl (Or.inr ⟨by rfl, rfl⟩) (by assumption) ?_
            simp only [Act.put, List.setIfInBounds_toArray, List.set_cons_zero, List.set_cons_succ]
            refine tkp 39 (some 54) (v := ?_) rfl (Or.inl ⟨by rfl, ?_⟩) (by assumption) ?_
            rotate_left
            · intro w hSw; (try dsimp only at hSw); go_simp; first | done | (with_reducible rfl)
            simp only [Act.put, List.setIfInBounds_toArray, List.set_cons_zero, List.set_cons_succ]
            refine tkp 40 (some 4) (v := ?_) rfl (Or.inl ⟨by rfl, ?_⟩) (by assumption) ?_
            rotate_left
            · intro w hSw; (try dsimp only at hSw); go_simp; first | done | (with_reducible rfl)
            simp only [Act.put, List.setIfInBounds_toArray, List.set_cons_zero, List.set_cons_succ]
            refine wpAnyH_done (by kernel_rfl) ?_ _
            go_wp2_with fail
            go_ret
            exact ⟨by simp, hB8⟩
          | true =>
            refine wp_region_held_drew (S := (fun w' => (w'.cell? ⟨w.heap.size, 0, none⟩ = some (.int .i64 ka) ∧ w'.cell? ⟨w.heap.size, 4, none⟩ = some (.bool fa) ∧ w'.cell? ⟨w.heap.size, 3, none⟩ = some (.slice dA dn dc) ∧ w'.cell? ⟨w.heap.size, 10, none⟩ = some (.slice rA rn rc) ∧ w'.rangeAt w.heap.size 11 [.int .u8 a0, .int .u8 a1, .int .u8 a2, .int .u8 a3, .int .u8 a4, .int .u8 a5, .int .u8 a6, .int .u8 a7] ∧ w'.rangeAt w.heap.size 0 La) ∧ (w'.cell? ⟨(w.heap.size + 1), 0, none⟩ = some (.int .i64 ka) ∧ w'.cell? ⟨(w.heap.size + 1), 4, none⟩ = some (.bool fa) ∧ w'.cell? ⟨(w.heap.size + 1), 3, none⟩ = some (.slice eA en ec) ∧ w'.cell? ⟨(w.heap.size + 1), 10, none⟩ = some (.slice tA tn tc) ∧ w'.rangeAt (w.heap.size + 1) 11 [.int .u8 b0, .int .u8 b1, .int .u8 b2, .int .u8 b3, .int .u8 b4, .int .u8 b5, .int .u8 b6, .int .u8 b7] ∧ w'.rangeAt (w.heap.size + 1) 0 Lb))) (by kernel_rfl) (⟨HSA.out _ _ hP5, HSB.out _ _ hQ5⟩) (fun hHeld => ?_)
            refine tkp 0 (some 15) (v := ?_) rfl (Or.inl ⟨by rfl, ?_⟩) (by assumption) ?_
            rotate_left
            · intro w hSw; (try dsimp only at hSw); go_simp; first | done | (with_reducible rfl)
            simp only [Act.put, List.setIfInBounds_toArray, List.set_cons_zero, List.set_cons_succ]
            refine tkp 1 (some 16) (v := ?_) rfl (Or.inl ⟨by rfl, ?_⟩) (by assumption) ?_
            rotate_left
            · intro w hSw; (try dsimp only at hSw); go_simp; first | done | (with_reducible rfl)
            simp only [Act.put, List.setIfInBounds_toArray, List.set_cons_zero, List.set_cons_succ]
            refine tkp 2 (some 17) (v := ?_) rfl (Or.inl ⟨by rfl, ?_⟩) (by assumption) ?_
            rotate_left
            · intro w hSw; (try dsimp only at hSw); go_simp; first | done | (with_reducible rfl)
            simp only [Act.put, List.setIfInBounds_toArray, List.set_cons_zero, List.set_cons_succ]
            refine tkp 3 (some 18) (v := ?_) rfl (Or.inl ⟨by rfl, ?_⟩) (by assumption) ?_
            rotate_left
            · intro w hSw; (try dsimp only at hSw); go_simp; first | done | (with_reducible rfl)
            simp only [Act.put, List.setIfInBounds_toArray, List.set_cons_zero, List.set_cons_succ]
            refine tkp 4 (some 19) (v := ?_) rfl (Or.inl ⟨by rfl, ?_⟩) (by assumption) ?_
            rotate_left
            · intro w hSw; (try dsimp only at hSw); go_simp; first | done | (with_reducible rfl)
            simp only [Act.put, List.setIfInBounds_toArray, List.set_cons_zero, List.set_cons_succ]
            refine tkp 5 (some 20) (v := ?_) rfl (Or.inl ⟨by rfl, ?_⟩) (by assumption) ?_
            rotate_left
            · intro w hSw; (try dsimp only at hSw); go_simp; first | done | (with_reducible rfl)
            simp only [Act.put, List.setIfInBounds_toArray, List.set_cons_zero, List.set_cons_succ]
            refine tkp 6 (some 21) (v := ?_) rfl (Or.inl ⟨by rfl, ?_⟩) (by assumption) ?_
            rotate_left
            · intro w hSw; (try dsimp only at hSw); go_simp; first | done | (with_reducible rfl)
            simp only [Act.put, List.setIfInBounds_toArray, List.set_cons_zero, List.set_cons_succ]
            refine tkp 7 (some 22) (v := ?_) rfl (Or.inl ⟨by rfl, ?_⟩) (by assumption) ?_
            rotate_left
            · intro w hSw; (try dsimp only at hSw); go_simp; first | done | (with_reducible rfl)
            simp only [Act.put, List.setIfInBounds_toArray, List.set_cons_zero, List.set_cons_succ]
            refine tkp 8 (some 23) (v := ?_) rfl (Or.inl ⟨by rfl, ?_⟩) (by assumption) ?_
            rotate_left
            · intro w hSw; (try dsimp only at hSw); go_simp; first | done | (with_reducible rfl)
            simp only [Act.put, List.setIfInBounds_toArray, List.set_cons_zero, List.set_cons_succ]
            refine tkp 9 (some 24) (v := ?_) rfl (Or.inl ⟨by rfl, ?_⟩) (by assumption) ?_
            rotate_left
            · intro w hSw; (try dsimp only at hSw); go_simp; first | done | (with_reducible rfl)
            simp only [Act.put, List.setIfInBounds_toArray, List.set_cons_zero, List.set_cons_succ]
            refine tkp 10 (some 25) (v := ?_) rfl (Or.inl ⟨by rfl, ?_⟩) (by assumption) ?_
            rotate_left
            · intro w hSw; (try dsimp only at hSw); go_simp; first | done | (with_reducible rfl)
            simp only [Act.put, List.setIfInBounds_toArray, List.set_cons_zero, List.set_cons_succ]
            refine tkp 11 (some 26) (v := ?_) rfl (Or.inl ⟨by rfl, ?_⟩) (by assumption) ?_
            rotate_left
            · intro w hSw; (try dsimp only at hSw); go_simp; first | done | (with_reducible rfl)
            simp only [Act.put, List.setIfInBounds_toArray, List.set_cons_zero, List.set_cons_succ]
            refine tkp 12 (some 27) (v := ?_) rfl (Or.inl ⟨by rfl, ?_⟩) (by assumption) ?_
            rotate_left
            · intro w hSw; (try dsimp only at hSw); go_simp; first | done | (with_reducible rfl)
            simp only [Act.put, List.setIfInBounds_toArray, List.set_cons_zero, List.set_cons_succ]
            refine tkp 13 (some 28) (v := ?_) rfl (Or.inl ⟨by rfl, ?_⟩) (by assumption) ?_
            rotate_left
            · intro w hSw; (try dsimp only at hSw); go_simp; first | done | (with_reducible rfl)
            simp only [Act.put, List.setIfInBounds_toArray, List.set_cons_zero, List.set_cons_succ]
            refine take_dst (i := 14) (dst := some 29) rfl rfl (by kernel_rfl) (by kernel_rfl) (by kernel_rfl) (fun _ _ _ h => h) (v := ?_) ?_ (by assumption) ?_
            rotate_left
            · refine yl_cid ?ylx14 ?ylo14 ?ylb14 ?ylq14 ?ylp14 ?yc014 ?yc114 ?yc214 ?yc314 ?yc414 ?yc514 ?yc614 ?yc714 ?ylS14 ?ylw14
              case ylo14 => rfl
              case ylp14 => rfl
              case ylS14 => intro w hSw; (try dsimp only at hSw); go_split_ands; assumption
              case ylw14 => rfl
            simp only [Act.put, List.setIfInBounds_toArray, List.set_cons_zero, List.set_cons_succ]
            refine tkp 15 (some 30) (v := ?_) rfl (Or.inl ⟨by rfl, ?_⟩) (by assumption) ?_
            rotate_left
            · intro w hSw; (try dsimp only at hSw); go_simp; first | done | (with_reducible rfl)
            simp only [Act.put, List.setIfInBounds_toArray, List.set_cons_zero, List.set_cons_succ]
            refine take_dst (i := 16) (dst := some 31) rfl rfl (by kernel_rfl) (by kernel_rfl) (by kernel_rfl) (fun _ _ _ h => h) (v := ?_) ?_ (by assumption) ?_
            rotate_left
            · refine yl_cid ?ylx16 ?ylo16 ?ylb16 ?ylq16 ?ylp16 ?yc016 ?yc116 ?yc216 ?yc316 ?yc416 ?yc516 ?yc616 ?yc716 ?ylS16 ?ylw16
              case ylo16 => rfl
              case ylp16 => rfl
              case ylS16 => intro w hSw; (try dsimp only at hSw); go_split_ands; assumption
              case ylw16 => rfl
            simp only [Act.put, List.setIfInBounds_toArray, List.set_cons_zero, List.set_cons_succ]
            refine tkp 17 (some 32) (v := ?_) rfl (Or.inl ⟨by rfl, ?_⟩) (by assumption) ?_
            rotate_left
            · intro w hSw; (try dsimp only at hSw); go_simp; first | done | (with_reducible rfl)
            simp only [Act.put, List.setIfInBounds_toArray, List.set_cons_zero, List.set_cons_succ]
            refine tkp 18 (some 33) (v := ?_) rfl (Or.inl ⟨by rfl, ?_⟩) (by assumption) ?_
            rotate_left
            · intro w hSw; (try dsimp only at hSw); go_simp; first | done | (with_reducible rfl)
            simp only [Act.put, List.setIfInBounds_toArray, List.set_cons_zero, List.set_cons_succ]
            refine tkp 19 (some 34) (v := ?_) rfl (Or.inl ⟨by rfl, ?_⟩) (by assumption) ?_
            rotate_left
            · intro w hSw; (try dsimp only at hSw); go_simp; first | done | (with_reducible rfl)
            simp only [Act.put, List.setIfInBounds_toArray, List.set_cons_zero, List.set_cons_succ]
            refine take_dst (i := 20) (dst := some 35) rfl rfl (by kernel_rfl) (by kernel_rfl) (by kernel_rfl) (fun _ _ _ h => h) (v := ?_) ?_ (by assumption) ?_
            rotate_left
            · refine yl_fr ?ylx20 ?ylo20 ?ylb20 ?ylp20 ?ylL20 ?ylS20 ?yll20 ?ylw20
              case ylo20 => rfl
              case ylp20 => rfl
              case ylS20 => intro w hSw; (try dsimp only at hSw); go_split_ands; assumption
              case yll20 => first | rfl | exact HLl.out | exact HLl2.out
              case ylw20 => rfl
            simp only [Act.put, List.setIfInBounds_toArray, List.set_cons_zero, List.set_cons_succ]
            refine take_dst (i := 22) (dst := some 37) rfl rfl (by kernel_rfl) (by kernel_rfl) (by kernel_rfl) (fun _ _ _ h => h) (v := ?_) ?_ (by assumption) ?_
            rotate_left
            · refine yl_fr ?ylx22 ?ylo22 ?ylb22 ?ylp22 ?ylL22 ?ylS22 ?yll22 ?ylw22
              case ylo22 => rfl
              case ylp22 => rfl
              case ylS22 => intro w hSw; (try dsimp only at hSw); go_split_ands; assumption
              case yll22 => first | rfl | exact HLl.out | exact HLl2.out
              case ylw22 => rfl
            simp only [Act.put, List.setIfInBounds_toArray, List.set_cons_zero, List.set_cons_succ]
            refine wpAnyH_ready (rs := [21]) (by kernel_rfl) (by simp) ?_
            refine AllReadyH.cons rfl (fun K hK => ?_) AllReadyH.nil
            go_simp
            go_wp2_with ((go_at_call 31; refine (HNA.out _).mono ?_; rintro e w6 ⟨rfl, hb6⟩; have hP6 := hP5.below hb6 hP5.lt; have hQ6 := hQ5.below hb6 hQ5.lt; have hB6 := hB5.trans (hb6.mono (hB5.size))))
            refine hK.out _ _ (⟨HSA.out _ _ hP6, HSB.out _ _ hQ6⟩) (fun hHeld => ?_)
            clear hK K
            refine wpAnyH_ready (rs := [23]) (by kernel_rfl) (by simp) ?_
            refine AllReadyH.cons rfl (fun K hK => ?_) AllReadyH.nil
            go_simp
            go_wp2_with ((go_at_call 31; refine (HNB.out _).mono ?_; rintro e w7 ⟨rfl, hb7⟩; have hP7 := hP6.below hb7 hP6.lt; have hQ7 := hQ6.below hb7 hQ6.lt; have hB7 := hB6.trans (hb7.mono (hB6.size))))
            refine hK.out _ _ (⟨HSA.out _ _ hP7, HSB.out _ _ hQ7⟩) (fun hHeld => ?_)
            clear hK K
            refine tkp 24 (some 39) (v := ?_) rfl (Or.inl ⟨by rfl, ?_⟩) (by assumption) ?_
            rotate_left
            · intro w hSw; (try dsimp only at hSw); go_simp; first | done | (with_reducible rfl)
            simp only [Act.put, List.setIfInBounds_toArray, List.set_cons_zero, List.set_cons_succ]
            refine tkp 25 (some 40) (v := ?_) rfl (Or.inl ⟨by rfl, ?_⟩) (by assumption) ?_
            rotate_left
            · intro w hSw; (try dsimp only at hSw); go_simp; first | done | (with_reducible rfl)
            simp only [Act.put, List.setIfInBounds_toArray, List.set_cons_zero, List.set_cons_succ]
            refine tkp 26 (some 41) (v := ?_) rfl (Or.inl ⟨by rfl, ?_⟩) (by assumption) ?_
            rotate_left
            · intro w hSw; (try dsimp only at hSw); go_simp; first | done | (with_reducible rfl)
            simp only [Act.put, List.setIfInBounds_toArray, List.set_cons_zero, List.set_cons_succ]
            refine tkp 27 (some 42) (v := ?_) rfl (Or.inl ⟨by rfl, ?_⟩) (by assumption) ?_
            rotate_left
            · intro w hSw; (try dsimp only at hSw); go_simp; first | done | (with_reducible rfl)
            simp only [Act.put, List.setIfInBounds_toArray, List.set_cons_zero, List.set_cons_succ]
            refine tkp 28 (some 43) (v := ?_) rfl (Or.inl ⟨by rfl, ?_⟩) (by assumption) ?_
            rotate_left
            · intro w hSw; (try dsimp only at hSw); go_simp; first | done | (with_reducible rfl)
            simp only [Act.put, List.setIfInBounds_toArray, List.set_cons_zero, List.set_cons_succ]
            refine tkp 29 (some 44) (v := ?_) rfl (Or.inl ⟨by rfl, ?_⟩) (by assumption) ?_
            rotate_left
            · intro w hSw; (try dsimp only at hSw); go_simp; first | done | (with_reducible rfl)
            simp only [Act.put, List.setIfInBounds_toArray, List.set_cons_zero, List.set_cons_succ]
            refine tkp 30 (some 45) (v := ?_) rfl (Or.inl ⟨by rfl, ?_⟩) (by assumption) ?_
            rotate_left
            · intro w hSw; (try dsimp only at hSw); go_simp; first | done | (with_reducible rfl)
            simp only [Act.put, List.setIfInBounds_toArray, List.set_cons_zero, List.set_cons_succ]
            refine wpAnyH_ready (rs := [31]) (by kernel_rfl) (by simp) ?_
            refine AllReadyH.cons rfl (fun K hK => ?_) AllReadyH.nil
            go_simp
            go_wp2_with ((go_at_call 32; refine (HBE.out _ (HAK.out.below hB7).dt (HBK.out.below hB7).dt).mono ?_; rintro e w8 ⟨rfl, hb8⟩; have hP8 := hP7.below hb8 hP7.lt; have hQ8 := hQ7.below hb8 hQ7.lt; have hB8 := hB7.trans (hb8.mono (hB7.size))))
            refine hK.out _ _ (⟨HSA.out _ _ hP8, HSB.out _ _ hQ8⟩) (fun hHeld => ?_)
            clear hK K
            refine tkp 32 (some 47) (v := ?_) rfl (Or.inl ⟨by rfl, ?_⟩) (by assumption) ?_
            rotate_left
            · intro w hSw; (try dsimp only at hSw); go_simp; first | done | (with_reducible rfl)
            simp only [Act.put, List.setIfInBounds_toArray, List.set_cons_zero, List.set_cons_succ]
            refine tkp 33 (some 48) (v := ?_) rfl (Or.inl ⟨by rfl, ?_⟩) (by assumption) ?_
            rotate_left
            · intro w hSw; (try dsimp only at hSw); go_simp; first | done | (with_reducible rfl)
            simp only [Act.put, List.setIfInBounds_toArray, List.set_cons_zero, List.set_cons_succ]
            refine tkp 34 (some 49) (v := ?_) rfl (Or.inl ⟨by rfl, ?_⟩) (by assumption) ?_
            rotate_left
            · intro w hSw; (try dsimp only at hSw); go_simp; first | done | (with_reducible rfl)
            simp only [Act.put, List.setIfInBounds_toArray, List.set_cons_zero, List.set_cons_succ]
            refine tkp 35 (some 50) (v := ?_) rfl (Or.inl ⟨by rfl, ?_⟩) (by assumption) ?_
            rotate_left
            · intro w hSw; (try dsimp only at hSw); go_simp; first | done | (with_reducible rfl)
            simp only [Act.put, List.setIfInBounds_toArray, List.set_cons_zero, List.set_cons_succ]
            refine tkp 36 (some 51) (v := ?_) rfl (Or.inl ⟨by rfl, ?_⟩) (by assumption) ?_
            rotate_left
            · intro w hSw; (try dsimp only at hSw); go_simp; first | done | (with_reducible rfl)
            simp only [Act.put, List.setIfInBounds_toArray, List.set_cons_zero, List.set_cons_succ]
            refine tkp 37 (some 52) (v := ?_) rfl (Or.inl ⟨by rfl, ?_⟩) (by assumption) ?_
            rotate_left
            · intro w hSw; (try dsimp only at hSw); go_simp; first | done | (with_reducible rfl)
            simp only [Act.put, List.setIfInBounds_toArray, List.set_cons_zero, List.set_cons_succ]
            refine wpAnyH_ready (rs := [38]) (by kernel_rfl) (by simp) ?_
            refine AllReadyH.cons rfl (fun K hK => ?_) AllReadyH.nil
            go_simp
            go_wp2_with ((go_at_call 33; refine (HSE.out _ (HAK.out.below hB8).rg (HBK.out.below hB8).rg).mono ?_; rintro e w9 ⟨rfl, hb9⟩; have hP9 := hP8.below hb9 hP8.lt; have hQ9 := hQ8.below hb9 hQ8.lt; have hB9 := hB8.trans (hb9.mono (hB8.size))))
            refine hK.out _ _ (⟨HSA.out _ _ hP9, HSB.out _ _ hQ9⟩) (fun hHeld => ?_)
            clear hK K
            refine tkp 39 (some 54) (v := ?_) rfl (Or.inl ⟨by rfl, ?_⟩) (by assumption) ?_
            rotate_left
            · intro w hSw; (try dsimp only at hSw); go_simp; first | done | (with_reducible rfl)
            simp only [Act.put, List.setIfInBounds_toArray, List.set_cons_zero, List.set_cons_succ]
            refine tkp 40 (some 4) (v := ?_) rfl (Or.inl ⟨by rfl, ?_⟩) (by assumption) ?_
            rotate_left
            · intro w hSw; (try dsimp only at hSw); go_simp; first | done | (with_reducible rfl)
            simp only [Act.put, List.setIfInBounds_toArray, List.set_cons_zero, List.set_cons_succ]
            refine wpAnyH_done (by kernel_rfl) ?_ _
            go_wp2_with fail
            go_ret
            exact ⟨by simp, hB9⟩
    · have nf : (fa == fb) = false := by simpa using ef
      refine wp_region_held_drew (S := (fun w' => (w'.cell? ⟨w.heap.size, 0, none⟩ = some (.int .i64 ka) ∧ w'.cell? ⟨w.heap.size, 4, none⟩ = some (.bool fa) ∧ w'.cell? ⟨w.heap.size, 3, none⟩ = some (.slice dA dn dc) ∧ w'.cell? ⟨w.heap.size, 10, none⟩ = some (.slice rA rn rc) ∧ w'.rangeAt w.heap.size 11 [.int .u8 a0, .int .u8 a1, .int .u8 a2, .int .u8 a3, .int .u8 a4, .int .u8 a5, .int .u8 a6, .int .u8 a7] ∧ w'.rangeAt w.heap.size 0 La) ∧ (w'.cell? ⟨(w.heap.size + 1), 0, none⟩ = some (.int .i64 ka) ∧ w'.cell? ⟨(w.heap.size + 1), 4, none⟩ = some (.bool fb) ∧ w'.cell? ⟨(w.heap.size + 1), 3, none⟩ = some (.slice eA en ec) ∧ w'.cell? ⟨(w.heap.size + 1), 10, none⟩ = some (.slice tA tn tc) ∧ w'.rangeAt (w.heap.size + 1) 11 [.int .u8 b0, .int .u8 b1, .int .u8 b2, .int .u8 b3, .int .u8 b4, .int .u8 b5, .int .u8 b6, .int .u8 b7] ∧ w'.rangeAt (w.heap.size + 1) 0 Lb))) (by kernel_rfl) (⟨HSA.out _ _ hP5, HSB.out _ _ hQ5⟩) (fun hHeld => ?_)
      refine tkp 0 (some 15) (v := ?_) rfl (Or.inl ⟨by rfl, ?_⟩) (by assumption) ?_
      rotate_left
      · intro w hSw; (try dsimp only at hSw); go_simp; first | done | (with_reducible rfl)
      simp only [Act.put, List.setIfInBounds_toArray, List.set_cons_zero, List.set_cons_succ]
      refine tkp 1 (some 16) (v := ?_) rfl (Or.inl ⟨by rfl, ?_⟩) (by assumption) ?_
      rotate_left
      · intro w hSw; (try dsimp only at hSw); go_simp; first | done | (with_reducible rfl)
      simp only [Act.put, List.setIfInBounds_toArray, List.set_cons_zero, List.set_cons_succ]
      refine tkp 2 (some 17) (v := ?_) rfl (Or.inl ⟨by rfl, ?_⟩) (by assumption) ?_
      rotate_left
      · intro w hSw; (try dsimp only at hSw); go_simp; first | done | (with_reducible rfl)
      simp only [Act.put, List.setIfInBounds_toArray, List.set_cons_zero, List.set_cons_succ]
      refine tkp 3 (some 18) (v := ?_) rfl (Or.inl ⟨by rfl, ?_⟩) (by assumption) ?_
      rotate_left
      · intro w hSw; (try dsimp only at hSw); go_simp; first | done | (with_reducible rfl)
      simp only [Act.put, List.setIfInBounds_toArray, List.set_cons_zero, List.set_cons_succ]
      refine tkp 4 (some 19) (v := ?_) rfl (Or.inl ⟨by rfl, ?_⟩) (by assumption) ?_
      rotate_left
      · intro w hSw; (try dsimp only at hSw); go_simp; first | done | (with_reducible rfl)
      simp only [Act.put, List.setIfInBounds_toArray, List.set_cons_zero, List.set_cons_succ]
      refine tkp 5 (some 20) (v := ?_) rfl (Or.inl ⟨by rfl, ?_⟩) (by assumption) ?_
      rotate_left
      · intro w hSw; (try dsimp only at hSw); go_simp; first | done | (with_reducible rfl)
      simp only [Act.put, List.setIfInBounds_toArray, List.set_cons_zero, List.set_cons_succ]
      refine tkp 6 (some 21) (v := ?_) rfl (Or.inl ⟨by rfl, ?_⟩) (by assumption) ?_
      rotate_left
      · intro w hSw; (try dsimp only at hSw); go_simp; first | done | (with_reducible rfl)
      simp only [Act.put, List.setIfInBounds_toArray, List.set_cons_zero, List.set_cons_succ]
      refine tkp 7 (some 22) (v := ?_) rfl (Or.inl ⟨by rfl, ?_⟩) (by assumption) ?_
      rotate_left
      · intro w hSw; (try dsimp only at hSw); go_simp; first | done | (with_reducible rfl)
      simp only [Act.put, List.setIfInBounds_toArray, List.set_cons_zero, List.set_cons_succ]
      refine tkp 8 (some 23) (v := ?_) rfl (Or.inl ⟨by rfl, ?_⟩) (by assumption) ?_
      rotate_left
      · intro w hSw; (try dsimp only at hSw); go_simp; first | done | (with_reducible rfl)
      simp only [Act.put, List.setIfInBounds_toArray, List.set_cons_zero, List.set_cons_succ]
      refine tkp 9 (some 24) (v := ?_) rfl (Or.inl ⟨by rfl, ?_⟩) (by assumption) ?_
      rotate_left
      · intro w hSw; (try dsimp only at hSw); go_simp; first | done | (with_reducible rfl)
      simp only [Act.put, List.setIfInBounds_toArray, List.set_cons_zero, List.set_cons_succ]
      refine tkp 10 (some 25) (v := ?_) rfl (Or.inl ⟨by rfl, ?_⟩) (by assumption) ?_
      rotate_left
      · intro w hSw; (try dsimp only at hSw); go_simp; first | done | (with_reducible rfl)
      simp only [Act.put, List.setIfInBounds_toArray, List.set_cons_zero, List.set_cons_succ]
      refine tkp 11 (some 26) (v := ?_) rfl (Or.inl ⟨by rfl, ?_⟩) (by assumption) ?_
      rotate_left
      · intro w hSw; (try dsimp only at hSw); go_simp; first | done | (with_reducible rfl)
      simp only [Act.put, List.setIfInBounds_toArray, List.set_cons_zero, List.set_cons_succ]
      refine tkp 12 (some 27) (v := ?_) rfl (Or.inl ⟨by rfl, ?_⟩) (by assumption) ?_
      rotate_left
      · intro w hSw; (try dsimp only at hSw); go_simp; first | done | (with_reducible rfl)
      simp only [Act.put, List.setIfInBounds_toArray, List.set_cons_zero, List.set_cons_succ]
      refine tkp 13 (some 28) (v := undef) rfl (Or.inr ⟨by rfl, rfl⟩) (by assumption) ?_
      simp only [Act.put, List.setIfInBounds_toArray, List.set_cons_zero, List.set_cons_succ]
      refine tkp 14 (some 29) (v := undef) rfl (Or.inr ⟨by rfl, rfl⟩) (by assumption) ?_
      simp only [Act.put, List.setIfInBounds_toArray, List.set_cons_zero, List.set_cons_succ]
      refine tkp 15 (some 30) (v := undef) rfl (Or.inr ⟨by rfl, rfl⟩) (by assumption) ?_
      simp only [Act.put, List.setIfInBounds_toArray, List.set_cons_zero, List.set_cons_succ]
      refine tkp 16 (some 31) (v := undef) rfl (Or.inr ⟨by rfl, rfl⟩) (by assumption) ?_
      simp only [Act.put, List.setIfInBounds_toArray, List.set_cons_zero, List.set_cons_succ]
      refine tkp 17 (some 32) (v := undef) rfl (Or.inr ⟨by rfl, rfl⟩) (by assumption) ?_
      simp only [Act.put, List.setIfInBounds_toArray, List.set_cons_zero, List.set_cons_succ]
      refine tkp 18 (some 33) (v := ?_) rfl (Or.inl ⟨by rfl, ?_⟩) (by assumption) ?_
      rotate_left
      · intro w hSw; (try dsimp only at hSw); go_simp; first | done | (with_reducible rfl)
      simp only [Act.put, List.setIfInBounds_toArray, List.set_cons_zero, List.set_cons_succ]
      refine tkp 19 (some 34) (v := ?_) rfl (Or.inl ⟨by rfl, ?_⟩) (by assumption) ?_
      rotate_left
      · intro w hSw; (try dsimp only at hSw); go_simp; first | done | (with_reducible rfl)
      simp only [Act.put, List.setIfInBounds_toArray, List.set_cons_zero, List.set_cons_succ]
      refine tkp 20 (some 35) (v := undef) rfl (Or.inr ⟨by rfl, rfl⟩) (by assumption) ?_
      simp only [Act.put, List.setIfInBounds_toArray, List.set_cons_zero, List.set_cons_succ]
      refine tkp 21 (some 36) (v := undef) rfl (Or.inr ⟨by rfl, rfl⟩) (by assumption) ?_
      simp only [Act.put, List.setIfInBounds_toArray, List.set_cons_zero, List.set_cons_succ]
      refine tkp 22 (some 37) (v := undef) rfl (Or.inr ⟨by rfl, rfl⟩) (by assumption) ?_
      simp only [Act.put, List.setIfInBounds_toArray, List.set_cons_zero, List.set_cons_succ]
      refine tkp 23 (some 38) (v := undef) rfl (Or.inr ⟨by rfl, rfl⟩) (by assumption) ?_
      simp only [Act.put, List.setIfInBounds_toArray, List.set_cons_zero, List.set_cons_succ]
      refine tkp 24 (some 39) (v := undef) rfl (Or.inr ⟨by rfl, rfl⟩) (by assumption) ?_
      simp only [Act.put, List.setIfInBounds_toArray, List.set_cons_zero, List.set_cons_succ]
      refine tkp 25 (some 40) (v := ?_) rfl (Or.inl ⟨by rfl, ?_⟩) (by assumption) ?_
      rotate_left
      · intro w hSw; (try dsimp only at hSw); go_simp; first | done | (with_reducible rfl)
      simp only [Act.put, List.setIfInBounds_toArray, List.set_cons_zero, List.set_cons_succ]
      refine tkp 26 (some 41) (v := ?_) rfl (Or.inl ⟨by rfl, ?_⟩) (by assumption) ?_
      rotate_left
      · intro w hSw; (try dsimp only at hSw); go_simp; first | done | (with_reducible rfl)
      simp only [Act.put, List.setIfInBounds_toArray, List.set_cons_zero, List.set_cons_succ]
      refine tkp 27 (some 42) (v := undef) rfl (Or.inr ⟨by rfl, rfl⟩) (by assumption) ?_
      simp only [Act.put, List.setIfInBounds_toArray, List.set_cons_zero, List.set_cons_succ]
      refine tkp 28 (some 43) (v := undef) rfl (Or.inr ⟨by rfl, rfl⟩) (by assumption) ?_
      simp only [Act.put, List.setIfInBounds_toArray, List.set_cons_zero, List.set_cons_succ]
      refine tkp 29 (some 44) (v := undef) rfl (Or.inr ⟨by rfl, rfl⟩) (by assumption) ?_
      simp only [Act.put, List.setIfInBounds_toArray, List.set_cons_zero, List.set_cons_succ]
      refine tkp 30 (some 45) (v := undef) rfl (Or.inr ⟨by rfl, rfl⟩) (by assumption) ?_
      simp only [Act.put, List.setIfInBounds_toArray, List.set_cons_zero, List.set_cons_succ]
      refine tkp 31 (some 46) (v := undef) rfl (Or.inr ⟨by rfl, rfl⟩) (by assumption) ?_
      simp only [Act.put, List.setIfInBounds_toArray, List.set_cons_zero, List.set_cons_succ]
      refine tkp 32 (some 47) (v := ?_) rfl (Or.inl ⟨by rfl, ?_⟩) (by assumption) ?_
      rotate_left
      · intro w hSw; (try dsimp only at hSw); go_simp; first | done | (with_reducible rfl)
      simp only [Act.put, List.setIfInBounds_toArray, List.set_cons_zero, List.set_cons_succ]
      refine tkp 33 (some 48) (v := ?_) rfl (Or.inl ⟨by rfl, ?_⟩) (by assumption) ?_
      rotate_left
      · intro w hSw; (try dsimp only at hSw); go_simp; first | done | (with_reducible rfl)
      simp only [Act.put, List.setIfInBounds_toArray, List.set_cons_zero, List.set_cons_succ]
      refine tkp 34 (some 49) (v := undef) rfl (Or.inr ⟨by rfl, rfl⟩) (by assumption) ?_
      simp only [Act.put, List.setIfInBounds_toArray, List.set_cons_zero, List.set_cons_succ]
      refine tkp 35 (some 50) (v := undef) rfl (Or.inr ⟨by rfl, rfl⟩) (by assumption) ?_
      simp only [Act.put, List.setIfInBounds_toArray, List.set_cons_zero, List.set_cons_succ]
      refine tkp 36 (some 51) (v := undef) rfl (Or.inr ⟨by rfl, rfl⟩) (by assumption) ?_
      simp only [Act.put, List.setIfInBounds_toArray, List.set_cons_zero, List.set_cons_succ]
      refine tkp 37 (some 52) (v := undef) rfl (Or.inr ⟨by rfl, rfl⟩) (by assumption) ?_
      simp only [Act.put, List.setIfInBounds_toArray, List.set_cons_zero, List.set_cons_succ]
      refine tkp 38 (some 53) (v := undef) rfl (Or.inr ⟨by rfl, rfl⟩) (by assumption) ?_
      simp only [Act.put, List.setIfInBounds_toArray, List.set_cons_zero, List.set_cons_succ]
      refine tkp 39 (some 54) (v := ?_) rfl (Or.inl ⟨by rfl, ?_⟩) (by assumption) ?_
      rotate_left
      · intro w hSw; (try dsimp only at hSw); go_simp; first | done | (with_reducible rfl)
      simp only [Act.put, List.setIfInBounds_toArray, List.set_cons_zero, List.set_cons_succ]
      refine tkp 40 (some 4) (v := ?_) rfl (Or.inl ⟨by rfl, ?_⟩) (by assumption) ?_
      rotate_left
      · intro w hSw; (try dsimp only at hSw); go_simp; first | done | (with_reducible rfl)
      simp only [Act.put, List.setIfInBounds_toArray, List.set_cons_zero, List.set_cons_succ]
      refine wpAnyH_done (by kernel_rfl) ?_ _
      go_wp2_with fail
      go_ret
      exact ⟨by simp [ef], hB5⟩
  · have nk : (ka == kb) = false := by simpa using ek
    refine wp_region_held_drew (S := (fun w' => (w'.cell? ⟨w.heap.size, 0, none⟩ = some (.int .i64 ka) ∧ w'.cell? ⟨w.heap.size, 4, none⟩ = some (.bool fa) ∧ w'.cell? ⟨w.heap.size, 3, none⟩ = some (.slice dA dn dc) ∧ w'.cell? ⟨w.heap.size, 10, none⟩ = some (.slice rA rn rc) ∧ w'.rangeAt w.heap.size 11 [.int .u8 a0, .int .u8 a1, .int .u8 a2, .int .u8 a3, .int .u8 a4, .int .u8 a5, .int .u8 a6, .int .u8 a7] ∧ w'.rangeAt w.heap.size 0 La) ∧ (w'.cell? ⟨(w.heap.size + 1), 0, none⟩ = some (.int .i64 kb) ∧ w'.cell? ⟨(w.heap.size + 1), 4, none⟩ = some (.bool fb) ∧ w'.cell? ⟨(w.heap.size + 1), 3, none⟩ = some (.slice eA en ec) ∧ w'.cell? ⟨(w.heap.size + 1), 10, none⟩ = some (.slice tA tn tc) ∧ w'.rangeAt (w.heap.size + 1) 11 [.int .u8 b0, .int .u8 b1, .int .u8 b2, .int .u8 b3, .int .u8 b4, .int .u8 b5, .int .u8 b6, .int .u8 b7] ∧ w'.rangeAt (w.heap.size + 1) 0 Lb))) (by kernel_rfl) (⟨HSA.out _ _ hP5, HSB.out _ _ hQ5⟩) (fun hHeld => ?_)
    refine tkp 0 (some 15) (v := ?_) rfl (Or.inl ⟨by rfl, ?_⟩) (by assumption) ?_
    rotate_left
    · intro w hSw; (try dsimp only at hSw); go_simp; first | done | (with_reducible rfl)
    simp only [Act.put, List.setIfInBounds_toArray, List.set_cons_zero, List.set_cons_succ]
    refine tkp 1 (some 16) (v := ?_) rfl (Or.inl ⟨by rfl, ?_⟩) (by assumption) ?_
    rotate_left
    · intro w hSw; (try dsimp only at hSw); go_simp; first | done | (with_reducible rfl)
    simp only [Act.put, List.setIfInBounds_toArray, List.set_cons_zero, List.set_cons_succ]
    refine tkp 2 (some 17) (v := ?_) rfl (Or.inl ⟨by rfl, ?_⟩) (by assumption) ?_
    rotate_left
    · intro w hSw; (try dsimp only at hSw); go_simp; first | done | (with_reducible rfl)
    simp only [Act.put, List.setIfInBounds_toArray, List.set_cons_zero, List.set_cons_succ]
    refine tkp 3 (some 18) (v := ?_) rfl (Or.inl ⟨by rfl, ?_⟩) (by assumption) ?_
    rotate_left
    · intro w hSw; (try dsimp only at hSw); go_simp; first | done | (with_reducible rfl)
    simp only [Act.put, List.setIfInBounds_toArray, List.set_cons_zero, List.set_cons_succ]
    refine tkp 4 (some 19) (v := ?_) rfl (Or.inl ⟨by rfl, ?_⟩) (by assumption) ?_
    rotate_left
    · intro w hSw; (try dsimp only at hSw); go_simp; first | done | (with_reducible rfl)
    simp only [Act.put, List.setIfInBounds_toArray, List.set_cons_zero, List.set_cons_succ]
    refine tkp 5 (some 20) (v := ?_) rfl (Or.inl ⟨by rfl, ?_⟩) (by assumption) ?_
    rotate_left
    · intro w hSw; (try dsimp only at hSw); go_simp; first | done | (with_reducible rfl)
    simp only [Act.put, List.setIfInBounds_toArray, List.set_cons_zero, List.set_cons_succ]
    refine tkp 6 (some 21) (v := undef) rfl (Or.inr ⟨by rfl, rfl⟩) (by assumption) ?_
    simp only [Act.put, List.setIfInBounds_toArray, List.set_cons_zero, List.set_cons_succ]
    refine tkp 7 (some 22) (v := undef) rfl (Or.inr ⟨by rfl, rfl⟩) (by assumption) ?_
    simp only [Act.put, List.setIfInBounds_toArray, List.set_cons_zero, List.set_cons_succ]
    refine tkp 8 (some 23) (v := undef) rfl (Or.inr ⟨by rfl, rfl⟩) (by assumption) ?_
    simp only [Act.put, List.setIfInBounds_toArray, List.set_cons_zero, List.set_cons_succ]
    refine tkp 9 (some 24) (v := undef) rfl (Or.inr ⟨by rfl, rfl⟩) (by assumption) ?_
    simp only [Act.put, List.setIfInBounds_toArray, List.set_cons_zero, List.set_cons_succ]
    refine tkp 10 (some 25) (v := undef) rfl (Or.inr ⟨by rfl, rfl⟩) (by assumption) ?_
    simp only [Act.put, List.setIfInBounds_toArray, List.set_cons_zero, List.set_cons_succ]
    refine tkp 11 (some 26) (v := ?_) rfl (Or.inl ⟨by rfl, ?_⟩) (by assumption) ?_
    rotate_left
    · intro w hSw; (try dsimp only at hSw); go_simp; first | done | (with_reducible rfl)
    simp only [Act.put, List.setIfInBounds_toArray, List.set_cons_zero, List.set_cons_succ]
    refine tkp 12 (some 27) (v := ?_) rfl (Or.inl ⟨by rfl, ?_⟩) (by assumption) ?_
    rotate_left
    · intro w hSw; (try dsimp only at hSw); go_simp; first | done | (with_reducible rfl)
    simp only [Act.put, List.setIfInBounds_toArray, List.set_cons_zero, List.set_cons_succ]
    refine tkp 13 (some 28) (v := undef) rfl (Or.inr ⟨by rfl, rfl⟩) (by assumption) ?_
    simp only [Act.put, List.setIfInBounds_toArray, List.set_cons_zero, List.set_cons_succ]
    refine tkp 14 (some 29) (v := undef) rfl (Or.inr ⟨by rfl, rfl⟩) (by assumption) ?_
    simp only [Act.put, List.setIfInBounds_toArray, List.set_cons_zero, List.set_cons_succ]
    refine tkp 15 (some 30) (v := undef) rfl (Or.inr ⟨by rfl, rfl⟩) (by assumption) ?_
    simp only [Act.put, List.setIfInBounds_toArray, List.set_cons_zero, List.set_cons_succ]
    refine tkp 16 (some 31) (v := undef) rfl (Or.inr ⟨by rfl, rfl⟩) (by assumption) ?_
    simp only [Act.put, List.setIfInBounds_toArray, List.set_cons_zero, List.set_cons_succ]
    refine tkp 17 (some 32) (v := undef) rfl (Or.inr ⟨by rfl, rfl⟩) (by assumption) ?_
    simp only [Act.put, List.setIfInBounds_toArray, List.set_cons_zero, List.set_cons_succ]
    refine tkp 18 (some 33) (v := ?_) rfl (Or.inl ⟨by rfl, ?_⟩) (by assumption) ?_
    rotate_left
    · intro w hSw; (try dsimp only at hSw); go_simp; first | done | (with_reducible rfl)
    simp only [Act.put, List.setIfInBounds_toArray, List.set_cons_zero, List.set_cons_succ]
    refine tkp 19 (some 34) (v := ?_) rfl (Or.inl ⟨by rfl, ?_⟩) (by assumption) ?_
    rotate_left
    · intro w hSw; (try dsimp only at hSw); go_simp; first | done | (with_reducible rfl)
    simp only [Act.put, List.setIfInBounds_toArray, List.set_cons_zero, List.set_cons_succ]
    refine tkp 20 (some 35) (v := undef) rfl (Or.inr ⟨by rfl, rfl⟩) (by assumption) ?_
    simp only [Act.put, List.setIfInBounds_toArray, List.set_cons_zero, List.set_cons_succ]
    refine tkp 21 (some 36) (v := undef) rfl (Or.inr ⟨by rfl, rfl⟩) (by assumption) ?_
    simp only [Act.put, List.setIfInBounds_toArray, List.set_cons_zero, List.set_cons_succ]
    refine tkp 22 (some 37) (v := undef) rfl (Or.inr ⟨by rfl, rfl⟩) (by assumption) ?_
    simp only [Act.put, List.setIfInBounds_toArray, List.set_cons_zero, List.set_cons_succ]
    refine tkp 23 (some 38) (v := undef) rfl (Or.inr ⟨by rfl, rfl⟩) (by assumption) ?_
    simp only [Act.put, List.setIfInBounds_toArray, List.set_cons_zero, List.set_cons_succ]
    refine tkp 24 (some 39) (v := undef) rfl (Or.inr ⟨by rfl, rfl⟩) (by assumption) ?_
    simp only [Act.put, List.setIfInBounds_toArray, List.set_cons_zero, List.set_cons_succ]
    refine tkp 25 (some 40) (v := ?_) rfl (Or.inl ⟨by rfl, ?_⟩) (by assumption) ?_
    rotate_left
    · intro w hSw; (try dsimp only at hSw); go_simp; first | done | (with_reducible rfl)
    simp only [Act.put, List.setIfInBounds_toArray, List.set_cons_zero, List.set_cons_succ]
    refine tkp 26 (some 41) (v := ?_) rfl (Or.inl ⟨by rfl, ?_⟩) (by assumption) ?_
    rotate_left
    · intro w hSw; (try dsimp only at hSw); go_simp; first | done | (with_reducible rfl)
    simp only [Act.put, List.setIfInBounds_toArray, List.set_cons_zero, List.set_cons_succ]
    refine tkp 27 (some 42) (v := undef) rfl (Or.inr ⟨by rfl, rfl⟩) (by assumption) ?_
    simp only [Act.put, List.setIfInBounds_toArray, List.set_cons_zero, List.set_cons_succ]
    refine tkp 28 (some 43) (v := undef) rfl (Or.inr ⟨by rfl, rfl⟩) (by assumption) ?_
    simp only [Act.put, List.setIfInBounds_toArray, List.set_cons_zero, List.set_cons_succ]
    refine tkp 29 (some 44) (v := undef) rfl (Or.inr ⟨by rfl, rfl⟩) (by assumption) ?_
    simp only [Act.put, List.setIfInBounds_toArray, List.set_cons_zero, List.set_cons_succ]
    refine tkp 30 (some 45) (v := undef) rfl (Or.inr ⟨by rfl, rfl⟩) (by assumption) ?_
    simp only [Act.put, List.setIfInBounds_toArray, List.set_cons_zero, List.set_cons_succ]
    refine tkp 31 (some 46) (v := undef) rfl (Or.inr ⟨by rfl, rfl⟩) (by assumption) ?_
    simp only [Act.put, List.setIfInBounds_toArray, List.set_cons_zero, List.set_cons_succ]
    refine tkp 32 (some 47) (v := ?_) rfl (Or.inl ⟨by rfl, ?_⟩) (by assumption) ?_
    rotate_left
    · intro w hSw; (try dsimp only at hSw); go_simp; first | done | (with_reducible rfl)
    simp only [Act.put, List.setIfInBounds_toArray, List.set_cons_zero, List.set_cons_succ]
    refine tkp 33 (some 48) (v := ?_) rfl (Or.inl ⟨by rfl, ?_⟩) (by assumption) ?_
    rotate_left
    · intro w hSw; (try dsimp only at hSw); go_simp; first | done | (with_reducible rfl)
    simp only [Act.put, List.setIfInBounds_toArray, List.set_cons_zero, List.set_cons_succ]
    refine tkp 34 (some 49) (v := undef) rfl (Or.inr ⟨by rfl, rfl⟩) (by assumption) ?_
    simp only [Act.put, List.setIfInBounds_toArray, List.set_cons_zero, List.set_cons_succ]
    refine tkp 35 (some 50) (v := undef) rfl (Or.inr ⟨by rfl, rfl⟩) (by assumption) ?_
    simp only [Act.put, List.setIfInBounds_toArray, List.set_cons_zero, List.set_cons_succ]
    refine tkp 36 (some 51) (v := undef) rfl (Or.inr ⟨by rfl, rfl⟩) (by assumption) ?_
    simp only [Act.put, List.setIfInBounds_toArray, List.set_cons_zero, List.set_cons_succ]
    refine tkp 37 (some 52) (v := undef) rfl (Or.inr ⟨by rfl, rfl⟩) (by assumption) ?_
    simp only [Act.put, List.setIfInBounds_toArray, List.set_cons_zero, List.set_cons_succ]
    refine tkp 38 (some 53) (v := undef) rfl (Or.inr ⟨by rfl, rfl⟩) (by assumption) ?_
    simp only [Act.put, List.setIfInBounds_toArray, List.set_cons_zero, List.set_cons_succ]
    refine tkp 39 (some 54) (v := ?_) rfl (Or.inl ⟨by rfl, ?_⟩) (by assumption) ?_
    rotate_left
    · intro w hSw; (try dsimp only at hSw); go_simp; first | done | (with_reducible rfl)
    simp only [Act.put, List.setIfInBounds_toArray, List.set_cons_zero, List.set_cons_succ]
    refine tkp 40 (some 4) (v := ?_) rfl (Or.inl ⟨by rfl, ?_⟩) (by assumption) ?_
    rotate_left
    · intro w hSw; (try dsimp only at hSw); go_simp; first | done | (with_reducible rfl)
    simp only [Act.put, List.setIfInBounds_toArray, List.set_cons_zero, List.set_cons_succ]
    refine wpAnyH_done (by kernel_rfl) ?_ _
    go_wp2_with fail
    go_ret
    exact ⟨by simp [ek], hB5⟩
end Go.Proofs.Ytkahndjflhgccaa
