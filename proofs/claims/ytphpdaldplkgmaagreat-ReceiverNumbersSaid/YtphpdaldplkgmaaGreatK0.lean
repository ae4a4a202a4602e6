/-
  Chapter 17's law: do.
-/
import Derived.Test.YtphpdaldplkgmaaGreatMq22
namespace Go.Proofs.YtphpdaldplkgmaaGreat
set_option linter.unusedVariables false
set_option linter.unusedSimpArgs false
open Go.RowKit
/-- The cells of a call. -/
def aL (kd off most i : Int) (n : Nat) (fin : Bool) (A : Option Addr) (m c : Nat) (T : List Value) : List Value := [.int .i64 kd, .int .i64 off, .int .i64 most, .int .i64 i, .int .u64 n, .bool fin, .slice A m c] ++ T
section
variable {wb W0 W W' Y : World} {base p q pw k : Nat} {O F : Nat → Prop} {L : List FN} {X X1 X2 X' : QS} {off most i : Int} {n m c : Nat} {fin : Bool} {A : Option Addr} {T : List Value}
/-- Blocks below base stay beside. -/
theorem Lz.wide {F' : Nat → Prop} (h : Lz wb W0 W base p q pw O F L X1 X2) (k : Below W.heap.size W W') (hF : ∀ b, F' b → b < base ∨ (W.heap.size ≤ b ∧ b < W'.heap.size)) : Lz wb W0 W' base p q pw O F' L X1 X2 := by
  obtain ⟨O1, O2, tv, h1, h2, h3, h4, h5⟩ := h.below k
  obtain ⟨P1, P2, tv', g1, g2, g3, g4, g5⟩ := h
  refine ⟨P1, P2, tv', g1.below k, h2, g3, fun b hb => ?_, h5⟩
  rcases hF b hb with h' | ⟨h', h''⟩
  · refine ⟨fun e => by have := (g1.lt b e).1; omega, ?_⟩
    have := g1.bp
    have := g1.at_.lt
    have := k.size
    omega
  · exact ⟨fun e => by have := (g1.lt b e).2; omega, h''⟩
/-- Before the call: the world W1 with the call in a block g. -/
theorem do_box17 (h : Lz wb W W base p q pw O (fun _ => False) L X X) (kd : Int) : ∃ (g : Nat) (W1 : World), W.heap.size = g ∧ W.alloc (.cells (aL kd off most i n fin A m c T).toArray 36) = W1 ∧ At W1 g 36 (aL kd off most i n fin A m c T) ∧ Below W.heap.size W W1 ∧ g < W1.heap.size ∧ Lz wb W W1 base p q pw O (fun b => b = g ∨ b < base) L X X := by
  have hB : Below W.heap.size W (W.alloc (.cells (aL kd off most i n fin A m c T).toArray 36)) := (Below.refl _ _).alloc (Nat.le_refl _) _
  have hA := At.new W 36 (aL kd off most i n fin A m c T)
  exact ⟨_, _, rfl, rfl, hA, hB, hA.lt, h.wide hB fun b hb => hb.elim (fun e => .inr ⟨by omega, by rw [e]; exact hA.lt⟩) fun e => .inl e⟩
set_option maxRecDepth 100000 in
set_option maxHeartbeats 16000000 in
theorem do_stop17 (h : Lz wb W W base p q pw O (fun _ => False) L X X) (hi : XI k X) (hl : L.length ≤ k) (hk : k < 1000) : Calls Tryz.prog 7 #[.pointer (some ⟨pw, 0, none⟩), .agg (aL 6 off most i n fin A m c T).toArray] W fun e w' => e = .returned (.bool true) ∧ DoQ wb W base p q pw k O w' := by
  obtain ⟨g, W1, hg, hW1, hA1, hB1, hgl, h1⟩ := do_box17 (off := off) (most := most) (i := i) (n := n) (fin := fin) (A := A) (m := m) (c := c) (T := T) h 6
  obtain ⟨Y, hY⟩ : ∃ Y, W1.drew = Y := ⟨_, rfl⟩
  have hBY : Below W1.heap.size W1 Y := by rw [← hY]; exact belowN (Below.refl _ _) 1
  have h1Y := h1.below hBY
  have hAY := hA1.below hBY hgl
  have a0 : W1.cell? ⟨g, 0, none⟩ = some (.int .i64 6) := by rw [hA1.cell]; rfl
  have HSS : Hid (∀ w, Kept (fun b => ¬ (b = g ∨ b < base)) Y w → ∀ X3 X4, Lz wb W w base p q pw O (fun b => b = g ∨ b < base) L X3 X4 → w.cell? ⟨pw, 0, none⟩ = some (.pointer (some ⟨p, 0, none⟩)) ∧ w.cell? ⟨pw, 1, none⟩ = some (.pointer (some ⟨q, 0, none⟩)) ∧ w.cell? ⟨g, 4, none⟩ = some (.int .u64 n)) := Lib.hid (fun w hk X3 X4 hz => by
    have hA := hAY.kept hk (fun hn => hn (.inl rfl))
    exact ⟨hz.p0, hz.p1, by rw [hA.cell]; rfl⟩)
  have HS0 := Lib.hid (HSS.out Y (Kept.refl _ _) _ _ h1Y)
  have H1 := Lib.hid (two_halt h1Y hi n)
  have HOK := Lib.hid (hi.halt n).ok
  have HD : Hid (∀ w4, Lz wb W w4 base p q pw O (fun b => b = g ∨ b < base) L (haltX X n) (haltX X n) → DoQ wb W base p q pw k O w4) := Lib.hid (fun w4 hz => hz.done (hi.halt n) (by omega))
  clear h hi hl hk h1 h1Y hA1 hAY hB1 hBY
  generalize haltE X n = x at H1
  generalize haltX X n = X5 at H1 HOK HD
  have hxx : (x != x) = false := by simp
  unfold aL at hW1 ⊢
  simp only [List.cons_append, List.nil_append] at hW1 ⊢
  go_enter Tryz.func7, Tryz.ntmps7
  go_upto_region 1 with fail
  (try rw [hg])
  (try rw [hW1])
  go_upto_region 12 with fail
  refine wp_region_held_drew (S := (fun w => w.cell? ⟨pw, 0, none⟩ = some (.pointer (some ⟨p, 0, none⟩)) ∧ w.cell? ⟨pw, 1, none⟩ = some (.pointer (some ⟨q, 0, none⟩)) ∧ w.cell? ⟨g, 4, none⟩ = some (.int .u64 n))) (by kernel_rfl) (by rw [hY]; exact HS0.out) (fun hHeld => ?_)
  rw [hY] at hHeld ⊢
  clear hY
  refine tkq 0 (some 107) (v := ?_) rfl (Or.inl ⟨by rfl, ?_⟩) (by assumption) ?_
  rotate_left
  · intro w hSw; (try dsimp only at hSw); go_simp; first | done | (with_reducible rfl)
  simp only [Act.put, List.setIfInBounds_toArray, List.set_cons_zero, List.set_cons_succ]
  refine tkq 1 (some 108) (v := ?_) rfl (Or.inl ⟨by rfl, ?_⟩) (by assumption) ?_
  rotate_left
  · intro w hSw; (try dsimp only at hSw); go_simp; first | done | (with_reducible rfl)
  simp only [Act.put, List.setIfInBounds_toArray, List.set_cons_zero, List.set_cons_succ]
  refine tkq 2 (some 109) (v := ?_) rfl (Or.inl ⟨by rfl, ?_⟩) (by assumption) ?_
  rotate_left
  · intro w hSw; (try dsimp only at hSw); go_simp; first | done | (with_reducible rfl)
  simp only [Act.put, List.setIfInBounds_toArray, List.set_cons_zero, List.set_cons_succ]
  refine tkq 3 (some 110) (v := ?_) rfl (Or.inl ⟨by rfl, ?_⟩) (by assumption) ?_
  rotate_left
  · intro w hSw; (try dsimp only at hSw); go_simp; first | done | (with_reducible rfl)
  simp only [Act.put, List.setIfInBounds_toArray, List.set_cons_zero, List.set_cons_succ]
  refine tkq 4 (some 111) (v := ?_) rfl (Or.inl ⟨by rfl, ?_⟩) (by assumption) ?_
  rotate_left
  · intro w hSw; (try dsimp only at hSw); go_simp; first | done | (with_reducible rfl)
  simp only [Act.put, List.setIfInBounds_toArray, List.set_cons_zero, List.set_cons_succ]
  refine tkq 5 (some 112) (v := ?_) rfl (Or.inl ⟨by rfl, ?_⟩) (by assumption) ?_
  rotate_left
  · intro w hSw; (try dsimp only at hSw); go_simp; first | done | (with_reducible rfl)
  simp only [Act.put, List.setIfInBounds_toArray, List.set_cons_zero, List.set_cons_succ]
  refine tkq 7 (some 114) (v := ?_) rfl (Or.inl ⟨by rfl, ?_⟩) (by assumption) ?_
  rotate_left
  · intro w hSw; (try dsimp only at hSw); go_simp; first | done | (with_reducible rfl)
  simp only [Act.put, List.setIfInBounds_toArray, List.set_cons_zero, List.set_cons_succ]
  refine tkq 8 (some 115) (v := ?_) rfl (Or.inl ⟨by rfl, ?_⟩) (by assumption) ?_
  rotate_left
  · intro w hSw; (try dsimp only at hSw); go_simp; first | done | (with_reducible rfl)
  simp only [Act.put, List.setIfInBounds_toArray, List.set_cons_zero, List.set_cons_succ]
  refine tkq 9 (some 116) (v := ?_) rfl (Or.inl ⟨by rfl, ?_⟩) (by assumption) ?_
  rotate_left
  · intro w hSw; (try dsimp only at hSw); go_simp; first | done | (with_reducible rfl)
  simp only [Act.put, List.setIfInBounds_toArray, List.set_cons_zero, List.set_cons_succ]
  refine tkq 10 (some 117) (v := ?_) rfl (Or.inl ⟨by rfl, ?_⟩) (by assumption) ?_
  rotate_left
  · intro w hSw; (try dsimp only at hSw); go_simp; first | done | (with_reducible rfl)
  simp only [Act.put, List.setIfInBounds_toArray, List.set_cons_zero, List.set_cons_succ]
  refine tkq 11 (some 118) (v := ?_) rfl (Or.inl ⟨by rfl, ?_⟩) (by assumption) ?_
  rotate_left
  · intro w hSw; (try dsimp only at hSw); go_simp; first | done | (with_reducible rfl)
  simp only [Act.put, List.setIfInBounds_toArray, List.set_cons_zero, List.set_cons_succ]
  refine tkq 12 (some 119) (v := ?_) rfl (Or.inl ⟨by rfl, ?_⟩) (by assumption) ?_
  rotate_left
  · intro w hSw; (try dsimp only at hSw); go_simp; first | done | (with_reducible rfl)
  simp only [Act.put, List.setIfInBounds_toArray, List.set_cons_zero, List.set_cons_succ]
  refine wpAnyH_ready (rs := [6]) (by kernel_rfl) (by simp) ?_
  refine AllReadyH.cons rfl (fun K hK => ?_) AllReadyH.nil
  go_simp
  go_wp2_with (go_at_call 16; (with_reducible refine (H1.out).mono ?_); rintro e w2 ⟨rfl, hl1, hn1⟩; have HL1 := Lib.hid hl1; have HN1 := Lib.hid hn1; clear hl1 hn1)
  refine hK.out _ _ (HSS.out _ HL1.out.2 _ _ HL1.out.1) (fun hHeld => ?_)
  clear hK K
  refine wpAnyH_ready (rs := [13]) (by kernel_rfl) (by simp) ?_
  refine AllReadyH.cons rfl (fun K hK => ?_) AllReadyH.nil
  go_simp
  go_wp2_with (go_at_call 17; (with_reducible refine (HN1.out _ (Below.refl _ _)).mono ?_); rintro e w3 ⟨rfl, hl2⟩; have HL2 := Lib.hid hl2; have HZ2 := Lib.hid hl2.1; clear hl2)
  refine hK.out _ _ (HSS.out _ (HL1.out.2.trans HL2.out.2) _ _ HZ2.out) (fun hHeld => ?_)
  clear hK K
  refine tkq 14 (some 121) (v := ?_) rfl (Or.inl ⟨by rfl, ?_⟩) (by assumption) ?_
  rotate_left
  · intro w hSw; (try dsimp only at hSw); go_simp; first | done | (with_reducible rfl)
  simp only [Act.put, List.setIfInBounds_toArray, List.set_cons_zero, List.set_cons_succ]
  refine wpAnyH_done (by kernel_rfl) ?_ _
  go_wp2_with (first | (go_at_call 25; (with_reducible refine (same17 HZ2.out HOK.out).mono ?_); rintro e w4 ⟨rfl, hb4⟩; have HB4 := Lib.hid hb4; clear hb4) | fail)
  go_ret
  exact ⟨by first | rfl | simp, HD.out _ (HZ2.out.below HB4.out)⟩
set_option maxRecDepth 100000 in
set_option maxHeartbeats 16000000 in
theorem do_read17_4 (h : Lz wb W W base p q pw O (fun _ => False) L X X) (hi : XI k X) (hl : L.length ≤ k) (hk : k < 1000) (hmo : -9223372036854775808 ≤ most ∧ most < 9223372036854775808) : Calls Tryz.prog 7 #[.pointer (some ⟨pw, 0, none⟩), .agg (aL 4 off most i n fin A m c T).toArray] W fun e w' => e = .returned (.bool true) ∧ DoQ wb W base p q pw k O w' := by
  obtain ⟨g, W1, hg, hW1, hA1, hB1, hgl, h1⟩ := do_box17 (off := off) (most := most) (i := i) (n := n) (fin := fin) (A := A) (m := m) (c := c) (T := T) h 4
  obtain ⟨Y, hY⟩ : ∃ Y, W1.drew = Y := ⟨_, rfl⟩
  have hBY : Below W1.heap.size W1 Y := by rw [← hY]; exact belowN (Below.refl _ _) 1
  have h1Y := h1.below hBY
  have hAY := hA1.below hBY hgl
  have a0 : W1.cell? ⟨g, 0, none⟩ = some (.int .i64 4) := by rw [hA1.cell]; rfl
  have HSS : Hid (∀ w, Kept (fun b => ¬ (b = g ∨ b < base)) Y w → ∀ X3 X4, Lz wb W w base p q pw O (fun b => b = g ∨ b < base) L X3 X4 → w.cell? ⟨pw, 0, none⟩ = some (.pointer (some ⟨p, 0, none⟩)) ∧ w.cell? ⟨pw, 1, none⟩ = some (.pointer (some ⟨q, 0, none⟩)) ∧ w.cell? ⟨g, 2, none⟩ = some (.int .i64 most)) := Lib.hid (fun w hk X3 X4 hz => by
    have hA := hAY.kept hk (fun hn => hn (.inl rfl))
    exact ⟨hz.p0, hz.p1, by rw [hA.cell]; rfl⟩)
  have HS0 := Lib.hid (HSS.out Y (Kept.refl _ _) _ _ h1Y)
  have H1 := Lib.hid (two_read h1Y hi most hmo)
  have HOK := Lib.hid (hi.read most).ok
  have HD : Hid (∀ w4, Lz wb W w4 base p q pw O (fun b => b = g ∨ b < base) L (readX X most) (readX X most) → DoQ wb W base p q pw k O w4) := Lib.hid (fun w4 hz => hz.done (hi.read most) (by omega))
  clear h hi hl hk h1 h1Y hA1 hAY hB1 hBY hmo
  obtain ⟨la, hla⟩ : ∃ la, (readQ X most).bs = la := ⟨_, rfl⟩
  obtain ⟨nn, hnn⟩ : ∃ nn, la.length = nn := ⟨_, rfl⟩
  rw [hla] at H1
  have HNN := Lib.hid hnn
  clear hla hnn
  generalize (readQ X most).fl = xf at H1
  generalize (readQ X most).cd = xc at H1
  generalize (readQ X most).er = xe at H1
  generalize readX X most = X5 at H1 HOK HD
  have hxf : (xf != xf) = false := by simp
  have hxc : ((xc : Int) != (xc : Int)) = false := by simp
  have hxe : (xe != xe) = false := by simp
  have hbb := bb_refl (strOfNums la)
  unfold aL at hW1 ⊢
  simp only [List.cons_append, List.nil_append] at hW1 ⊢
  go_enter Tryz.func7, Tryz.ntmps7
  go_upto_region 1 with fail
  (try rw [hg])
  (try rw [hW1])
  go_upto_region 7 with fail
  refine wp_region_held_drew (S := (fun w => w.cell? ⟨pw, 0, none⟩ = some (.pointer (some ⟨p, 0, none⟩)) ∧ w.cell? ⟨pw, 1, none⟩ = some (.pointer (some ⟨q, 0, none⟩)) ∧ w.cell? ⟨g, 2, none⟩ = some (.int .i64 most))) (by kernel_rfl) (by rw [hY]; exact HS0.out) (fun hHeld => ?_)
  rw [hY] at hHeld ⊢
  clear hY
  refine tkq 0 (some 62) (v := ?_) rfl (Or.inl ⟨by rfl, ?_⟩) (by assumption) ?_
  rotate_left
  · intro w hSw; (try dsimp only at hSw); go_simp; first | done | (with_reducible rfl)
  simp only [Act.put, List.setIfInBounds_toArray, List.set_cons_zero, List.set_cons_succ]
  refine tkq 1 (some 63) (v := ?_) rfl (Or.inl ⟨by rfl, ?_⟩) (by assumption) ?_
  rotate_left
  · intro w hSw; (try dsimp only at hSw); go_simp; first | done | (with_reducible rfl)
  simp only [Act.put, List.setIfInBounds_toArray, List.set_cons_zero, List.set_cons_succ]
  refine tkq 2 (some 64) (v := ?_) rfl (Or.inl ⟨by rfl, ?_⟩) (by assumption) ?_
  rotate_left
  · intro w hSw; (try dsimp only at hSw); go_simp; first | done | (with_reducible rfl)
  simp only [Act.put, List.setIfInBounds_toArray, List.set_cons_zero, List.set_cons_succ]
  refine tkq 3 (some 65) (v := ?_) rfl (Or.inl ⟨by rfl, ?_⟩) (by assumption) ?_
  rotate_left
  · intro w hSw; (try dsimp only at hSw); go_simp; first | done | (with_reducible rfl)
  simp only [Act.put, List.setIfInBounds_toArray, List.set_cons_zero, List.set_cons_succ]
  refine tkq 4 (some 66) (v := ?_) rfl (Or.inl ⟨by rfl, ?_⟩) (by assumption) ?_
  rotate_left
  · intro w hSw; (try dsimp only at hSw); go_simp; first | done | (with_reducible rfl)
  simp only [Act.put, List.setIfInBounds_toArray, List.set_cons_zero, List.set_cons_succ]
  refine tkq 5 (some 67) (v := ?_) rfl (Or.inl ⟨by rfl, ?_⟩) (by assumption) ?_
  rotate_left
  · intro w hSw; (try dsimp only at hSw); go_simp; first | done | (with_reducible rfl)
  simp only [Act.put, List.setIfInBounds_toArray, List.set_cons_zero, List.set_cons_succ]
  refine wpAnyH_ready (rs := [6]) (by kernel_rfl) (by simp) ?_
  refine AllReadyH.cons rfl (fun K hK => ?_) AllReadyH.nil
  go_simp
  go_wp2_with (go_at_call 14; (with_reducible refine (H1.out).mono ?_); rintro e w2 ⟨v1, rfl, hv1, hl1, hn1⟩; have HV1 := Lib.hid hv1; have HL1 := Lib.hid hl1; have HN1 := Lib.hid hn1; clear hl1 hn1 hv1)
  refine hK.out _ _ (HSS.out _ HL1.out.2 _ _ HL1.out.1) (fun hHeld => ?_)
  clear hK K
  refine tkq 7 (some 61) (v := ?_) rfl (Or.inl ⟨by rfl, ?_⟩) (by assumption) ?_
  rotate_left
  · intro w hSw; (try dsimp only at hSw); go_simp; first | done | (with_reducible rfl)
  simp only [Act.put, List.setIfInBounds_toArray, List.set_cons_zero, List.set_cons_succ]
  refine tkq 8 (some 69) (v := ?_) rfl (Or.inl ⟨by rfl, ?_⟩) (by assumption) ?_
  rotate_left
  · intro w hSw; (try dsimp only at hSw); go_simp; first | done | (with_reducible rfl)
  simp only [Act.put, List.setIfInBounds_toArray, List.set_cons_zero, List.set_cons_succ]
  refine tkq 9 (some 70) (v := ?_) rfl (Or.inl ⟨by rfl, ?_⟩) (by assumption) ?_
  rotate_left
  · intro w hSw; (try dsimp only at hSw); go_simp; first | done | (with_reducible rfl)
  simp only [Act.put, List.setIfInBounds_toArray, List.set_cons_zero, List.set_cons_succ]
  refine tkq 10 (some 71) (v := ?_) rfl (Or.inl ⟨by rfl, ?_⟩) (by assumption) ?_
  rotate_left
  · intro w hSw; (try dsimp only at hSw); go_simp; first | done | (with_reducible rfl)
  simp only [Act.put, List.setIfInBounds_toArray, List.set_cons_zero, List.set_cons_succ]
  refine tkq 11 (some 72) (v := ?_) rfl (Or.inl ⟨by rfl, ?_⟩) (by assumption) ?_
  rotate_left
  · intro w hSw; (try dsimp only at hSw); go_simp; first | done | (with_reducible rfl)
  simp only [Act.put, List.setIfInBounds_toArray, List.set_cons_zero, List.set_cons_succ]
  refine tkq 12 (some 5) (v := ?_) rfl (Or.inl ⟨by rfl, ?_⟩) (by assumption) ?_
  rotate_left
  · intro w hSw; (try dsimp only at hSw); go_simp; first | done | (with_reducible rfl)
  simp only [Act.put, List.setIfInBounds_toArray, List.set_cons_zero, List.set_cons_succ]
  refine tkq 13 (some 6) (v := ?_) rfl (Or.inl ⟨by rfl, ?_⟩) (by assumption) ?_
  rotate_left
  · intro w hSw; (try dsimp only at hSw); go_simp; first | done | (with_reducible rfl)
  simp only [Act.put, List.setIfInBounds_toArray, List.set_cons_zero, List.set_cons_succ]
  refine tkq 14 (some 7) (v := ?_) rfl (Or.inl ⟨by rfl, ?_⟩) (by assumption) ?_
  rotate_left
  · intro w hSw; (try dsimp only at hSw); go_simp; first | done | (with_reducible rfl)
  simp only [Act.put, List.setIfInBounds_toArray, List.set_cons_zero, List.set_cons_succ]
  refine tkq 15 (some 8) (v := ?_) rfl (Or.inl ⟨by rfl, ?_⟩) (by assumption) ?_
  rotate_left
  · intro w hSw; (try dsimp only at hSw); go_simp; first | done | (with_reducible rfl)
  simp only [Act.put, List.setIfInBounds_toArray, List.set_cons_zero, List.set_cons_succ]
  refine wpAnyH_done (by kernel_rfl) ?_ _
  obtain ⟨Y2, hY2⟩ : ∃ Y2, w2.drew = Y2 := ⟨_, rfl⟩
  have hB2 : Hid (Below w2.heap.size w2 Y2) := Lib.hid (by rw [← hY2]; exact belowN (Below.refl _ _) 1)
  have HK2 : Hid (Kept (fun b => ¬ (b = g ∨ b < base)) Y Y2) := Lib.hid (HL1.out.2.trans (Kept.of_below hB2.out _))
  have HS2 := Lib.hid (HSS.out Y2 HK2.out _ _ (HL1.out.1.below hB2.out))
  clear HV1 HL1 H1 HS0
  go_upto_region 8 with fail
  refine wp_region_held_drew (S := (fun w => w.cell? ⟨pw, 0, none⟩ = some (.pointer (some ⟨p, 0, none⟩)) ∧ w.cell? ⟨pw, 1, none⟩ = some (.pointer (some ⟨q, 0, none⟩)) ∧ w.cell? ⟨g, 2, none⟩ = some (.int .i64 most))) (by kernel_rfl) (by rw [hY2]; exact HS2.out) (fun hHeld => ?_)
  rw [hY2] at hHeld ⊢
  clear hY2
  refine tkq 0 (some 74) (v := ?_) rfl (Or.inl ⟨by rfl, ?_⟩) (by assumption) ?_
  rotate_left
  · intro w hSw; (try dsimp only at hSw); go_simp; first | done | (with_reducible rfl)
  simp only [Act.put, List.setIfInBounds_toArray, List.set_cons_zero, List.set_cons_succ]
  refine tkq 1 (some 75) (v := ?_) rfl (Or.inl ⟨by rfl, ?_⟩) (by assumption) ?_
  rotate_left
  · intro w hSw; (try dsimp only at hSw); go_simp; first | done | (with_reducible rfl)
  simp only [Act.put, List.setIfInBounds_toArray, List.set_cons_zero, List.set_cons_succ]
  refine tkq 2 (some 76) (v := ?_) rfl (Or.inl ⟨by rfl, ?_⟩) (by assumption) ?_
  rotate_left
  · intro w hSw; (try dsimp only at hSw); go_simp; first | done | (with_reducible rfl)
  simp only [Act.put, List.setIfInBounds_toArray, List.set_cons_zero, List.set_cons_succ]
  refine tkq 3 (some 77) (v := ?_) rfl (Or.inl ⟨by rfl, ?_⟩) (by assumption) ?_
  rotate_left
  · intro w hSw; (try dsimp only at hSw); go_simp; first | done | (with_reducible rfl)
  simp only [Act.put, List.setIfInBounds_toArray, List.set_cons_zero, List.set_cons_succ]
  refine tkq 4 (some 78) (v := ?_) rfl (Or.inl ⟨by rfl, ?_⟩) (by assumption) ?_
  rotate_left
  · intro w hSw; (try dsimp only at hSw); go_simp; first | done | (with_reducible rfl)
  simp only [Act.put, List.setIfInBounds_toArray, List.set_cons_zero, List.set_cons_succ]
  refine tkq 5 (some 79) (v := ?_) rfl (Or.inl ⟨by rfl, ?_⟩) (by assumption) ?_
  rotate_left
  · intro w hSw; (try dsimp only at hSw); go_simp; first | done | (with_reducible rfl)
  simp only [Act.put, List.setIfInBounds_toArray, List.set_cons_zero, List.set_cons_succ]
  refine wpAnyH_ready (rs := [6]) (by kernel_rfl) (by simp) ?_
  refine AllReadyH.cons rfl (fun K hK => ?_) AllReadyH.nil
  go_simp
  go_wp2_with (go_at_call 15; (with_reducible refine (HN1.out _ hB2.out).mono ?_); rintro e w3 ⟨v2, rfl, hv1, hv2, hl2⟩; have HV1 := Lib.hid hv1; have HV2 := Lib.hid hv2; have HL2 := Lib.hid hl2; have HZ2 := Lib.hid hl2.1; clear hl2 hv1 hv2)
  refine hK.out _ _ (HSS.out _ ((HK2.out).trans HL2.out.2) _ _ HZ2.out) (fun hHeld => ?_)
  clear hK K
  refine tkq 7 (some 73) (v := ?_) rfl (Or.inl ⟨by rfl, ?_⟩) (by assumption) ?_
  rotate_left
  · intro w hSw; (try dsimp only at hSw); go_simp; first | done | (with_reducible rfl)
  simp only [Act.put, List.setIfInBounds_toArray, List.set_cons_zero, List.set_cons_succ]
  refine tkq 8 (some 81) (v := ?_) rfl (Or.inl ⟨by rfl, ?_⟩) (by assumption) ?_
  rotate_left
  · intro w hSw; (try dsimp only at hSw); go_simp; first | done | (with_reducible rfl)
  simp only [Act.put, List.setIfInBounds_toArray, List.set_cons_zero, List.set_cons_succ]
  refine tkq 9 (some 82) (v := ?_) rfl (Or.inl ⟨by rfl, ?_⟩) (by assumption) ?_
  rotate_left
  · intro w hSw; (try dsimp only at hSw); go_simp; first | done | (with_reducible rfl)
  simp only [Act.put, List.setIfInBounds_toArray, List.set_cons_zero, List.set_cons_succ]
  refine tkq 10 (some 83) (v := ?_) rfl (Or.inl ⟨by rfl, ?_⟩) (by assumption) ?_
  rotate_left
  · intro w hSw; (try dsimp only at hSw); go_simp; first | done | (with_reducible rfl)
  simp only [Act.put, List.setIfInBounds_toArray, List.set_cons_zero, List.set_cons_succ]
  refine tkq 11 (some 84) (v := ?_) rfl (Or.inl ⟨by rfl, ?_⟩) (by assumption) ?_
  rotate_left
  · intro w hSw; (try dsimp only at hSw); go_simp; first | done | (with_reducible rfl)
  simp only [Act.put, List.setIfInBounds_toArray, List.set_cons_zero, List.set_cons_succ]
  refine tkq 12 (some 9) (v := ?_) rfl (Or.inl ⟨by rfl, ?_⟩) (by assumption) ?_
  rotate_left
  · intro w hSw; (try dsimp only at hSw); go_simp; first | done | (with_reducible rfl)
  simp only [Act.put, List.setIfInBounds_toArray, List.set_cons_zero, List.set_cons_succ]
  refine tkq 13 (some 10) (v := ?_) rfl (Or.inl ⟨by rfl, ?_⟩) (by assumption) ?_
  rotate_left
  · intro w hSw; (try dsimp only at hSw); go_simp; first | done | (with_reducible rfl)
  simp only [Act.put, List.setIfInBounds_toArray, List.set_cons_zero, List.set_cons_succ]
  refine tkq 14 (some 11) (v := ?_) rfl (Or.inl ⟨by rfl, ?_⟩) (by assumption) ?_
  rotate_left
  · intro w hSw; (try dsimp only at hSw); go_simp; first | done | (with_reducible rfl)
  simp only [Act.put, List.setIfInBounds_toArray, List.set_cons_zero, List.set_cons_succ]
  refine tkq 15 (some 12) (v := ?_) rfl (Or.inl ⟨by rfl, ?_⟩) (by assumption) ?_
  rotate_left
  · intro w hSw; (try dsimp only at hSw); go_simp; first | done | (with_reducible rfl)
  simp only [Act.put, List.setIfInBounds_toArray, List.set_cons_zero, List.set_cons_succ]
  refine wpAnyH_done (by kernel_rfl) ?_ _
  obtain ⟨A1, c1, rfl, _, _, hr1⟩ := HV1.out.open_n nn HNN.out
  obtain ⟨A2, c2, rfl, _, _, hr2⟩ := HV2.out.open_n nn HNN.out
  have t1 := run_text (P := Tryz.prog) (c := c1) hr1 22 5 9 Tryz.underlying22 Tryz.underlying5 Tryz.underlying9
  have t2 := run_text (P := Tryz.prog) (c := c2) hr2 22 5 9 Tryz.underlying22 Tryz.underlying5 Tryz.underlying9
  clear hr1 hr2 HV1 HV2
  go_wp2_with (first | (go_at_call 25; (with_reducible refine (same17 HZ2.out HOK.out).mono ?_); rintro e w4 ⟨rfl, hb4⟩; have HB4 := Lib.hid hb4; clear hb4) | fail)
  go_ret
  exact ⟨by first | rfl | simp, HD.out _ (HZ2.out.below HB4.out)⟩
set_option maxRecDepth 100000 in
set_option maxHeartbeats 16000000 in
theorem do_read17_5 (h : Lz wb W W base p q pw O (fun _ => False) L X X) (hi : XI k X) (hl : L.length ≤ k) (hk : k < 1000) (hmo : -9223372036854775808 ≤ most ∧ most < 9223372036854775808) : Calls Tryz.prog 7 #[.pointer (some ⟨pw, 0, none⟩), .agg (aL 5 off most i n fin A m c T).toArray] W fun e w' => e = .returned (.bool true) ∧ DoQ wb W base p q pw k O w' := by
  obtain ⟨g, W1, hg, hW1, hA1, hB1, hgl, h1⟩ := do_box17 (off := off) (most := most) (i := i) (n := n) (fin := fin) (A := A) (m := m) (c := c) (T := T) h 5
  obtain ⟨Y, hY⟩ : ∃ Y, W1.drew = Y := ⟨_, rfl⟩
  have hBY : Below W1.heap.size W1 Y := by rw [← hY]; exact belowN (Below.refl _ _) 1
  have h1Y := h1.below hBY
  have hAY := hA1.below hBY hgl
  have a0 : W1.cell? ⟨g, 0, none⟩ = some (.int .i64 5) := by rw [hA1.cell]; rfl
  have HSS : Hid (∀ w, Kept (fun b => ¬ (b = g ∨ b < base)) Y w → ∀ X3 X4, Lz wb W w base p q pw O (fun b => b = g ∨ b < base) L X3 X4 → w.cell? ⟨pw, 0, none⟩ = some (.pointer (some ⟨p, 0, none⟩)) ∧ w.cell? ⟨pw, 1, none⟩ = some (.pointer (some ⟨q, 0, none⟩)) ∧ w.cell? ⟨g, 2, none⟩ = some (.int .i64 most)) := Lib.hid (fun w hk X3 X4 hz => by
    have hA := hAY.kept hk (fun hn => hn (.inl rfl))
    exact ⟨hz.p0, hz.p1, by rw [hA.cell]; rfl⟩)
  have HS0 := Lib.hid (HSS.out Y (Kept.refl _ _) _ _ h1Y)
  have H1 := Lib.hid (two_read h1Y hi most hmo)
  have HOK := Lib.hid (hi.read most).ok
  have HD : Hid (∀ w4, Lz wb W w4 base p q pw O (fun b => b = g ∨ b < base) L (readX X most) (readX X most) → DoQ wb W base p q pw k O w4) := Lib.hid (fun w4 hz => hz.done (hi.read most) (by omega))
  clear h hi hl hk h1 h1Y hA1 hAY hB1 hBY hmo
  obtain ⟨la, hla⟩ : ∃ la, (readQ X most).bs = la := ⟨_, rfl⟩
  obtain ⟨nn, hnn⟩ : ∃ nn, la.length = nn := ⟨_, rfl⟩
  rw [hla] at H1
  have HNN := Lib.hid hnn
  clear hla hnn
  generalize (readQ X most).fl = xf at H1
  generalize (readQ X most).cd = xc at H1
  generalize (readQ X most).er = xe at H1
  generalize readX X most = X5 at H1 HOK HD
  have hxf : (xf != xf) = false := by simp
  have hxc : ((xc : Int) != (xc : Int)) = false := by simp
  have hxe : (xe != xe) = false := by simp
  have hbb := bb_refl (strOfNums la)
  unfold aL at hW1 ⊢
  simp only [List.cons_append, List.nil_append] at hW1 ⊢
  go_enter Tryz.func7, Tryz.ntmps7
  go_upto_region 1 with fail
  (try rw [hg])
  (try rw [hW1])
  go_upto_region 7 with fail
  refine wp_region_held_drew (S := (fun w => w.cell? ⟨pw, 0, none⟩ = some (.pointer (some ⟨p, 0, none⟩)) ∧ w.cell? ⟨pw, 1, none⟩ = some (.pointer (some ⟨q, 0, none⟩)) ∧ w.cell? ⟨g, 2, none⟩ = some (.int .i64 most))) (by kernel_rfl) (by rw [hY]; exact HS0.out) (fun hHeld => ?_)
  rw [hY] at hHeld ⊢
  clear hY
  refine tkq 0 (some 62) (v := ?_) rfl (Or.inl ⟨by rfl, ?_⟩) (by assumption) ?_
  rotate_left
  · intro w hSw; (try dsimp only at hSw); go_simp; first | done | (with_reducible rfl)
  simp only [Act.put, List.setIfInBounds_toArray, List.set_cons_zero, List.set_cons_succ]
  refine tkq 1 (some 63) (v := ?_) rfl (Or.inl ⟨by rfl, ?_⟩) (by assumption) ?_
  rotate_left
  · intro w hSw; (try dsimp only at hSw); go_simp; first | done | (with_reducible rfl)
  simp only [Act.put, List.setIfInBounds_toArray, List.set_cons_zero, List.set_cons_succ]
  refine tkq 2 (some 64) (v := ?_) rfl (Or.inl ⟨by rfl, ?_⟩) (by assumption) ?_
  rotate_left
  · intro w hSw; (try dsimp only at hSw); go_simp; first | done | (with_reducible rfl)
  simp only [Act.put, List.setIfInBounds_toArray, List.set_cons_zero, List.set_cons_succ]
  refine tkq 3 (some 65) (v := ?_) rfl (Or.inl ⟨by rfl, ?_⟩) (by assumption) ?_
  rotate_left
  · intro w hSw; (try dsimp only at hSw); go_simp; first | done | (with_reducible rfl)
  simp only [Act.put, List.setIfInBounds_toArray, List.set_cons_zero, List.set_cons_succ]
  refine tkq 4 (some 66) (v := ?_) rfl (Or.inl ⟨by rfl, ?_⟩) (by assumption) ?_
  rotate_left
  · intro w hSw; (try dsimp only at hSw); go_simp; first | done | (with_reducible rfl)
  simp only [Act.put, List.setIfInBounds_toArray, List.set_cons_zero, List.set_cons_succ]
  refine tkq 5 (some 67) (v := ?_) rfl (Or.inl ⟨by rfl, ?_⟩) (by assumption) ?_
  rotate_left
  · intro w hSw; (try dsimp only at hSw); go_simp; first | done | (with_reducible rfl)
  simp only [Act.put, List.setIfInBounds_toArray, List.set_cons_zero, List.set_cons_succ]
  refine wpAnyH_ready (rs := [6]) (by kernel_rfl) (by simp) ?_
  refine AllReadyH.cons rfl (fun K hK => ?_) AllReadyH.nil
  go_simp
  go_wp2_with (go_at_call 14; (with_reducible refine (H1.out).mono ?_); rintro e w2 ⟨v1, rfl, hv1, hl1, hn1⟩; have HV1 := Lib.hid hv1; have HL1 := Lib.hid hl1; have HN1 := Lib.hid hn1; clear hl1 hn1 hv1)
  refine hK.out _ _ (HSS.out _ HL1.out.2 _ _ HL1.out.1) (fun hHeld => ?_)
  clear hK K
  refine tkq 7 (some 61) (v := ?_) rfl (Or.inl ⟨by rfl, ?_⟩) (by assumption) ?_
  rotate_left
  · intro w hSw; (try dsimp only at hSw); go_simp; first | done | (with_reducible rfl)
  simp only [Act.put, List.setIfInBounds_toArray, List.set_cons_zero, List.set_cons_succ]
  refine tkq 8 (some 69) (v := ?_) rfl (Or.inl ⟨by rfl, ?_⟩) (by assumption) ?_
  rotate_left
  · intro w hSw; (try dsimp only at hSw); go_simp; first | done | (with_reducible rfl)
  simp only [Act.put, List.setIfInBounds_toArray, List.set_cons_zero, List.set_cons_succ]
  refine tkq 9 (some 70) (v := ?_) rfl (Or.inl ⟨by rfl, ?_⟩) (by assumption) ?_
  rotate_left
  · intro w hSw; (try dsimp only at hSw); go_simp; first | done | (with_reducible rfl)
  simp only [Act.put, List.setIfInBounds_toArray, List.set_cons_zero, List.set_cons_succ]
  refine tkq 10 (some 71) (v := ?_) rfl (Or.inl ⟨by rfl, ?_⟩) (by assumption) ?_
  rotate_left
  · intro w hSw; (try dsimp only at hSw); go_simp; first | done | (with_reducible rfl)
  simp only [Act.put, List.setIfInBounds_toArray, List.set_cons_zero, List.set_cons_succ]
  refine tkq 11 (some 72) (v := ?_) rfl (Or.inl ⟨by rfl, ?_⟩) (by assumption) ?_
  rotate_left
  · intro w hSw; (try dsimp only at hSw); go_simp; first | done | (with_reducible rfl)
  simp only [Act.put, List.setIfInBounds_toArray, List.set_cons_zero, List.set_cons_succ]
  refine tkq 12 (some 5) (v := ?_) rfl (Or.inl ⟨by rfl, ?_⟩) (by assumption) ?_
  rotate_left
  · intro w hSw; (try dsimp only at hSw); go_simp; first | done | (with_reducible rfl)
  simp only [Act.put, List.setIfInBounds_toArray, List.set_cons_zero, List.set_cons_succ]
  refine tkq 13 (some 6) (v := ?_) rfl (Or.inl ⟨by rfl, ?_⟩) (by assumption) ?_
  rotate_left
  · intro w hSw; (try dsimp only at hSw); go_simp; first | done | (with_reducible rfl)
  simp only [Act.put, List.setIfInBounds_toArray, List.set_cons_zero, List.set_cons_succ]
  refine tkq 14 (some 7) (v := ?_) rfl (Or.inl ⟨by rfl, ?_⟩) (by assumption) ?_
  rotate_left
  · intro w hSw; (try dsimp only at hSw); go_simp; first | done | (with_reducible rfl)
  simp only [Act.put, List.setIfInBounds_toArray, List.set_cons_zero, List.set_cons_succ]
  refine tkq 15 (some 8) (v := ?_) rfl (Or.inl ⟨by rfl, ?_⟩) (by assumption) ?_
  rotate_left
  · intro w hSw; (try dsimp only at hSw); go_simp; first | done | (with_reducible rfl)
  simp only [Act.put, List.setIfInBounds_toArray, List.set_cons_zero, List.set_cons_succ]
  refine wpAnyH_done (by kernel_rfl) ?_ _
  obtain ⟨Y2, hY2⟩ : ∃ Y2, w2.drew = Y2 := ⟨_, rfl⟩
  have hB2 : Hid (Below w2.heap.size w2 Y2) := Lib.hid (by rw [← hY2]; exact belowN (Below.refl _ _) 1)
  have HK2 : Hid (Kept (fun b => ¬ (b = g ∨ b < base)) Y Y2) := Lib.hid (HL1.out.2.trans (Kept.of_below hB2.out _))
  have HS2 := Lib.hid (HSS.out Y2 HK2.out _ _ (HL1.out.1.below hB2.out))
  clear HV1 HL1 H1 HS0
  go_upto_region 8 with fail
  refine wp_region_held_drew (S := (fun w => w.cell? ⟨pw, 0, none⟩ = some (.pointer (some ⟨p, 0, none⟩)) ∧ w.cell? ⟨pw, 1, none⟩ = some (.pointer (some ⟨q, 0, none⟩)) ∧ w.cell? ⟨g, 2, none⟩ = some (.int .i64 most))) (by kernel_rfl) (by rw [hY2]; exact HS2.out) (fun hHeld => ?_)
  rw [hY2] at hHeld ⊢
  clear hY2
  refine tkq 0 (some 74) (v := ?_) rfl (Or.inl ⟨by rfl, ?_⟩) (by assumption) ?_
  rotate_left
  · intro w hSw; (try dsimp only at hSw); go_simp; first | done | (with_reducible rfl)
  simp only [Act.put, List.setIfInBounds_toArray, List.set_cons_zero, List.set_cons_succ]
  refine tkq 1 (some 75) (v := ?_) rfl (Or.inl ⟨by rfl, ?_⟩) (by assumption) ?_
  rotate_left
  · intro w hSw; (try dsimp only at hSw); go_simp; first | done | (with_reducible rfl)
  simp only [Act.put, List.setIfInBounds_toArray, List.set_cons_zero, List.set_cons_succ]
  refine tkq 2 (some 76) (v := ?_) rfl (Or.inl ⟨by rfl, ?_⟩) (by assumption) ?_
  rotate_left
  · intro w hSw; (try dsimp only at hSw); go_simp; first | done | (with_reducible rfl)
  simp only [Act.put, List.setIfInBounds_toArray, List.set_cons_zero, List.set_cons_succ]
  refine tkq 3 (some 77) (v := ?_) rfl (Or.inl ⟨by rfl, ?_⟩) (by assumption) ?_
  rotate_left
  · intro w hSw; (try dsimp only at hSw); go_simp; first | done | (with_reducible rfl)
  simp only [Act.put, List.setIfInBounds_toArray, List.set_cons_zero, List.set_cons_succ]
  refine tkq 4 (some 78) (v := ?_) rfl (Or.inl ⟨by rfl, ?_⟩) (by assumption) ?_
  rotate_left
  · intro w hSw; (try dsimp only at hSw); go_simp; first | done | (with_reducible rfl)
  simp only [Act.put, List.setIfInBounds_toArray, List.set_cons_zero, List.set_cons_succ]
  refine tkq 5 (some 79) (v := ?_) rfl (Or.inl ⟨by rfl, ?_⟩) (by assumption) ?_
  rotate_left
  · intro w hSw; (try dsimp only at hSw); go_simp; first | done | (with_reducible rfl)
  simp only [Act.put, List.setIfInBounds_toArray, List.set_cons_zero, List.set_cons_succ]
  refine wpAnyH_ready (rs := [6]) (by kernel_rfl) (by simp) ?_
  refine AllReadyH.cons rfl (fun K hK => ?_) AllReadyH.nil
  go_simp
  go_wp2_with (go_at_call 15; (with_reducible refine (HN1.out _ hB2.out).mono ?_); rintro e w3 ⟨v2, rfl, hv1, hv2, hl2⟩; have HV1 := Lib.hid hv1; have HV2 := Lib.hid hv2; have HL2 := Lib.hid hl2; have HZ2 := Lib.hid hl2.1; clear hl2 hv1 hv2)
  refine hK.out _ _ (HSS.out _ ((HK2.out).trans HL2.out.2) _ _ HZ2.out) (fun hHeld => ?_)
  clear hK K
  refine tkq 7 (some 73) (v := ?_) rfl (Or.inl ⟨by rfl, ?_⟩) (by assumption) ?_
  rotate_left
  · intro w hSw; (try dsimp only at hSw); go_simp; first | done | (with_reducible rfl)
  simp only [Act.put, List.setIfInBounds_toArray, List.set_cons_zero, List.set_cons_succ]
  refine tkq 8 (some 81) (v := ?_) rfl (Or.inl ⟨by rfl, ?_⟩) (by assumption) ?_
  rotate_left
  · intro w hSw; (try dsimp only at hSw); go_simp; first | done | (with_reducible rfl)
  simp only [Act.put, List.setIfInBounds_toArray, List.set_cons_zero, List.set_cons_succ]
  refine tkq 9 (some 82) (v := ?_) rfl (Or.inl ⟨by rfl, ?_⟩) (by assumption) ?_
  rotate_left
  · intro w hSw; (try dsimp only at hSw); go_simp; first | done | (with_reducible rfl)
  simp only [Act.put, List.setIfInBounds_toArray, List.set_cons_zero, List.set_cons_succ]
  refine tkq 10 (some 83) (v := ?_) rfl (Or.inl ⟨by rfl, ?_⟩) (by assumption) ?_
  rotate_left
  · intro w hSw; (try dsimp only at hSw); go_simp; first | done | (with_reducible rfl)
  simp only [Act.put, List.setIfInBounds_toArray, List.set_cons_zero, List.set_cons_succ]
  refine tkq 11 (some 84) (v := ?_) rfl (Or.inl ⟨by rfl, ?_⟩) (by assumption) ?_
  rotate_left
  · intro w hSw; (try dsimp only at hSw); go_simp; first | done | (with_reducible rfl)
  simp only [Act.put, List.setIfInBounds_toArray, List.set_cons_zero, List.set_cons_succ]
  refine tkq 12 (some 9) (v := ?_) rfl (Or.inl ⟨by rfl, ?_⟩) (by assumption) ?_
  rotate_left
  · intro w hSw; (try dsimp only at hSw); go_simp; first | done | (with_reducible rfl)
  simp only [Act.put, List.setIfInBounds_toArray, List.set_cons_zero, List.set_cons_succ]
  refine tkq 13 (some 10) (v := ?_) rfl (Or.inl ⟨by rfl, ?_⟩) (by assumption) ?_
  rotate_left
  · intro w hSw; (try dsimp only at hSw); go_simp; first | done | (with_reducible rfl)
  simp only [Act.put, List.setIfInBounds_toArray, List.set_cons_zero, List.set_cons_succ]
  refine tkq 14 (some 11) (v := ?_) rfl (Or.inl ⟨by rfl, ?_⟩) (by assumption) ?_
  rotate_left
  · intro w hSw; (try dsimp only at hSw); go_simp; first | done | (with_reducible rfl)
  simp only [Act.put, List.setIfInBounds_toArray, List.set_cons_zero, List.set_cons_succ]
  refine tkq 15 (some 12) (v := ?_) rfl (Or.inl ⟨by rfl, ?_⟩) (by assumption) ?_
  rotate_left
  · intro w hSw; (try dsimp only at hSw); go_simp; first | done | (with_reducible rfl)
  simp only [Act.put, List.setIfInBounds_toArray, List.set_cons_zero, List.set_cons_succ]
  refine wpAnyH_done (by kernel_rfl) ?_ _
  obtain ⟨A1, c1, rfl, _, _, hr1⟩ := HV1.out.open_n nn HNN.out
  obtain ⟨A2, c2, rfl, _, _, hr2⟩ := HV2.out.open_n nn HNN.out
  have t1 := run_text (P := Tryz.prog) (c := c1) hr1 22 5 9 Tryz.underlying22 Tryz.underlying5 Tryz.underlying9
  have t2 := run_text (P := Tryz.prog) (c := c2) hr2 22 5 9 Tryz.underlying22 Tryz.underlying5 Tryz.underlying9
  clear hr1 hr2 HV1 HV2
  go_wp2_with (first | (go_at_call 25; (with_reducible refine (same17 HZ2.out HOK.out).mono ?_); rintro e w4 ⟨rfl, hb4⟩; have HB4 := Lib.hid hb4; clear hb4) | fail)
  go_ret
  exact ⟨by first | rfl | simp, HD.out _ (HZ2.out.below HB4.out)⟩
def m4r (id code f : Nat) : FN := { FN.zero 4 with s := id, c := code, f := f }
theorem m4r_wf {id code f : Nat} (h1 : id < 18446744073709551616) (h2 : code < 18446744073709551616) (h3 : f < 18446744073709551616) : (m4r id code f).wf := by
  constructor <;> simp only [m4r, FN.zero] <;> first | omega | (intro x hx; simp at hx; omega)
set_option maxRecDepth 100000 in
set_option maxHeartbeats 16000000 in
theorem do_reset17 (h : Lz wb W W base p q pw O (fun _ => False) L X X) (hi : XI k X) (hl : L.length ≤ k) (hk : k < 1000) (hoff : -9223372036854775808 ≤ off ∧ off < 9223372036854775808) (hn : n < 18446744073709551616) : Calls Tryz.prog 7 #[.pointer (some ⟨pw, 0, none⟩), .agg (aL 3 off most i n fin A m c T).toArray] W fun e w' => e = .returned (.bool true) ∧ DoQ wb W base p q pw k O w' := by
  obtain ⟨g, W1, hg, hW1, hA1, hB1, hgl, h1⟩ := do_box17 (off := off) (most := most) (i := i) (n := n) (fin := fin) (A := A) (m := m) (c := c) (T := T) h 3
  obtain ⟨Y, hY⟩ : ∃ Y, W1.drew = Y := ⟨_, rfl⟩
  have hBY : Below W1.heap.size W1 Y := by rw [← hY]; exact belowN (Below.refl _ _) 1
  have h1Y := h1.below hBY
  have hAY := hA1.below hBY hgl
  have a0 : W1.cell? ⟨g, 0, none⟩ = some (.int .i64 3) := by rw [hA1.cell]; rfl
  have HSS : Hid (∀ w, Kept (fun b => ¬ (b = g ∨ b < base)) Y w → ∀ X3 X4, Lz wb W w base p q pw O (fun b => b = g ∨ b < base) L X3 X4 → X4.id = X.id → w.cell? ⟨pw, 0, none⟩ = some (.pointer (some ⟨p, 0, none⟩)) ∧ w.cell? ⟨pw, 1, none⟩ = some (.pointer (some ⟨q, 0, none⟩)) ∧ w.cell? ⟨g, 1, none⟩ = some (.int .i64 off) ∧ w.cell? ⟨g, 4, none⟩ = some (.int .u64 n) ∧ w.cell? ⟨q, 0, none⟩ = some (.int .u64 X.id)) := Lib.hid (fun w hk X3 X4 hz hid => by
    have hA := hAY.kept hk (fun hn => hn (.inl rfl))
    exact ⟨hz.p0, hz.p1, by rw [hA.cell]; rfl, by rw [hA.cell]; rfl, by rw [← hid]; exact hz.q0⟩)
  have HS0 := Lib.hid (HSS.out Y (Kept.refl _ _) _ _ h1Y rfl)
  have hwb := withinS_bd off 0 300 (by omega)
  obtain ⟨xf, hxf⟩ : ∃ xf : Nat, withinS off 0 300 = (xf : Int) := ⟨(withinS off 0 300).toNat, by omega⟩
  have hxl : xf ≤ 300 := by omega
  have HWI : Hid (∀ W : World, Calls Tryz.prog 13 #[.int .i64 off, .int .i64 0, .int .i64 300] W fun e w' => e = .returned (.int .i64 xf) ∧ W = w') := Lib.hid (fun W => by
    have := within_any off 0 300 W hoff.1 (by omega) (by decide) (by decide) (by decide)
    rw [hxf] at this
    exact this)
  have wxf : IntKind.u64.wrap (xf : Int) = (xf : Int) := by rw [IntKind.wrap_u64]; omega
  have hid := hi.id
  have hmw := m4r_wf (id := X.id) (code := n) (f := xf) (by omega) hn (by omega)
  have HON : Hid (∀ Z, Lz wb W Z base p q pw O (fun b => b = g ∨ b < base) L X X → Calls Tryz.prog 12 #[.pointer (some ⟨pw, 0, none⟩), .agg #[.int .i64 4, .int .u64 X.id, .int .u64 0, .slice none 0 0, .bool false, .int .u64 0, .int .u64 n, .int .u64 xf, .int .u64 0, .int .u64 0, .slice none 0 0, .int .u8 0, .int .u8 0, .int .u8 0, .int .u8 0, .int .u8 0, .int .u8 0, .int .u8 0, .int .u8 0]] Z fun e w' => e = .returned (.bool true) ∧ LzP wb W Z w' base p q pw O (fun b => b = g ∨ b < base) L (onX X (m4r X.id n xf) []) (onX X (m4r X.id n xf) [])) := Lib.hid (fun Z hz => on17 hz hi hk (m4r X.id n xf) .nil .nil [] hmw (RdP.none_ _ _ _) (Nat.le_refl _) (by decide))
  have HD : Hid (∀ w4, Lz wb W w4 base p q pw O (fun b => b = g ∨ b < base) L (onX X (m4r X.id n xf) []) (onX X (m4r X.id n xf) []) → DoQ wb W base p q pw k O w4) := Lib.hid (fun w4 hz => hz.done (hi.on _ _ hmw Byt.nil) (by omega))
  have H1Y := Lib.hid h1Y
  clear h hi hl hk h1 h1Y hA1 hAY hB1 hBY hoff hn hwb hxf hid hmw
  have HX5 := Lib.hid (onX_id X (m4r X.id n xf) [])
  generalize onX X (m4r X.id n xf) [] = X5 at HON HD HX5
  unfold aL at hW1 ⊢
  simp only [List.cons_append, List.nil_append] at hW1 ⊢
  go_enter Tryz.func7, Tryz.ntmps7
  go_upto_region 1 with fail
  (try rw [hg])
  (try rw [hW1])
  go_upto_region 4 with fail
  refine wp_region_held_drew (S := (fun w => w.cell? ⟨pw, 0, none⟩ = some (.pointer (some ⟨p, 0, none⟩)) ∧ w.cell? ⟨pw, 1, none⟩ = some (.pointer (some ⟨q, 0, none⟩)) ∧ w.cell? ⟨g, 1, none⟩ = some (.int .i64 off) ∧ w.cell? ⟨g, 4, none⟩ = some (.int .u64 n) ∧ w.cell? ⟨q, 0, none⟩ = some (.int .u64 X.id))) (by kernel_rfl) (by rw [hY]; exact HS0.out) (fun hHeld => ?_)
  rw [hY] at hHeld ⊢
  clear hY
  refine tkq 0 (some 42) (v := ?_) rfl (Or.inl ⟨by rfl, ?_⟩) (by assumption) ?_
  rotate_left
  · intro w hSw; (try dsimp only at hSw); go_simp; first | done | (with_reducible rfl)
  simp only [Act.put, List.setIfInBounds_toArray, List.set_cons_zero, List.set_cons_succ]
  refine tkq 1 (some 43) (v := ?_) rfl (Or.inl ⟨by rfl, ?_⟩) (by assumption) ?_
  rotate_left
  · intro w hSw; (try dsimp only at hSw); go_simp; first | done | (with_reducible rfl)
  simp only [Act.put, List.setIfInBounds_toArray, List.set_cons_zero, List.set_cons_succ]
  refine tkq 2 (some 44) (v := ?_) rfl (Or.inl ⟨by rfl, ?_⟩) (by assumption) ?_
  rotate_left
  · intro w hSw; (try dsimp only at hSw); go_simp; first | done | (with_reducible rfl)
  simp only [Act.put, List.setIfInBounds_toArray, List.set_cons_zero, List.set_cons_succ]
  refine tkq 3 (some 45) (v := ?_) rfl (Or.inl ⟨by rfl, ?_⟩) (by assumption) ?_
  rotate_left
  · intro w hSw; (try dsimp only at hSw); go_simp; first | done | (with_reducible rfl)
  simp only [Act.put, List.setIfInBounds_toArray, List.set_cons_zero, List.set_cons_succ]
  refine tkq 4 (some 46) (v := ?_) rfl (Or.inl ⟨by rfl, ?_⟩) (by assumption) ?_
  rotate_left
  · intro w hSw; (try dsimp only at hSw); go_simp; first | done | (with_reducible rfl)
  simp only [Act.put, List.setIfInBounds_toArray, List.set_cons_zero, List.set_cons_succ]
  refine tkq 5 (some 47) (v := ?_) rfl (Or.inl ⟨by rfl, ?_⟩) (by assumption) ?_
  rotate_left
  · intro w hSw; (try dsimp only at hSw); go_simp; first | done | (with_reducible rfl)
  simp only [Act.put, List.setIfInBounds_toArray, List.set_cons_zero, List.set_cons_succ]
  refine tkq 6 (some 48) (v := ?_) rfl (Or.inl ⟨by rfl, ?_⟩) (by assumption) ?_
  rotate_left
  · intro w hSw; (try dsimp only at hSw); go_simp; first | done | (with_reducible rfl)
  simp only [Act.put, List.setIfInBounds_toArray, List.set_cons_zero, List.set_cons_succ]
  refine tkq 7 (some 49) (v := ?_) rfl (Or.inl ⟨by rfl, ?_⟩) (by assumption) ?_
  rotate_left
  · intro w hSw; (try dsimp only at hSw); go_simp; first | done | (with_reducible rfl)
  simp only [Act.put, List.setIfInBounds_toArray, List.set_cons_zero, List.set_cons_succ]
  refine tkq 8 (some 50) (v := ?_) rfl (Or.inl ⟨by rfl, ?_⟩) (by assumption) ?_
  rotate_left
  · intro w hSw; (try dsimp only at hSw); go_simp; first | done | (with_reducible rfl)
  simp only [Act.put, List.setIfInBounds_toArray, List.set_cons_zero, List.set_cons_succ]
  refine tkq 9 (some 51) (v := ?_) rfl (Or.inl ⟨by rfl, ?_⟩) (by assumption) ?_
  rotate_left
  · intro w hSw; (try dsimp only at hSw); go_simp; first | done | (with_reducible rfl)
  simp only [Act.put, List.setIfInBounds_toArray, List.set_cons_zero, List.set_cons_succ]
  refine tkq 10 (some 52) (v := ?_) rfl (Or.inl ⟨by rfl, ?_⟩) (by assumption) ?_
  rotate_left
  · intro w hSw; (try dsimp only at hSw); go_simp; first | done | (with_reducible rfl)
  simp only [Act.put, List.setIfInBounds_toArray, List.set_cons_zero, List.set_cons_succ]
  refine tkq 11 (some 53) (v := ?_) rfl (Or.inl ⟨by rfl, ?_⟩) (by assumption) ?_
  rotate_left
  · intro w hSw; (try dsimp only at hSw); go_simp; first | done | (with_reducible rfl)
  simp only [Act.put, List.setIfInBounds_toArray, List.set_cons_zero, List.set_cons_succ]
  refine wpAnyH_ready (rs := [12]) (by kernel_rfl) (by simp) ?_
  refine AllReadyH.cons rfl (fun K hK => ?_) AllReadyH.nil
  go_simp
  go_wp2_with (go_at_call 13; (with_reducible refine (HWI.out _).mono ?_); rintro e w2 ⟨rfl, rfl⟩)
  refine hK.out _ _ (HS0.out) (fun hHeld => ?_)
  clear hK K
  refine tkq 13 (some 55) (v := ?_) rfl (Or.inl ⟨by rfl, ?_⟩) (by assumption) ?_
  rotate_left
  · intro w hSw; (try dsimp only at hSw); go_simp; first | done | (with_reducible rfl)
  simp only [Act.put, List.setIfInBounds_toArray, List.set_cons_zero, List.set_cons_succ]
  refine tkq 14 (some 56) (v := ?_) rfl (Or.inl ⟨by rfl, ?_⟩) (by assumption) ?_
  rotate_left
  · intro w hSw; (try dsimp only at hSw); go_simp; first | done | (with_reducible rfl)
  simp only [Act.put, List.setIfInBounds_toArray, List.set_cons_zero, List.set_cons_succ]
  refine wpAnyH_ready (rs := [15]) (by kernel_rfl) (by simp) ?_
  refine AllReadyH.cons rfl (fun K hK => ?_) AllReadyH.nil
  go_simp
  go_wp2_with (go_at_call 12; (with_reducible refine (HON.out _ H1Y.out).mono ?_); rintro e w3 ⟨rfl, hl2⟩; have HL2 := Lib.hid hl2; have HZ2 := Lib.hid hl2.1; clear hl2)
  refine hK.out _ _ (HSS.out _ HL2.out.2 _ _ HZ2.out HX5.out) (fun hHeld => ?_)
  clear hK K
  refine tkq 16 (some 4) (v := ?_) rfl (Or.inl ⟨by rfl, ?_⟩) (by assumption) ?_
  rotate_left
  · intro w hSw; (try dsimp only at hSw); go_simp; first | done | (with_reducible rfl)
  simp only [Act.put, List.setIfInBounds_toArray, List.set_cons_zero, List.set_cons_succ]
  refine wpAnyH_done (by kernel_rfl) ?_ _
  go_wp2_with fail
  go_ret
  exact ⟨rfl, HD.out _ HZ2.out⟩
theorem qcut_any (A : Option Addr) (n c m : Nat) (w : World) (hnc : n ≤ c) (hcm : c ≤ maxLen) (hm : m ≤ 1000000) (hA : A = none → c = 0) :
    Calls Tryz.prog 24 #[.slice A n c, .int .i64 m] w fun e w' => e = .returned (.slice A (min n m) c) ∧ w' = w := by
  have hcm' : c ≤ 9223372036854775807 := by unfold maxLen at hcm; omega
  by_cases h : m < n
  · have hz : (m : Int) < (n : Int) := by omega
    have hmc : (m : Int) ≤ (c : Int) := by omega
    rw [show min n m = m by omega]
    cases A with
    | none => have := hA rfl; omega
    | some ad =>
      clear hA
      go_enter Tryz.func24, Tryz.ntmps24
      go_wp2
      go_ret
      exact ⟨rfl, rfl⟩
  · have hz : ¬ (m : Int) < (n : Int) := by omega
    rw [show min n m = n by omega]
    clear hA
    go_enter Tryz.func24, Tryz.ntmps24
    go_wp2
    go_ret
    exact ⟨rfl, rfl⟩
def m8r (id off : Nat) (fin : Bool) : FN := { FN.zero 8 with s := id, o := off, fin := fin }
theorem m8r_wf {id off : Nat} {fin : Bool} (h1 : id < 18446744073709551616) (h2 : off < 18446744073709551616) : (m8r id off fin).wf := by
  constructor <;> simp only [m8r, FN.zero] <;> first | omega | (intro x hx; simp at hx; omega)
set_option maxRecDepth 100000 in
set_option maxHeartbeats 16000000 in
theorem do_stream17 {kd : Int} (h : Lz wb W W base p q pw O (fun _ => False) L X X) (hi : XI k X) (hl : L.length ≤ k) (hk : k < 1000) (hoff : -9223372036854775808 ≤ off ∧ off < 9223372036854775808) (k3 : (kd == 3) = false) (k4 : (kd == 4) = false) (k5 : (kd == 5) = false) (k6 : (kd == 6) = false) (k7 : (kd == 7) = false) (k8 : (kd == 8) = false) (k9 : (kd == 9) = false) (hA : A = none → c = 0) (hmc : m ≤ c) (hcm : c ≤ maxLen) (bs : List Int) (hrd : Rd W base A m bs) : Calls Tryz.prog 7 #[.pointer (some ⟨pw, 0, none⟩), .agg (aL kd off most i n fin A m c T).toArray] W fun e w' => e = .returned (.bool true) ∧ DoQ wb W base p q pw k O w' := by
  obtain ⟨g, W1, hg, hW1, hA1, hB1, hgl, h1⟩ := do_box17 (off := off) (most := most) (i := i) (n := n) (fin := fin) (A := A) (m := m) (c := c) (T := T) h kd
  obtain ⟨Y, hY⟩ : ∃ Y, W1.drew = Y := ⟨_, rfl⟩
  have hBY : Below W1.heap.size W1 Y := by rw [← hY]; exact belowN (Below.refl _ _) 1
  have h1Y := h1.below hBY
  have hAY := hA1.below hBY hgl
  have a0 : W1.cell? ⟨g, 0, none⟩ = some (.int .i64 kd) := by rw [hA1.cell]; rfl
  have HSS : Hid (∀ w, Kept (fun b => ¬ (b = g ∨ b < base)) Y w → ∀ X3 X4, Lz wb W w base p q pw O (fun b => b = g ∨ b < base) L X3 X4 → X4.id = X.id → w.cell? ⟨pw, 0, none⟩ = some (.pointer (some ⟨p, 0, none⟩)) ∧ w.cell? ⟨pw, 1, none⟩ = some (.pointer (some ⟨q, 0, none⟩)) ∧ w.cell? ⟨g, 1, none⟩ = some (.int .i64 off) ∧ w.cell? ⟨g, 5, none⟩ = some (.bool fin) ∧ w.cell? ⟨g, 6, none⟩ = some (.slice A m c) ∧ w.cell? ⟨q, 0, none⟩ = some (.int .u64 X.id)) := Lib.hid (fun w hk X3 X4 hz hid => by
    have hA := hAY.kept hk (fun hn => hn (.inl rfl))
    exact ⟨hz.p0, hz.p1, by rw [hA.cell]; rfl, by rw [hA.cell]; rfl, by rw [hA.cell]; rfl, by rw [← hid]; exact hz.q0⟩)
  have HS0 := Lib.hid (HSS.out Y (Kept.refl _ _) _ _ h1Y rfl)
  have hwb := withinS_bd off 0 200 (by omega)
  obtain ⟨xf, hxf⟩ : ∃ xf : Nat, withinS off 0 200 = (xf : Int) := ⟨(withinS off 0 200).toNat, by omega⟩
  have hxl : xf ≤ 200 := by omega
  have HWI : Hid (∀ W : World, Calls Tryz.prog 13 #[.int .i64 off, .int .i64 0, .int .i64 200] W fun e w' => e = .returned (.int .i64 xf) ∧ W = w') := Lib.hid (fun W => by
    have := within_any off 0 200 W hoff.1 (by omega) (by decide) (by decide) (by decide)
    rw [hxf] at this
    exact this)
  obtain ⟨m2, hm2⟩ : ∃ m2, min m 40 = m2 := ⟨_, rfl⟩
  have HCU : Hid (∀ W : World, Calls Tryz.prog 24 #[.slice A m c, .int .i64 40] W fun e w' => e = .returned (.slice A m2 c) ∧ W = w') := Lib.hid (fun W => by
    have := qcut_any A m c 40 W hmc hcm (by decide) hA
    rw [hm2] at this
    exact this.mono fun e w' ⟨h1, h2⟩ => ⟨h1, h2.symm⟩)
  have wxf : IntKind.u64.wrap (xf : Int) = (xf : Int) := by rw [IntKind.wrap_u64]; omega
  have hid := hi.id
  have hmw := m8r_wf (id := X.id) (off := xf) (fin := fin) (by omega) (by omega)
  have hrdW : Rd Y base A m bs := (hrd.below (hB1.mono (lz_base h))).below (hBY.mono (Nat.le_trans (lz_base h) hB1.size))
  have hrdP : RdP Y (fun b => b = g ∨ b < base) A m2 (bs.take m2) := ((RdP.of_rd hrdW (lz_base h1Y)).mono fun b _ hb => .inr hb).cutTo (by omega)
  have hm2c : m2 ≤ c := by omega
  have hm2l : m2 < 9223372036854775808 := by omega
  have HON : Hid (Calls Tryz.prog 12 #[.pointer (some ⟨pw, 0, none⟩), .agg #[.int .i64 8, .int .u64 X.id, .int .u64 xf, .slice A m2 c, .bool fin, .int .u64 0, .int .u64 0, .int .u64 0, .int .u64 0, .int .u64 0, .slice none 0 0, .int .u8 0, .int .u8 0, .int .u8 0, .int .u8 0, .int .u8 0, .int .u8 0, .int .u8 0, .int .u8 0]] Y fun e w' => e = .returned (.bool true) ∧ LzP wb W Y w' base p q pw O (fun b => b = g ∨ b < base) L (onX X (m8r X.id xf fin) (bs.take m2)) (onX X (m8r X.id xf fin) (bs.take m2))) := Lib.hid (on17 h1Y hi hk (m8r X.id xf fin) ⟨A, m2, c⟩ .nil (bs.take m2) hmw hrdP hm2c hm2l)
  have HD : Hid (∀ w4, Lz wb W w4 base p q pw O (fun b => b = g ∨ b < base) L (onX X (m8r X.id xf fin) (bs.take m2)) (onX X (m8r X.id xf fin) (bs.take m2)) → DoQ wb W base p q pw k O w4) := Lib.hid (fun w4 hz => hz.done (hi.on _ _ hmw hrdP.byt) (by omega))
  have HX5 := Lib.hid (onX_id X (m8r X.id xf fin) (bs.take m2))
  clear h hi hl hk h1 h1Y hA1 hAY hB1 hBY hoff hwb hxf hid hmw hrd hrdW hrdP hA hmc hcm hm2 hm2c hm2l
  generalize onX X (m8r X.id xf fin) (bs.take m2) = X5 at HON HD HX5
  unfold aL at hW1 ⊢
  simp only [List.cons_append, List.nil_append] at hW1 ⊢
  go_enter Tryz.func7, Tryz.ntmps7
  go_upto_region 1 with fail
  (try rw [hg])
  (try rw [hW1])
  go_upto_region 2 with fail
  refine wp_region_held_drew (S := (fun w => w.cell? ⟨pw, 0, none⟩ = some (.pointer (some ⟨p, 0, none⟩)) ∧ w.cell? ⟨pw, 1, none⟩ = some (.pointer (some ⟨q, 0, none⟩)) ∧ w.cell? ⟨g, 1, none⟩ = some (.int .i64 off) ∧ w.cell? ⟨g, 5, none⟩ = some (.bool fin) ∧ w.cell? ⟨g, 6, none⟩ = some (.slice A m c) ∧ w.cell? ⟨q, 0, none⟩ = some (.int .u64 X.id))) (by kernel_rfl) (by rw [hY]; exact HS0.out) (fun hHeld => ?_)
  rw [hY] at hHeld ⊢
  clear hY
  refine tkq 0 (some 21) (v := ?_) rfl (Or.inl ⟨by rfl, ?_⟩) (by assumption) ?_
  rotate_left
  · intro w hSw; (try dsimp only at hSw); go_simp; first | done | (with_reducible rfl)
  simp only [Act.put, List.setIfInBounds_toArray, List.set_cons_zero, List.set_cons_succ]
  refine tkq 1 (some 22) (v := ?_) rfl (Or.inl ⟨by rfl, ?_⟩) (by assumption) ?_
  rotate_left
  · intro w hSw; (try dsimp only at hSw); go_simp; first | done | (with_reducible rfl)
  simp only [Act.put, List.setIfInBounds_toArray, List.set_cons_zero, List.set_cons_succ]
  refine tkq 2 (some 23) (v := ?_) rfl (Or.inl ⟨by rfl, ?_⟩) (by assumption) ?_
  rotate_left
  · intro w hSw; (try dsimp only at hSw); go_simp; first | done | (with_reducible rfl)
  simp only [Act.put, List.setIfInBounds_toArray, List.set_cons_zero, List.set_cons_succ]
  refine tkq 3 (some 24) (v := ?_) rfl (Or.inl ⟨by rfl, ?_⟩) (by assumption) ?_
  rotate_left
  · intro w hSw; (try dsimp only at hSw); go_simp; first | done | (with_reducible rfl)
  simp only [Act.put, List.setIfInBounds_toArray, List.set_cons_zero, List.set_cons_succ]
  refine tkq 4 (some 25) (v := ?_) rfl (Or.inl ⟨by rfl, ?_⟩) (by assumption) ?_
  rotate_left
  · intro w hSw; (try dsimp only at hSw); go_simp; first | done | (with_reducible rfl)
  simp only [Act.put, List.setIfInBounds_toArray, List.set_cons_zero, List.set_cons_succ]
  refine tkq 5 (some 26) (v := ?_) rfl (Or.inl ⟨by rfl, ?_⟩) (by assumption) ?_
  rotate_left
  · intro w hSw; (try dsimp only at hSw); go_simp; first | done | (with_reducible rfl)
  simp only [Act.put, List.setIfInBounds_toArray, List.set_cons_zero, List.set_cons_succ]
  refine tkq 6 (some 27) (v := ?_) rfl (Or.inl ⟨by rfl, ?_⟩) (by assumption) ?_
  rotate_left
  · intro w hSw; (try dsimp only at hSw); go_simp; first | done | (with_reducible rfl)
  simp only [Act.put, List.setIfInBounds_toArray, List.set_cons_zero, List.set_cons_succ]
  refine tkq 7 (some 28) (v := ?_) rfl (Or.inl ⟨by rfl, ?_⟩) (by assumption) ?_
  rotate_left
  · intro w hSw; (try dsimp only at hSw); go_simp; first | done | (with_reducible rfl)
  simp only [Act.put, List.setIfInBounds_toArray, List.set_cons_zero, List.set_cons_succ]
  refine tkq 8 (some 29) (v := ?_) rfl (Or.inl ⟨by rfl, ?_⟩) (by assumption) ?_
  rotate_left
  · intro w hSw; (try dsimp only at hSw); go_simp; first | done | (with_reducible rfl)
  simp only [Act.put, List.setIfInBounds_toArray, List.set_cons_zero, List.set_cons_succ]
  refine tkq 9 (some 30) (v := ?_) rfl (Or.inl ⟨by rfl, ?_⟩) (by assumption) ?_
  rotate_left
  · intro w hSw; (try dsimp only at hSw); go_simp; first | done | (with_reducible rfl)
  simp only [Act.put, List.setIfInBounds_toArray, List.set_cons_zero, List.set_cons_succ]
  refine tkq 12 (some 33) (v := ?_) rfl (Or.inl ⟨by rfl, ?_⟩) (by assumption) ?_
  rotate_left
  · intro w hSw; (try dsimp only at hSw); go_simp; first | done | (with_reducible rfl)
  simp only [Act.put, List.setIfInBounds_toArray, List.set_cons_zero, List.set_cons_succ]
  refine tkq 13 (some 34) (v := ?_) rfl (Or.inl ⟨by rfl, ?_⟩) (by assumption) ?_
  rotate_left
  · intro w hSw; (try dsimp only at hSw); go_simp; first | done | (with_reducible rfl)
  simp only [Act.put, List.setIfInBounds_toArray, List.set_cons_zero, List.set_cons_succ]
  refine tkq 15 (some 36) (v := ?_) rfl (Or.inl ⟨by rfl, ?_⟩) (by assumption) ?_
  rotate_left
  · intro w hSw; (try dsimp only at hSw); go_simp; first | done | (with_reducible rfl)
  simp only [Act.put, List.setIfInBounds_toArray, List.set_cons_zero, List.set_cons_succ]
  refine tkq 16 (some 37) (v := ?_) rfl (Or.inl ⟨by rfl, ?_⟩) (by assumption) ?_
  rotate_left
  · intro w hSw; (try dsimp only at hSw); go_simp; first | done | (with_reducible rfl)
  simp only [Act.put, List.setIfInBounds_toArray, List.set_cons_zero, List.set_cons_succ]
  refine wpAnyH_ready (rs := [10]) (by kernel_rfl) (by simp) ?_
  refine AllReadyH.cons rfl (fun K hK => ?_) AllReadyH.nil
  go_simp
  go_wp2_with (go_at_call 13; (with_reducible refine (HWI.out _).mono ?_); rintro e w2 ⟨rfl, rfl⟩)
  refine hK.out _ _ (HS0.out) (fun hHeld => ?_)
  clear hK K
  refine tkq 11 (some 32) (v := ?_) rfl (Or.inl ⟨by rfl, ?_⟩) (by assumption) ?_
  rotate_left
  · intro w hSw; (try dsimp only at hSw); go_simp; first | done | (with_reducible rfl)
  simp only [Act.put, List.setIfInBounds_toArray, List.set_cons_zero, List.set_cons_succ]
  refine wpAnyH_ready (rs := [14]) (by kernel_rfl) (by simp) ?_
  refine AllReadyH.cons rfl (fun K hK => ?_) AllReadyH.nil
  go_simp
  go_wp2_with (go_at_call 24; (with_reducible refine (HCU.out _).mono ?_); rintro e w2 ⟨rfl, rfl⟩)
  refine hK.out _ _ (HS0.out) (fun hHeld => ?_)
  clear hK K
  refine tkq 17 (some 38) (v := ?_) rfl (Or.inl ⟨by rfl, ?_⟩) (by assumption) ?_
  rotate_left
  · intro w hSw; (try dsimp only at hSw); go_simp; first | done | (with_reducible rfl)
  simp only [Act.put, List.setIfInBounds_toArray, List.set_cons_zero, List.set_cons_succ]
  refine wpAnyH_ready (rs := [18]) (by kernel_rfl) (by simp) ?_
  refine AllReadyH.cons rfl (fun K hK => ?_) AllReadyH.nil
  go_simp
  go_wp2_with (go_at_call 12; (with_reducible refine HON.out.mono ?_); rintro e w3 ⟨rfl, hl2⟩; have HL2 := Lib.hid hl2; have HZ2 := Lib.hid hl2.1; clear hl2)
  refine hK.out _ _ (HSS.out _ HL2.out.2 _ _ HZ2.out HX5.out) (fun hHeld => ?_)
  clear hK K
  refine tkq 19 (some 4) (v := ?_) rfl (Or.inl ⟨by rfl, ?_⟩) (by assumption) ?_
  rotate_left
  · intro w hSw; (try dsimp only at hSw); go_simp; first | done | (with_reducible rfl)
  simp only [Act.put, List.setIfInBounds_toArray, List.set_cons_zero, List.set_cons_succ]
  refine wpAnyH_done (by kernel_rfl) ?_ _
  go_wp2_with fail
  go_ret
  exact ⟨rfl, HD.out _ HZ2.out⟩
end
end Go.Proofs.YtphpdaldplkgmaaGreat
