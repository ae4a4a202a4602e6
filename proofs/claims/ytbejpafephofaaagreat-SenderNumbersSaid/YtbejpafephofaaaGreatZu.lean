/-
  The law's world and what it told (Wo, Wd); do: Write, Finish, Reset, Limit.
-/
import Derived.Test.YtbejpafephofaaaGreatMq27
import Derived.Test.YtbejpafephofaaaGreatMq9
namespace Go.Proofs.YtbejpafephofaaaGreat
set_option linter.unusedVariables false
set_option linter.unusedSimpArgs false
open Go.RowKit
/-- The cells of frames that were told. -/
def tlC (L : List (FN × Sl)) : List Value := L.flatMap fun x => frL x.1 x.2 .nil
theorem tlC_len : ∀ L : List (FN × Sl), (tlC L).length = L.length * 19
  | [] => rfl
  | x :: t => by
    have := tlC_len t
    unfold tlC at *
    rw [List.flatMap_cons, List.length_append, this, List.length_cons, frL_len]; omega
theorem tlC_app (a b : List (FN × Sl)) : tlC (a ++ b) = tlC a ++ tlC b := by unfold tlC; exact List.flatMap_append
theorem tlC_get : ∀ (L : List (FN × Sl)) (i : Nat) (x : FN × Sl), L[i]? = some x → ∀ (j : Nat) (v : Value), (frL x.1 x.2 .nil)[j]? = some v → (tlC L)[i * 19 + j]? = some v
  | [], i, x, h, _, _, _ => by simp at h
  | y :: t, 0, x, h, j, v, hv => by
    simp at h
    subst h
    have hj := (List.getElem?_eq_some_iff.1 hv).1
    unfold tlC
    rw [List.flatMap_cons, List.getElem?_append_left (by omega), Nat.zero_mul, Nat.zero_add]
    exact hv
  | y :: t, i + 1, x, h, j, v, hv => by
    have := tlC_get t i x (by simpa using h) j v hv
    unfold tlC at *
    rw [List.flatMap_cons, List.getElem?_append_right (by rw [frL_len]; omega), frL_len, show (i + 1) * 19 + j - 19 = i * 19 + j by omega]
    exact this
/-- The value v is a slice that the call made itself (no block below base), of the frames L. -/
def OwnT (w : World) (base : Nat) (v : Value) (L : List (FN × Sl)) : Prop := w.ownsRow base 51 19 v L.length (tlC L)
theorem OwnT.block_lt {w : World} {base : Nat} {v : Value} {L : List (FN × Sl)} (h : OwnT w base v L) : ∀ k, v.ownBlock = some k → base ≤ k ∧ k < w.heap.size := World.ownsRow.lt h
theorem OwnT.keep {w w' : World} {base : Nat} {v : Value} {L : List (FN × Sl)} (h : OwnT w base v L) (hk : ∀ k, v.ownBlock = some k → w'.heap[k]? = w.heap[k]?) : OwnT w' base v L := by
  refine ⟨h.1, ?_⟩
  rcases h.2 with h0 | ⟨g, cap, cur, rfl, h2, h3, h4⟩
  · exact .inl h0
  · exact .inr ⟨g, cap, cur, rfl, h2, (hk g rfl).trans h3, h4⟩
theorem OwnT.shape {w : World} {base : Nat} {v : Value} {L : List (FN × Sl)} (h : OwnT w base v L) : ∃ A c, v = .slice A L.length c ∧ L.length ≤ c ∧ c ≤ maxLen := by
  rcases h.2 with ⟨rfl, h0⟩ | ⟨g, cap, cur, rfl, _, _, h1, h2, _⟩
  · exact ⟨none, 0, by rw [h0], by omega, by unfold maxLen; exact Nat.zero_le _⟩
  · exact ⟨_, cap, rfl, h1, h2⟩
/-- One of them. -/
theorem OwnT.get {w : World} {base n c : Nat} {A : Option Addr} {L : List (FN × Sl)} (h : OwnT w base (.slice A n c) L) (i : Nat) (x : FN × Sl) (hx : L[i]? = some x) : ∃ g, A = some ⟨g, 0, none⟩ ∧ w.rangeAt g (i * 19) (frL x.1 x.2 .nil) := by
  have hi := (List.getElem?_eq_some_iff.1 hx).1
  rcases h.2 with ⟨h0, h0'⟩ | ⟨g, cap, cur, e, hb, hg, k1, k2, k3, k4⟩
  · omega
  · injection e with e1 e2 e3
    subst e1
    refine ⟨g, rfl, fun j v hv => ?_⟩
    have hq := tlC_get L i x hx j v hv
    have hql := (List.getElem?_eq_some_iff.1 hq).1
    rw [tlC_len] at hql
    rw [← k4, List.getElem?_take_of_lt (by omega)] at hq
    rw [cell_of_row w g _ cur _ (0, 0) hg]
    simpa using hq
/-- The law's world: both senders, what was told. -/
structure Wo (R : Nat → Prop) (w0 W : World) (q p qm pw : Nat) (O : Nat → Prop) (X : SS) (fr : List Value) (dd : Bool) (tv : Value) (L : List (FN × Sl)) : Prop where
  tw : Tw w0 W q p qm O X fr dd (fun b => b = pw ∨ tv.ownBlock = some b ∨ R b)
  at_ : At W pw 31 [.pointer (some ⟨q, 0, none⟩), .pointer (some ⟨qm, 0, none⟩), tv]
  own : OwnT W w0.heap.size tv L
  ok : ∀ x ∈ L, TurnOk X.id x.1 x.2
  pwn : ∀ b, tv.ownBlock = some b → b ≠ pw
  rn : ∀ b, R b → b ≠ pw ∧ tv.ownBlock ≠ some b
def Wd (R : Nat → Prop) (w0 W : World) (q p qm pw : Nat) (X : SS) (k : Nat) : Prop := ∃ O fr dd tv L, Wo R w0 W q p qm pw O X fr dd tv L ∧ L.length ≤ k
def G3 (R : Nat → Prop) (g pw : Nat) (tv : Value) (b : Nat) : Prop := b = g ∨ b = pw ∨ tv.ownBlock = some b ∨ R b
/-- What do leaves. -/
def DoP (R : Nat → Prop) (W w0 : World) (q p qm pw : Nat) (X : SS) (k : Nat) (W' : World) : Prop := ∃ X', Nx X X' ∧ Wd R w0 W' q p qm pw X' (k + 1) ∧ (∀ b, R b → W'.heap[b]? = W.heap[b]?)
section
variable {w0 W Y w3 : World} {q p qm pw g k : Nat} {O R : Nat → Prop} {X X' : SS} {fr : List Value} {dd : Bool} {tv : Value} {L : List (FN × Sl)}
theorem Tw.less {G G' : Nat → Prop} (h : Tw w0 W q p qm O X fr dd G) (hG : ∀ b, G' b → G b) : Tw w0 W q p qm O X fr dd G' :=
  ⟨h.sm.change (Kept.refl _ W) (fun b hb => hb.elim (fun e => (h.dm.lt b e).1) fun e => (h.gb b e).1) (fun b hb => .inl (hb.imp (fun e => e) (hG b))), h.dm, h.inv, fun b hb => h.gb b (hG b hb)⟩
theorem Tw.plus {G G' : Nat → Prop} (h : Tw w0 W q p qm O X fr dd G) {W' : World} (k : Below W.heap.size W W') (hG : ∀ b, G' b → G b ∨ (W.heap.size ≤ b ∧ b < W'.heap.size)) : Tw w0 W' q p qm O X fr dd G' := by
  have hb := h.bl.size
  refine ⟨h.sm.change (Kept.of_below k _) (fun b hb => hb.elim (fun e => (h.dm.lt b e).1) fun e => (h.gb b e).1) (fun b hb => ?_), h.dm.below k, h.inv, fun b hb => ?_⟩
  · rcases hb with e | e
    · exact .inl (.inl e)
    · exact (hG b e).imp (fun e => .inr e) (fun e => e)
  · rcases hG b hb with e | e
    · exact h.gb b e
    · exact ⟨by omega, fun e' => by have := (h.dm.lt b e').2; omega⟩
theorem Wo.below (h : Wo R w0 W q p qm pw O X fr dd tv L) {W' : World} (k : Below W.heap.size W W') : Wo R w0 W' q p qm pw O X fr dd tv L :=
  ⟨h.tw.below k, h.at_.below k h.at_.lt, h.own.keep fun j hj => k.block j (h.own.block_lt j hj).2, h.ok, h.pwn, h.rn⟩
/-- .. with the call's own block beside it. -/
theorem Wo.box (h : Wo R w0 W q p qm pw O X fr dd tv L) {W' : World} (k : Below W.heap.size W W') (hg : W.heap.size ≤ g ∧ g < W'.heap.size) : Tw w0 W' q p qm O X fr dd (G3 R g pw tv) :=
  h.tw.plus k fun b hb => by
    rcases hb with rfl | hb
    · exact .inr hg
    · exact .inl hb
theorem Wo.back (h : Wo R w0 W q p qm pw O X fr dd tv L) (k : Below W.heap.size W Y) (hN : Nx X X') (hF : Full w0 Y w3 q p qm X' (G3 R g pw tv)) : ∃ O' fr' dd', Wo R w0 w3 q p qm pw O' X' fr' dd' tv L := by
  obtain ⟨O', fr', dd', ht, hk, hs⟩ := hF
  have hy := h.below k
  exact ⟨O', fr', dd', ht.less fun b hb => .inr hb, (hk pw (.inr (.inl rfl))).trans hy.at_, hy.own.keep fun j hj => hk j (.inr (.inr (.inl hj))), fun x hx => by rw [hN.1]; exact h.ok x hx, h.pwn, h.rn⟩
theorem Wo.same (h : Wo R w0 W q p qm pw O X fr dd tv L) : Calls Tryz.prog 25 #[.pointer (some ⟨pw, 0, none⟩)] W fun e w' => e = .returned (.bool true) ∧ Wo R w0 w' q p qm pw O X fr dd tv L ∧ Below W.heap.size W w' :=
  (same16_any h.tw tv h.at_).mono fun e w' ⟨he, d, hw⟩ => ⟨he, by rw [hw]; exact h.below (below_drewN (Below.refl _ _) d), by rw [hw]; exact below_drewN (Below.refl _ _) d⟩
theorem do_same (h : Wo R w0 W q p qm pw O X fr dd tv L) (hk : L.length ≤ k) (kb : Below W.heap.size W Y) (hN : Nx X X') (hF : Full w0 Y w3 q p qm X' (G3 R g pw tv)) :
    Calls Tryz.prog 25 #[.pointer (some ⟨pw, 0, none⟩)] w3 fun e w4 => e = .returned (.bool true) ∧ DoP R W w0 q p qm pw X k w4 := by
  obtain ⟨O', fr', dd', h3⟩ := h.back kb hN hF
  obtain ⟨_, _, _, _, hg, hs⟩ := hF
  exact h3.same.mono fun e w4 ⟨he, h4, hb4⟩ => ⟨he, X', hN, ⟨O', fr', dd', tv, L, h4, by omega⟩, fun b hb => by
    have hl := h.tw.Glt b (.inr (.inr hb))
    have := kb.size
    exact ((hb4.block b (by omega)).trans (hg b (.inr (.inr (.inr hb))))).trans (kb.block b hl)⟩
end
/-- The cells of a call with no frame. -/
def askL (kd room ii : Int) (n : Nat) (A : Option Addr) (m c : Nat) : List Value := [.int .i64 kd, .int .i64 room, .int .i64 ii, .int .u64 n, .slice A m c, .int .i64 0, .int .u64 0, .int .u64 0, .int .u64 0, .slice none 0 0, .bool false, .slice none 0 0, .int .i64 0]
section
variable {w0 W : World} {q p qm pw k : Nat} {O R : Nat → Prop} {X : SS} {fr : List Value} {dd : Bool} {tv : Value} {L : List (FN × Sl)} {kd room ii : Int} {n m c : Nat} {A : Option Addr}
theorem Half.drewN {w1 : World} {X' : SS} {G : Nat → Prop} (h : Half w0 W w1 q p qm O X X' fr dd G) (j : Nat) : Half w0 W (w1.drewN j) q p qm O X X' fr dd G := ⟨h.1.drewN j, h.2.1.drewN j, h.2.2.1, h.2.2.2⟩
/-- Before the call: the world W1 with the call in a block g. -/
theorem do_box (h : Wo R w0 W q p qm pw O X fr dd tv L) (l : List Value) : ∃ (g : Nat) (W1 : World), W.heap.size = g ∧ W.alloc (.cells l.toArray 36) = W1 ∧ At W1 g 36 l ∧ Below W.heap.size W W1 ∧ g < W1.heap.size ∧ pw ≠ g ∧ (∀ b, G3 R g pw tv b → b < W1.heap.size) ∧
    W1.cell? ⟨pw, 0, none⟩ = some (.pointer (some ⟨q, 0, none⟩)) ∧ W1.cell? ⟨pw, 1, none⟩ = some (.pointer (some ⟨qm, 0, none⟩)) ∧ W1.cell? ⟨pw, 2, none⟩ = some tv := by
  have hB : Below W.heap.size W (W.alloc (.cells l.toArray 36)) := (Below.refl _ _).alloc (Nat.le_refl _) _
  have hA := h.at_.below hB h.at_.lt
  have hp := h.at_.lt
  have hn : (W.alloc (.cells l.toArray 36)).heap.size = W.heap.size + 1 := by simp
  refine ⟨_, _, rfl, rfl, At.new W _ _, hB, by omega, by omega, fun b hb => ?_, by rw [hA.cell]; rfl, by rw [hA.cell]; rfl, by rw [hA.cell]; rfl⟩
  rcases hb with rfl | rfl | hb | hb
  · omega
  · omega
  · have := (h.own.block_lt b hb).2; omega
  · have := h.tw.Glt b (.inr (.inr hb)); omega
/-- .. and what stays of it. -/
theorem do_keep {W1 w2 : World} {g : Nat} {l : List Value} (h : Wo R w0 W q p qm pw O X fr dd tv L) (k1 : Below W.heap.size W W1) (hA : At W1 g 36 l) (hk : ∀ b, G3 R g pw tv b → w2.heap[b]? = W1.heap[b]?) :
    At w2 pw 31 [.pointer (some ⟨q, 0, none⟩), .pointer (some ⟨qm, 0, none⟩), tv] ∧ At w2 g 36 l :=
  ⟨(hk pw (.inr (.inl rfl))).trans (h.at_.below k1 h.at_.lt), (hk g (.inl rfl)).trans hA⟩

set_option maxRecDepth 100000 in
set_option maxHeartbeats 8000000 in
theorem do_fin (h : Wo R w0 W q p qm pw O X fr dd tv L) (hk : L.length ≤ k) : Calls Tryz.prog 6 #[.pointer (some ⟨pw, 0, none⟩), .agg (askL 2 room ii n A m c).toArray] W fun e w' => e = .returned (.bool true) ∧ DoP R W w0 q p qm pw X k w' := by
  obtain ⟨g, W1, hg, hW1, hA1, hB1, hgl, hpg, hGl, p0, p1, p2⟩ := do_box h (askL 2 room ii n A m c)
  have HKE := Lib.hid (fun (w2 : World) hk => do_keep (w2 := w2) h hB1 hA1 hk)
  obtain ⟨Y, hY⟩ : ∃ Y, W1.drew = Y := ⟨_, rfl⟩
  have hBY : Below W.heap.size W Y := by rw [← hY]; exact belowN hB1 1
  have hTY : Tw w0 Y q p qm O X fr dd (G3 R g pw tv) := h.box hBY (by rw [← hY]; exact ⟨by omega, hgl⟩)
  have HYW : Hid (∀ b, G3 R g pw tv b → Y.heap[b]? = W1.heap[b]?) := Lib.hid (fun b _ => by rw [← hY]; rfl)
  have HDS := Lib.hid (fun (X' : SS) (w3 : World) (hN : Nx X X') hF => do_same (k := k) (X' := X') (w3 := w3) (g := g) h hk hBY hN hF)
  have HSS : Hid (∀ w : World, (∀ b, G3 R g pw tv b → w.heap[b]? = Y.heap[b]?) → w.cell? ⟨pw, 0, none⟩ = some (.pointer (some ⟨q, 0, none⟩)) ∧ w.cell? ⟨pw, 1, none⟩ = some (.pointer (some ⟨qm, 0, none⟩))) := Lib.hid (fun w hk => by
    obtain ⟨a1, a2⟩ := HKE.out w (fun b hb => (hk b hb).trans (HYW.out b hb))
    exact ⟨by rw [a1.cell]; rfl, by rw [a1.cell]; rfl⟩)
  have a0 : W1.cell? ⟨g, 0, none⟩ = some (.int .i64 2) := by rw [hA1.cell]; rfl
  have a3 : W1.cell? ⟨g, 3, none⟩ = some (.int .u64 n) := by rw [hA1.cell]; rfl
  have a4 : W1.cell? ⟨g, 4, none⟩ = some (.slice A m c) := by rw [hA1.cell]; rfl
  obtain ⟨X', x, hN, hc1, hc2⟩ := two_fin hTY
  have HC1 := Lib.hid hc1
  have HC2 := Lib.hid hc2
  have HN := Lib.hid hN
  have hxx : (x != x) = false := by simp
  have HS0 := HSS.out Y (fun _ _ => rfl)
  clear h hA1 hB1 hBY hTY hc1 hc2 hN HKE HYW hGl
  unfold askL at hW1 ⊢
  go_enter Tryz.func6, Tryz.ntmps6
  go_upto_region 1 with fail
  (try unfold askL at hW1)
  (try rw [hg])
  (try rw [hW1])
  go_upto_region 16 with fail
  refine wp_region_held_drew (S := (fun w => w.cell? ⟨pw, 0, none⟩ = some (.pointer (some ⟨q, 0, none⟩)) ∧ w.cell? ⟨pw, 1, none⟩ = some (.pointer (some ⟨qm, 0, none⟩)))) (by kernel_rfl) (by rw [hY]; exact HS0) (fun hHeld => ?_)
  rw [hY] at hHeld ⊢
  clear hY
  refine tkq 0 (some 95) (v := ?_) rfl (Or.inl ⟨by rfl, ?_⟩) (by assumption) ?_
  rotate_left
  · intro w hSw; (try dsimp only at hSw); go_simp; first | done | (with_reducible rfl)
  simp only [Act.put, List.setIfInBounds_toArray, List.set_cons_zero, List.set_cons_succ]
  refine tkq 1 (some 96) (v := ?_) rfl (Or.inl ⟨by rfl, ?_⟩) (by assumption) ?_
  rotate_left
  · intro w hSw; (try dsimp only at hSw); go_simp; first | done | (with_reducible rfl)
  simp only [Act.put, List.setIfInBounds_toArray, List.set_cons_zero, List.set_cons_succ]
  refine tkq 2 (some 97) (v := ?_) rfl (Or.inl ⟨by rfl, ?_⟩) (by assumption) ?_
  rotate_left
  · intro w hSw; (try dsimp only at hSw); go_simp; first | done | (with_reducible rfl)
  simp only [Act.put, List.setIfInBounds_toArray, List.set_cons_zero, List.set_cons_succ]
  refine tkq 3 (some 98) (v := ?_) rfl (Or.inl ⟨by rfl, ?_⟩) (by assumption) ?_
  rotate_left
  · intro w hSw; (try dsimp only at hSw); go_simp; first | done | (with_reducible rfl)
  simp only [Act.put, List.setIfInBounds_toArray, List.set_cons_zero, List.set_cons_succ]
  refine tkq 5 (some 100) (v := ?_) rfl (Or.inl ⟨by rfl, ?_⟩) (by assumption) ?_
  rotate_left
  · intro w hSw; (try dsimp only at hSw); go_simp; first | done | (with_reducible rfl)
  simp only [Act.put, List.setIfInBounds_toArray, List.set_cons_zero, List.set_cons_succ]
  refine tkq 6 (some 101) (v := ?_) rfl (Or.inl ⟨by rfl, ?_⟩) (by assumption) ?_
  rotate_left
  · intro w hSw; (try dsimp only at hSw); go_simp; first | done | (with_reducible rfl)
  simp only [Act.put, List.setIfInBounds_toArray, List.set_cons_zero, List.set_cons_succ]
  refine tkq 7 (some 102) (v := ?_) rfl (Or.inl ⟨by rfl, ?_⟩) (by assumption) ?_
  rotate_left
  · intro w hSw; (try dsimp only at hSw); go_simp; first | done | (with_reducible rfl)
  simp only [Act.put, List.setIfInBounds_toArray, List.set_cons_zero, List.set_cons_succ]
  refine tkq 8 (some 103) (v := ?_) rfl (Or.inl ⟨by rfl, ?_⟩) (by assumption) ?_
  rotate_left
  · intro w hSw; (try dsimp only at hSw); go_simp; first | done | (with_reducible rfl)
  simp only [Act.put, List.setIfInBounds_toArray, List.set_cons_zero, List.set_cons_succ]
  refine wpAnyH_ready (rs := [4]) (by kernel_rfl) (by simp) ?_
  refine AllReadyH.cons rfl (fun K hK => ?_) AllReadyH.nil
  go_simp
  go_wp2_with (go_at_call 12; (with_reducible refine HC1.out.mono ?_); rintro e w2 ⟨rfl, hH⟩; have HH := Lib.hid hH; clear hH)
  refine hK.out _ _ (HSS.out _ HH.out.2.2.1) (fun hHeld => ?_)
  clear hK K
  refine wpAnyH_ready (rs := [9]) (by kernel_rfl) (by simp) ?_
  refine AllReadyH.cons rfl (fun K hK => ?_) AllReadyH.nil
  go_simp
  go_wp2_with (go_at_call 13; (with_reducible refine (HC2.out _ HH.out).mono ?_); rintro e w3 ⟨rfl, hF⟩; have HF := Lib.hid hF; clear hF)
  refine hK.out _ _ (HSS.out _ (by obtain ⟨_, _, _, _, hh, _⟩ := HF.out; exact hh)) (fun hHeld => ?_)
  clear hK K
  refine tkq 10 (some 105) (v := ?_) rfl (Or.inl ⟨by rfl, ?_⟩) (by assumption) ?_
  rotate_left
  · intro w hSw; (try dsimp only at hSw); go_simp; first | done | (with_reducible rfl)
  simp only [Act.put, List.setIfInBounds_toArray, List.set_cons_zero, List.set_cons_succ]
  refine wpAnyH_done (by kernel_rfl) ?_ _
  go_wp2_with (first | (go_at_call 25; (with_reducible refine (HDS.out _ _ HN.out HF.out).mono ?_); rintro e w4 ⟨rfl, hD4⟩; have HD4 := Lib.hid hD4; clear hD4) | fail)
  go_ret
  exact ⟨by first | rfl | simp, HD4.out⟩
set_option maxRecDepth 100000 in
set_option maxHeartbeats 8000000 in
theorem do_stop (h : Wo R w0 W q p qm pw O X fr dd tv L) (hk : L.length ≤ k) : Calls Tryz.prog 6 #[.pointer (some ⟨pw, 0, none⟩), .agg (askL 3 room ii n A m c).toArray] W fun e w' => e = .returned (.bool true) ∧ DoP R W w0 q p qm pw X k w' := by
  obtain ⟨g, W1, hg, hW1, hA1, hB1, hgl, hpg, hGl, p0, p1, p2⟩ := do_box h (askL 3 room ii n A m c)
  have HKE := Lib.hid (fun (w2 : World) hk => do_keep (w2 := w2) h hB1 hA1 hk)
  obtain ⟨Y, hY⟩ : ∃ Y, W1.drew = Y := ⟨_, rfl⟩
  have hBY : Below W.heap.size W Y := by rw [← hY]; exact belowN hB1 1
  have hTY : Tw w0 Y q p qm O X fr dd (G3 R g pw tv) := h.box hBY (by rw [← hY]; exact ⟨by omega, hgl⟩)
  have HYW : Hid (∀ b, G3 R g pw tv b → Y.heap[b]? = W1.heap[b]?) := Lib.hid (fun b _ => by rw [← hY]; rfl)
  have HDS := Lib.hid (fun (X' : SS) (w3 : World) (hN : Nx X X') hF => do_same (k := k) (X' := X') (w3 := w3) (g := g) h hk hBY hN hF)
  have HSS : Hid (∀ w : World, (∀ b, G3 R g pw tv b → w.heap[b]? = Y.heap[b]?) → w.cell? ⟨pw, 0, none⟩ = some (.pointer (some ⟨q, 0, none⟩)) ∧ w.cell? ⟨pw, 1, none⟩ = some (.pointer (some ⟨qm, 0, none⟩)) ∧ w.cell? ⟨g, 3, none⟩ = some (.int .u64 n)) := Lib.hid (fun w hk => by
    obtain ⟨a1, a2⟩ := HKE.out w (fun b hb => (hk b hb).trans (HYW.out b hb))
    exact ⟨by rw [a1.cell]; rfl, by rw [a1.cell]; rfl, by rw [a2.cell]; rfl⟩)
  have a0 : W1.cell? ⟨g, 0, none⟩ = some (.int .i64 3) := by rw [hA1.cell]; rfl
  have a3 : W1.cell? ⟨g, 3, none⟩ = some (.int .u64 n) := by rw [hA1.cell]; rfl
  have a4 : W1.cell? ⟨g, 4, none⟩ = some (.slice A m c) := by rw [hA1.cell]; rfl
  obtain ⟨X', x, hN, hc1, hc2⟩ := two_stop hTY n
  have HC1 := Lib.hid hc1
  have HC2 := Lib.hid hc2
  have HN := Lib.hid hN
  have hxx : (x != x) = false := by simp
  have HS0 := HSS.out Y (fun _ _ => rfl)
  clear h hA1 hB1 hBY hTY hc1 hc2 hN HKE HYW hGl
  unfold askL at hW1 ⊢
  go_enter Tryz.func6, Tryz.ntmps6
  go_upto_region 1 with fail
  (try unfold askL at hW1)
  (try rw [hg])
  (try rw [hW1])
  go_upto_region 19 with fail
  refine wp_region_held_drew (S := (fun w => w.cell? ⟨pw, 0, none⟩ = some (.pointer (some ⟨q, 0, none⟩)) ∧ w.cell? ⟨pw, 1, none⟩ = some (.pointer (some ⟨qm, 0, none⟩)) ∧ w.cell? ⟨g, 3, none⟩ = some (.int .u64 n))) (by kernel_rfl) (by rw [hY]; exact HS0) (fun hHeld => ?_)
  rw [hY] at hHeld ⊢
  clear hY
  refine tkq 0 (some 108) (v := ?_) rfl (Or.inl ⟨by rfl, ?_⟩) (by assumption) ?_
  rotate_left
  · intro w hSw; (try dsimp only at hSw); go_simp; first | done | (with_reducible rfl)
  simp only [Act.put, List.setIfInBounds_toArray, List.set_cons_zero, List.set_cons_succ]
  refine tkq 1 (some 109) (v := ?_) rfl (Or.inl ⟨by rfl, ?_⟩) (by assumption) ?_
  rotate_left
  · intro w hSw; (try dsimp only at hSw); go_simp; first | done | (with_reducible rfl)
  simp only [Act.put, List.setIfInBounds_toArray, List.set_cons_zero, List.set_cons_succ]
  refine tkq 2 (some 110) (v := ?_) rfl (Or.inl ⟨by rfl, ?_⟩) (by assumption) ?_
  rotate_left
  · intro w hSw; (try dsimp only at hSw); go_simp; first | done | (with_reducible rfl)
  simp only [Act.put, List.setIfInBounds_toArray, List.set_cons_zero, List.set_cons_succ]
  refine tkq 3 (some 111) (v := ?_) rfl (Or.inl ⟨by rfl, ?_⟩) (by assumption) ?_
  rotate_left
  · intro w hSw; (try dsimp only at hSw); go_simp; first | done | (with_reducible rfl)
  simp only [Act.put, List.setIfInBounds_toArray, List.set_cons_zero, List.set_cons_succ]
  refine tkq 4 (some 112) (v := ?_) rfl (Or.inl ⟨by rfl, ?_⟩) (by assumption) ?_
  rotate_left
  · intro w hSw; (try dsimp only at hSw); go_simp; first | done | (with_reducible rfl)
  simp only [Act.put, List.setIfInBounds_toArray, List.set_cons_zero, List.set_cons_succ]
  refine tkq 5 (some 113) (v := ?_) rfl (Or.inl ⟨by rfl, ?_⟩) (by assumption) ?_
  rotate_left
  · intro w hSw; (try dsimp only at hSw); go_simp; first | done | (with_reducible rfl)
  simp only [Act.put, List.setIfInBounds_toArray, List.set_cons_zero, List.set_cons_succ]
  refine tkq 7 (some 115) (v := ?_) rfl (Or.inl ⟨by rfl, ?_⟩) (by assumption) ?_
  rotate_left
  · intro w hSw; (try dsimp only at hSw); go_simp; first | done | (with_reducible rfl)
  simp only [Act.put, List.setIfInBounds_toArray, List.set_cons_zero, List.set_cons_succ]
  refine tkq 8 (some 116) (v := ?_) rfl (Or.inl ⟨by rfl, ?_⟩) (by assumption) ?_
  rotate_left
  · intro w hSw; (try dsimp only at hSw); go_simp; first | done | (with_reducible rfl)
  simp only [Act.put, List.setIfInBounds_toArray, List.set_cons_zero, List.set_cons_succ]
  refine tkq 9 (some 117) (v := ?_) rfl (Or.inl ⟨by rfl, ?_⟩) (by assumption) ?_
  rotate_left
  · intro w hSw; (try dsimp only at hSw); go_simp; first | done | (with_reducible rfl)
  simp only [Act.put, List.setIfInBounds_toArray, List.set_cons_zero, List.set_cons_succ]
  refine tkq 10 (some 118) (v := ?_) rfl (Or.inl ⟨by rfl, ?_⟩) (by assumption) ?_
  rotate_left
  · intro w hSw; (try dsimp only at hSw); go_simp; first | done | (with_reducible rfl)
  simp only [Act.put, List.setIfInBounds_toArray, List.set_cons_zero, List.set_cons_succ]
  refine tkq 11 (some 119) (v := ?_) rfl (Or.inl ⟨by rfl, ?_⟩) (by assumption) ?_
  rotate_left
  · intro w hSw; (try dsimp only at hSw); go_simp; first | done | (with_reducible rfl)
  simp only [Act.put, List.setIfInBounds_toArray, List.set_cons_zero, List.set_cons_succ]
  refine tkq 12 (some 120) (v := ?_) rfl (Or.inl ⟨by rfl, ?_⟩) (by assumption) ?_
  rotate_left
  · intro w hSw; (try dsimp only at hSw); go_simp; first | done | (with_reducible rfl)
  simp only [Act.put, List.setIfInBounds_toArray, List.set_cons_zero, List.set_cons_succ]
  refine wpAnyH_ready (rs := [6]) (by kernel_rfl) (by simp) ?_
  refine AllReadyH.cons rfl (fun K hK => ?_) AllReadyH.nil
  go_simp
  go_wp2_with (go_at_call 14; (with_reducible refine HC1.out.mono ?_); rintro e w2 ⟨rfl, hH⟩; have HH := Lib.hid hH; clear hH)
  refine hK.out _ _ (HSS.out _ HH.out.2.2.1) (fun hHeld => ?_)
  clear hK K
  refine wpAnyH_ready (rs := [13]) (by kernel_rfl) (by simp) ?_
  refine AllReadyH.cons rfl (fun K hK => ?_) AllReadyH.nil
  go_simp
  go_wp2_with (go_at_call 15; (with_reducible refine (HC2.out _ HH.out).mono ?_); rintro e w3 ⟨rfl, hF⟩; have HF := Lib.hid hF; clear hF)
  refine hK.out _ _ (HSS.out _ (by obtain ⟨_, _, _, _, hh, _⟩ := HF.out; exact hh)) (fun hHeld => ?_)
  clear hK K
  refine tkq 14 (some 122) (v := ?_) rfl (Or.inl ⟨by rfl, ?_⟩) (by assumption) ?_
  rotate_left
  · intro w hSw; (try dsimp only at hSw); go_simp; first | done | (with_reducible rfl)
  simp only [Act.put, List.setIfInBounds_toArray, List.set_cons_zero, List.set_cons_succ]
  refine wpAnyH_done (by kernel_rfl) ?_ _
  go_wp2_with (first | (go_at_call 25; (with_reducible refine (HDS.out _ _ HN.out HF.out).mono ?_); rintro e w4 ⟨rfl, hD4⟩; have HD4 := Lib.hid hD4; clear hD4) | fail)
  go_ret
  exact ⟨by first | rfl | simp, HD4.out⟩
set_option maxRecDepth 100000 in
set_option maxHeartbeats 8000000 in
theorem do_limit (h : Wo R w0 W q p qm pw O X fr dd tv L) (hk : L.length ≤ k) (hn : n < 18446744073709551616) : Calls Tryz.prog 6 #[.pointer (some ⟨pw, 0, none⟩), .agg (askL 4 room ii n A m c).toArray] W fun e w' => e = .returned (.bool true) ∧ DoP R W w0 q p qm pw X k w' := by
  obtain ⟨g, W1, hg, hW1, hA1, hB1, hgl, hpg, hGl, p0, p1, p2⟩ := do_box h (askL 4 room ii n A m c)
  have HKE := Lib.hid (fun (w2 : World) hk => do_keep (w2 := w2) h hB1 hA1 hk)
  obtain ⟨Y, hY⟩ : ∃ Y, W1.drew = Y := ⟨_, rfl⟩
  have hBY : Below W.heap.size W Y := by rw [← hY]; exact belowN hB1 1
  have hTY : Tw w0 Y q p qm O X fr dd (G3 R g pw tv) := h.box hBY (by rw [← hY]; exact ⟨by omega, hgl⟩)
  have HYW : Hid (∀ b, G3 R g pw tv b → Y.heap[b]? = W1.heap[b]?) := Lib.hid (fun b _ => by rw [← hY]; rfl)
  have HDS := Lib.hid (fun (X' : SS) (w3 : World) (hN : Nx X X') hF => do_same (k := k) (X' := X') (w3 := w3) (g := g) h hk hBY hN hF)
  have HSS : Hid (∀ w : World, (∀ b, G3 R g pw tv b → w.heap[b]? = Y.heap[b]?) → w.cell? ⟨pw, 0, none⟩ = some (.pointer (some ⟨q, 0, none⟩)) ∧ w.cell? ⟨pw, 1, none⟩ = some (.pointer (some ⟨qm, 0, none⟩)) ∧ w.cell? ⟨g, 3, none⟩ = some (.int .u64 n)) := Lib.hid (fun w hk => by
    obtain ⟨a1, a2⟩ := HKE.out w (fun b hb => (hk b hb).trans (HYW.out b hb))
    exact ⟨by rw [a1.cell]; rfl, by rw [a1.cell]; rfl, by rw [a2.cell]; rfl⟩)
  have a0 : W1.cell? ⟨g, 0, none⟩ = some (.int .i64 4) := by rw [hA1.cell]; rfl
  have a3 : W1.cell? ⟨g, 3, none⟩ = some (.int .u64 n) := by rw [hA1.cell]; rfl
  have a4 : W1.cell? ⟨g, 4, none⟩ = some (.slice A m c) := by rw [hA1.cell]; rfl
  have hlim := hTY.sm.ok.lim
  obtain ⟨hc1, hc2⟩ := two_limit hTY (n % 500) (by omega)
  have HN : Hid (∀ mx, Nx X { X with lim := mx }) := Lib.hid (fun _ => Nx.bs rfl rfl)
  have HS0 := HSS.out Y (fun _ _ => rfl)
  have hmo : ((n % 500 : Nat) : Int) = (n : Int).tmod 500 := by rw [Int.tmod_eq_emod_of_nonneg (by omega)]; omega
  have HC1 : Hid (Calls Tryz.prog 16 #[.pointer (some ⟨q, 0, none⟩), .int .u64 ((n : Int).tmod 500)] Y (fun e w1 => e = .returned (.tuple #[]) ∧ Half w0 Y w1 q p qm O X { X with lim := max X.lim (n % 500) } fr dd (G3 R g pw tv))) := Lib.hid (by rw [← hmo]; exact hc1)
  obtain ⟨mx, hmxd⟩ : ∃ mx, max X.lim (n % 500) = mx := ⟨_, rfl⟩
  rw [hmxd] at HC1 hc2
  have hmx : (if (X.lim : Int) < (n : Int).tmod 500 then (n : Int).tmod 500 else (X.lim : Int)) = (mx : Int) := by rw [← hmxd, ← hmo]; split <;> omega
  have HC2 := Lib.hid hc2
  clear h hA1 hB1 hBY hTY hc1 hc2 HKE HYW hGl hmxd hmo
  unfold askL at hW1 ⊢
  go_enter Tryz.func6, Tryz.ntmps6
  go_upto_region 1 with fail
  (try unfold askL at hW1)
  (try rw [hg])
  (try rw [hW1])
  go_upto_region 22 with fail
  refine wp_region_held_drew (S := (fun w => w.cell? ⟨pw, 0, none⟩ = some (.pointer (some ⟨q, 0, none⟩)) ∧ w.cell? ⟨g, 3, none⟩ = some (.int .u64 n))) (by kernel_rfl) (by rw [hY]; exact ⟨HS0.1, HS0.2.2⟩) (fun hHeld => ?_)
  rw [hY] at hHeld ⊢
  clear hY
  refine tkq 0 (some 125) (v := ?_) rfl (Or.inl ⟨by rfl, ?_⟩) (by assumption) ?_
  rotate_left
  · intro w hSw; (try dsimp only at hSw); go_simp; first | done | (with_reducible rfl)
  simp only [Act.put, List.setIfInBounds_toArray, List.set_cons_zero, List.set_cons_succ]
  refine tkq 1 (some 126) (v := ?_) rfl (Or.inl ⟨by rfl, ?_⟩) (by assumption) ?_
  rotate_left
  · intro w hSw; (try dsimp only at hSw); go_simp; first | done | (with_reducible rfl)
  simp only [Act.put, List.setIfInBounds_toArray, List.set_cons_zero, List.set_cons_succ]
  refine tkq 2 (some 127) (v := ?_) rfl (Or.inl ⟨by rfl, ?_⟩) (by assumption) ?_
  rotate_left
  · intro w hSw; (try dsimp only at hSw); go_simp; first | done | (with_reducible rfl)
  simp only [Act.put, List.setIfInBounds_toArray, List.set_cons_zero, List.set_cons_succ]
  refine tkq 3 (some 128) (v := ?_) rfl (Or.inl ⟨by rfl, ?_⟩) (by assumption) ?_
  rotate_left
  · intro w hSw; (try dsimp only at hSw); go_simp; first | done | (with_reducible rfl)
  simp only [Act.put, List.setIfInBounds_toArray, List.set_cons_zero, List.set_cons_succ]
  refine tkq 4 (some 129) (v := ?_) rfl (Or.inl ⟨by rfl, ?_⟩) (by assumption) ?_
  rotate_left
  · intro w hSw; (try dsimp only at hSw); go_simp; first | done | (with_reducible rfl)
  simp only [Act.put, List.setIfInBounds_toArray, List.set_cons_zero, List.set_cons_succ]
  refine tkq 5 (some 130) (v := ?_) rfl (Or.inl ⟨by rfl, ?_⟩) (by assumption) ?_
  rotate_left
  · intro w hSw; (try dsimp only at hSw); go_simp; first | done | (with_reducible rfl)
  simp only [Act.put, List.setIfInBounds_toArray, List.set_cons_zero, List.set_cons_succ]
  refine tkq 6 (some 131) (v := ?_) rfl (Or.inl ⟨by rfl, ?_⟩) (by assumption) ?_
  rotate_left
  · intro w hSw; (try dsimp only at hSw); go_simp; first | done | (with_reducible rfl)
  simp only [Act.put, List.setIfInBounds_toArray, List.set_cons_zero, List.set_cons_succ]
  refine wpAnyH_ready (rs := [7]) (by kernel_rfl) (by simp) ?_
  refine AllReadyH.cons rfl (fun K hK => ?_) AllReadyH.nil
  go_simp
  go_wp2_with (go_at_call 16; (with_reducible refine HC1.out.mono ?_); rintro e w2 ⟨rfl, hH⟩; have HH := Lib.hid hH; clear hH)
  refine hK.out _ _ (⟨(HSS.out _ HH.out.2.2.1).1, (HSS.out _ HH.out.2.2.1).2.2⟩) (fun hHeld => ?_)
  clear hK K
  refine wpAnyH_done (by kernel_rfl) ?_ _
  obtain ⟨Y2, hY2⟩ : ∃ Y2, w2.drew = Y2 := ⟨_, rfl⟩
  have hH2 : Half w0 Y Y2 q p qm O X { X with lim := mx } fr dd (G3 R g pw tv) := by rw [← hY2]; exact HH.out.drewN 1
  have hl2 := HC2.out Y2 hH2
  have l1 := hl2.1
  have l2 := hl2.2.1
  have HF := Lib.hid hl2.2.2
  have HS2 := HSS.out Y2 hH2.2.2.1
  clear hl2 HC1 HC2 hH2
  go_upto_region 23 with fail
  refine wp_region_held_drew (S := (fun w => w.cell? ⟨pw, 1, none⟩ = some (.pointer (some ⟨qm, 0, none⟩)) ∧ w.cell? ⟨g, 3, none⟩ = some (.int .u64 n))) (by kernel_rfl) (by rw [hY2]; exact HS2.2) (fun hHeld => ?_)
  rw [hY2] at hHeld ⊢
  clear hY2
  refine tkq 0 (some 133) (v := ?_) rfl (Or.inl ⟨by rfl, ?_⟩) (by assumption) ?_
  rotate_left
  · intro w hSw; (try dsimp only at hSw); go_simp; first | done | (with_reducible rfl)
  simp only [Act.put, List.setIfInBounds_toArray, List.set_cons_zero, List.set_cons_succ]
  refine tkq 1 (some 134) (v := ?_) rfl (Or.inl ⟨by rfl, ?_⟩) (by assumption) ?_
  rotate_left
  · intro w hSw; (try dsimp only at hSw); go_simp; first | done | (with_reducible rfl)
  simp only [Act.put, List.setIfInBounds_toArray, List.set_cons_zero, List.set_cons_succ]
  refine tkq 2 (some 135) (v := ?_) rfl (Or.inl ⟨by rfl, ?_⟩) (by assumption) ?_
  rotate_left
  · intro w hSw; (try dsimp only at hSw); go_simp; first | done | (with_reducible rfl)
  simp only [Act.put, List.setIfInBounds_toArray, List.set_cons_zero, List.set_cons_succ]
  refine tkq 3 (some 136) (v := ?_) rfl (Or.inl ⟨by rfl, ?_⟩) (by assumption) ?_
  rotate_left
  · intro w hSw; (try dsimp only at hSw); go_simp; first | done | (with_reducible rfl)
  simp only [Act.put, List.setIfInBounds_toArray, List.set_cons_zero, List.set_cons_succ]
  refine tkq 4 (some 137) (v := ?_) rfl (Or.inl ⟨by rfl, ?_⟩) (by assumption) ?_
  rotate_left
  · intro w hSw; (try dsimp only at hSw); go_simp; first | done | (with_reducible rfl)
  simp only [Act.put, List.setIfInBounds_toArray, List.set_cons_zero, List.set_cons_succ]
  refine tkq 5 (some 138) (v := ?_) rfl (Or.inl ⟨by rfl, ?_⟩) (by assumption) ?_
  rotate_left
  · intro w hSw; (try dsimp only at hSw); go_simp; first | done | (with_reducible rfl)
  simp only [Act.put, List.setIfInBounds_toArray, List.set_cons_zero, List.set_cons_succ]
  refine tkq 6 (some 139) (v := ?_) rfl (Or.inl ⟨by rfl, ?_⟩) (by assumption) ?_
  rotate_left
  · intro w hSw; (try dsimp only at hSw); go_simp; first | done | (with_reducible rfl)
  simp only [Act.put, List.setIfInBounds_toArray, List.set_cons_zero, List.set_cons_succ]
  refine tkq 7 (some 140) (v := ?_) rfl (Or.inl ⟨by rfl, ?_⟩) (by assumption) ?_
  rotate_left
  · intro w hSw; (try dsimp only at hSw); go_simp; first | done | (with_reducible rfl)
  simp only [Act.put, List.setIfInBounds_toArray, List.set_cons_zero, List.set_cons_succ]
  refine tkq 8 (some 141) (v := ?_) rfl (Or.inl ⟨by rfl, ?_⟩) (by assumption) ?_
  rotate_left
  · intro w hSw; (try dsimp only at hSw); go_simp; first | done | (with_reducible rfl)
  simp only [Act.put, List.setIfInBounds_toArray, List.set_cons_zero, List.set_cons_succ]
  refine tkq 9 (some 142) (v := ?_) rfl (Or.inl ⟨by rfl, ?_⟩) (by assumption) ?_
  rotate_left
  · intro w hSw; (try dsimp only at hSw); go_simp; first | done | (with_reducible rfl)
  simp only [Act.put, List.setIfInBounds_toArray, List.set_cons_zero, List.set_cons_succ]
  refine tkq 11 (some 144) (v := ?_) rfl (Or.inl ⟨by rfl, ?_⟩) (by assumption) ?_
  rotate_left
  · intro w hSw; (try dsimp only at hSw); go_simp; first | done | (with_reducible rfl)
  simp only [Act.put, List.setIfInBounds_toArray, List.set_cons_zero, List.set_cons_succ]
  refine tkq 12 (some 145) (v := ?_) rfl (Or.inl ⟨by rfl, ?_⟩) (by assumption) ?_
  rotate_left
  · intro w hSw; (try dsimp only at hSw); go_simp; first | done | (with_reducible rfl)
  simp only [Act.put, List.setIfInBounds_toArray, List.set_cons_zero, List.set_cons_succ]
  refine tkq 13 (some 146) (v := ?_) rfl (Or.inl ⟨by rfl, ?_⟩) (by assumption) ?_
  rotate_left
  · intro w hSw; (try dsimp only at hSw); go_simp; first | done | (with_reducible rfl)
  simp only [Act.put, List.setIfInBounds_toArray, List.set_cons_zero, List.set_cons_succ]
  refine wpAnyH_ready (rs := [10]) (by kernel_rfl) (by simp) ?_
  refine AllReadyH.cons rfl (fun K hK => ?_) AllReadyH.nil
  go_simp
  go_wp2_with (fail)
  refine hK.out _ _ (HS2.2) (fun hHeld => ?_)
  clear hK K
  refine tkq 14 (some 147) (v := ?_) rfl (Or.inl ⟨by rfl, ?_⟩) (by assumption) ?_
  rotate_left
  · intro w hSw; (try dsimp only at hSw); go_simp; first | done | (with_reducible rfl)
  simp only [Act.put, List.setIfInBounds_toArray, List.set_cons_zero, List.set_cons_succ]
  refine tkq 15 (some 148) (v := ?_) rfl (Or.inl ⟨by rfl, ?_⟩) (by assumption) ?_
  rotate_left
  · intro w hSw; (try dsimp only at hSw); go_simp; first | done | (with_reducible rfl)
  simp only [Act.put, List.setIfInBounds_toArray, List.set_cons_zero, List.set_cons_succ]
  refine tkq 16 (some 149) (v := ?_) rfl (Or.inl ⟨by rfl, ?_⟩) (by assumption) ?_
  rotate_left
  · intro w hSw; (try dsimp only at hSw); go_simp; first | done | (with_reducible rfl)
  simp only [Act.put, List.setIfInBounds_toArray, List.set_cons_zero, List.set_cons_succ]
  refine wpAnyH_ready (rs := [17]) (by kernel_rfl) (by simp) ?_
  refine AllReadyH.cons rfl (fun K hK => ?_) AllReadyH.nil
  go_simp
  go_wp2_with (fail)
  refine hK.out _ _ ((HSS.out _ (by obtain ⟨_, _, _, _, hh, _⟩ := HF.out; exact hh)).2) (fun hHeld => ?_)
  clear hK K
  refine wpAnyH_done (by kernel_rfl) ?_ _
  go_wp2_with (first | (go_at_call 25; (with_reducible refine (HDS.out _ _ (HN.out _) HF.out).mono ?_); rintro e w4 ⟨rfl, hD4⟩; have HD4 := Lib.hid hD4; clear hD4) | fail)
  go_ret
  exact ⟨by first | rfl | simp, HD4.out⟩
set_option maxRecDepth 100000 in
set_option maxHeartbeats 8000000 in
theorem do_write0 (h : Wo R w0 W q p qm pw O X fr dd tv L) (hk : L.length ≤ k) (bs : List Int) (hrd : Rd w0 w0.heap.size A m bs) (hmc : m ≤ c) (hcm : c ≤ maxLen) (hA : A = none → c = 0) (hL : X.o.bs.length ≤ 700000) : Calls Tryz.prog 6 #[.pointer (some ⟨pw, 0, none⟩), .agg (askL 0 room ii n A m c).toArray] W fun e w' => e = .returned (.bool true) ∧ DoP R W w0 q p qm pw X k w' := by
  obtain ⟨g, W1, hg, hW1, hA1, hB1, hgl, hpg, hGl, p0, p1, p2⟩ := do_box h (askL 0 room ii n A m c)
  have HKE := Lib.hid (fun (w2 : World) hk => do_keep (w2 := w2) h hB1 hA1 hk)
  have hTY : Tw w0 W1 q p qm O X fr dd (G3 R g pw tv) := h.box hB1 ⟨by omega, hgl⟩
  have HDS := Lib.hid (fun (X' : SS) (w3 : World) (hN : Nx X X') hF => do_same (k := k) (X' := X') (w3 := w3) (g := g) h hk hB1 hN hF)
  have HSS : Hid (∀ w : World, (∀ b, G3 R g pw tv b → w.heap[b]? = W1.heap[b]?) → w.cell? ⟨pw, 1, none⟩ = some (.pointer (some ⟨qm, 0, none⟩))) := Lib.hid (fun w hk => by
    obtain ⟨a1, a2⟩ := HKE.out w hk
    rw [a1.cell]; rfl)
  have a0 : W1.cell? ⟨g, 0, none⟩ = some (.int .i64 0) := by rw [hA1.cell]; rfl
  have a4 : W1.cell? ⟨g, 4, none⟩ = some (.slice A m c) := by rw [hA1.cell]; rfl
  have HCU : Hid (Calls Tryz.prog 9 #[.slice A m c, .int .i64 60] W1 fun e w' => e = .returned (.slice A (min m 60) c) ∧ w' = W1) := Lib.hid (ecut_any A m c 60 W1 hmc hcm (by omega) hA)
  obtain ⟨mm, hmm⟩ : ∃ mm, mm = min m 60 := ⟨_, rfl⟩
  rw [← hmm] at HCU
  have hmc2 : mm ≤ c := by omega
  have hcm' : c < 9223372036854775808 := by unfold maxLen at hcm; omega
  have hRT := hrd.cutTo (show mm ≤ m by omega)
  obtain ⟨X', y, x, hN, hc1, hc2⟩ := two_write hTY A mm c (bs.take mm) hRT hmc2 (by omega) hcm' hL
  have HC1 := Lib.hid hc1
  have HC2 := Lib.hid hc2
  have HN := Lib.hid hN
  have hxx : (x != x) = false := by simp
  have hyy : (y != y) = false := by simp
  clear h hA1 hB1 hTY hc1 hc2 hN HKE hGl hrd hRT hcm hA hmm hL
  unfold askL at hW1 ⊢
  go_enter Tryz.func6, Tryz.ntmps6
  go_upto_region 1 with fail
  (try unfold askL at hW1)
  (try rw [hg])
  (try rw [hW1])
  go_wp2_with (first
    | (go_at_call 9; (with_reducible refine HCU.out.mono ?_); rintro e w9 ⟨rfl, hw9⟩; rw [hw9]; clear hw9)
    | (go_at_call 10; (with_reducible refine HC1.out.mono ?_); rintro e w2 ⟨rfl, hH⟩; have HH := Lib.hid hH; have x1 := HSS.out w2 hH.2.2.1; clear hH)
    | (go_at_call 11; (with_reducible refine (HC2.out w2 HH.out).mono ?_); rintro e w3 ⟨rfl, hF⟩; have HF := Lib.hid hF; clear hF)
    | (go_at_call 25; (with_reducible refine (HDS.out _ _ HN.out HF.out).mono ?_); rintro e w4 ⟨rfl, hD4⟩; have HD4 := Lib.hid hD4; clear hD4)
    | fail)
  go_ret
  exact ⟨by first | rfl | simp, HD4.out⟩
end
end Go.Proofs.YtbejpafephofaaaGreat
