/-
  Both receivers: Lost, Stop (Halt).
-/
import Derived.Test.YtphpdaldplkgmaaGreatMq18
import Derived.Deep.Cut
import Derived.Test.YtphpdaldplkgmaaGreatProg
import Derived.Test.YtphpdaldplkgmaaGreatMq0
import Derived.ChangeKeysEq
namespace Go.Proofs.YtphpdaldplkgmaaGreat
section
set_option linter.unusedVariables false
set_option linter.unusedSimpArgs false
open Go.RowKit
section
variable {w w' w1 : World} {base p q : Nat} {O : Nat → Prop} {X X' : QS}
theorem Qp.put (h : Qp w base p O X) (j : Nat) (u : Value) (he : ∀ pin, (qpL X pin).set j u = qpL X' pin) (hst : X'.st = X.st) (hb : X'.b = X.b) : Qp (w.setCell ⟨p, j, none⟩ u) base p O X' := by
  rcases h with ⟨h5, pb, Ob, rfl, h⟩ | ⟨h5, rfl, h⟩
  · exact .inl ⟨by rw [hst]; exact h5, pb, Ob, rfl, h.set j u (he _) hb⟩
  · exact .inr ⟨by rw [hst]; exact h5, rfl, h.set j u (he _)⟩
theorem Qp.top (h : Qp w base p O X) (h' : Qp w' base p O X') (k : Kept (· = p) w w') (r : Value) : QPost r base p O X' w (.returned r) w' := ⟨rfl, O, h', k.mono fun j hj => .inl (by rw [hj]; exact h.own), fun j hj => .inl hj⟩
/-- What Lost meets. -/
structure LsP (w : World) (base p g : Nat) (O : Nat → Prop) (X : QS) (mk ml : Int) (W : World) : Prop where
  b : Below w.heap.size w W
  c3 : W.cell? ⟨p, 3, none⟩ = some (.int .u64 X.lim)
  c7 : W.cell? ⟨p, 7, none⟩ = some (.bool X.asked)
  c9 : W.cell? ⟨p, 9, none⟩ = some (.bool X.due)
  c10 : W.cell? ⟨p, 10, none⟩ = some (.bool X.again)
  f9 : W.frozen? ⟨p, 9, none⟩ = false
  f10 : W.frozen? ⟨p, 10, none⟩ = false
  g0 : W.cell? ⟨g, 0, none⟩ = some (.int .i64 mk)
  g5 : W.cell? ⟨g, 5, none⟩ = some (.int .u64 ml)
  lk : Calls Tryz.prog 32 #[.pointer (some ⟨p, 0, none⟩)] W fun e w' => e = .returned (.bool (decide (X.st ≤ 2))) ∧ w' = W
  po : QPost (.tuple #[]) base p O X w (.returned (.tuple #[])) W
  pd : QPost (.tuple #[]) base p O { X with due := true } w (.returned (.tuple #[])) (W.setCell ⟨p, 9, none⟩ (.bool true))
  pg : ∀ n, QPost (.tuple #[]) base p O { X with again := true } w (.returned (.tuple #[])) ((W.drewN n).setCell ⟨p, 10, none⟩ (.bool true))
  pn : ∀ n, QPost (.tuple #[]) base p O X w (.returned (.tuple #[])) (W.drewN n)
theorem lsP (h : Qp w base p O X) (ho : X.ok) {W1 : World} (hB : Below w.heap.size w W1) {g : Nat} {mk ml : Int} (d0 : W1.cell? ⟨g, 0, none⟩ = some (.int .i64 mk)) (d5 : W1.cell? ⟨g, 5, none⟩ = some (.int .u64 ml)) (j : Nat) : LsP w base p g O X mk ml (W1.drewN j) := by
  have hb := belowN hB j
  have h1 := (h.below hB).drewN j
  refine ⟨hb, h1.c3, h1.c7, h1.c9, h1.c10, h1.fz 9, h1.fz 10, d0, d5, q_lacks h1 ho.st, h.same hb _, ?_, fun n => ?_, fun n => h.same (belowN hb n) _⟩
  · exact h.after hb (h1.top (h1.put (X' := { X with due := true }) 9 (.bool true) (fun _ => rfl) rfl rfl) ((Kept.refl _ _).setAt 9 _) _)
  · have h2 := h1.drewN n
    exact h.after (belowN hb n) (h2.top (h2.put (X' := { X with again := true }) 10 (.bool true) (fun _ => rfl) rfl rfl) ((Kept.refl _ _).setAt 10 _) _)
structure LsR (w : World) (base q g : Nat) (O : Nat → Prop) (X : QS) (mk ml : Int) (W : World) : Prop where
  b : Below w.heap.size w W
  c2 : W.cell? ⟨q, 2, none⟩ = some (.int .u64 X.lim)
  c5 : W.cell? ⟨q, 5, none⟩ = some (.int .i64 X.st)
  c31 : W.cell? ⟨q, 31, none⟩ = some (.bool X.asked)
  c32 : W.cell? ⟨q, 32, none⟩ = some (.bool X.due)
  c33 : W.cell? ⟨q, 33, none⟩ = some (.bool X.again)
  f32 : W.frozen? ⟨q, 32, none⟩ = false
  f33 : W.frozen? ⟨q, 33, none⟩ = false
  g0 : W.cell? ⟨g, 0, none⟩ = some (.int .i64 mk)
  g5 : W.cell? ⟨g, 5, none⟩ = some (.int .u64 ml)
  g0' : (W.setCell ⟨q, 32, none⟩ (.bool true)).cell? ⟨g, 0, none⟩ = some (.int .i64 mk)
  pd : ∀ n, RqPost (.tuple #[]) base q O { X with due := true } w (.returned (.tuple #[])) ((W.setCell ⟨q, 32, none⟩ (.bool true)).drewN n)
  pg : ∀ n, RqPost (.tuple #[]) base q O { X with again := true } w (.returned (.tuple #[])) ((W.drewN n).setCell ⟨q, 33, none⟩ (.bool true))
  pn : ∀ n, RqPost (.tuple #[]) base q O X w (.returned (.tuple #[])) (W.drewN n)
theorem lsR (h : Qr w base q O X) {W1 : World} (hB : Below w.heap.size w W1) {g : Nat} {mk ml : Int} (hgq : g ≠ q) (d0 : W1.cell? ⟨g, 0, none⟩ = some (.int .i64 mk)) (d5 : W1.cell? ⟨g, 5, none⟩ = some (.int .u64 ml)) (j : Nat) : LsR w base q g O X mk ml (W1.drewN j) := by
  have hb := belowN hB j
  have h1 := (h.below hB).drewN j
  refine ⟨hb, h1.c2, h1.c5, h1.c31, h1.c32, h1.c33, h1.fz 32, h1.fz 33, d0, d5, (World.cell?_of_block (Below.heap_setCell _ ⟨q, 32, none⟩ _ g (fun e => hgq e))).trans d0, fun n => ?_, fun n => ?_, fun n => h.same (belowN hb n) _⟩
  · exact RqPost.after hb (h1.top ((h1.set (X' := { X with due := true }) 32 (.bool true) (fun _ _ => rfl) rfl).drewN n) (((Kept.refl _ _).setAt 32 _).drewN n) _)
  · have h2 := h1.drewN n
    exact RqPost.after (belowN hb n) (h2.top (h2.set (X' := { X with again := true }) 33 (.bool true) (fun _ _ => rfl) rfl) ((Kept.refl _ _).setAt 33 _) _)

set_option maxRecDepth 100000 in
set_option maxHeartbeats 8000000 in
theorem q_lost (h : Qp w base p O X) (ho : X.ok) (m : FN) (d r : Sl) : Calls Tryz.prog 22 #[.pointer (some ⟨p, 0, none⟩), frV m d r] w (QPost (.tuple #[]) base p O (lostQ X m.k m.s m.l) w) := by
  obtain ⟨L, W1, hfv, hL, hW1, hB, hlt, hA, d0, d1, d2, d3, d4, d5, d6, d7⟩ := fr_box8 w m d r
  rw [hfv]
  have h1 := h.below hB
  have HB := Lib.hid hB
  have c0 := h1.c0
  have hst := ho.st
  have HN := Lib.hid (fun j => lsP h ho hB d0 d5 j)
  obtain ⟨g, hg⟩ : ∃ g, w.heap.size = g := ⟨_, rfl⟩
  rw [hg] at HN d0 d1 d2 d3 d4 d5 d6 d7
  have HNS := Lib.hid (fun j => (HN.out j).pn 0)
  clear h ho h1 hL hA hfv hlt
  obtain ⟨mk, hmk⟩ : ∃ k, m.k = k := ⟨_, rfl⟩
  obtain ⟨ms, hms⟩ : ∃ k, m.s = k := ⟨_, rfl⟩
  obtain ⟨ml, hml⟩ : ∃ k, m.l = k := ⟨_, rfl⟩
  rw [hmk, hms, hml]
  rw [hmk] at d0
  rw [hmk, hml] at HN
  rw [hms] at d1
  rw [hml] at d5
  clear hmk hms hml
  have hcs : (ms = X.id ∧ mk = 5 ∧ X.asked = true ∧ X.st ≤ 2) ∨ (ms = X.id ∧ mk = 5 ∧ X.asked = true ∧ ¬ X.st ≤ 2) ∨ (ms = X.id ∧ mk = 5 ∧ X.asked = false) ∨ (ms = X.id ∧ mk = 17 ∧ ml = X.lim) ∨ (ms = X.id ∧ mk = 17 ∧ ml ≠ X.lim) ∨ (ms = X.id ∧ mk ≠ 5 ∧ mk ≠ 17) ∨ ms ≠ X.id := by
    cases X.asked <;> simp <;> omega
  rcases hcs with ⟨hs, hk, ha, h2⟩ | ⟨hs, hk, ha, h2⟩ | ⟨hs, hk, ha⟩ | ⟨hs, hk, hl⟩ | ⟨hs, hk, hl⟩ | ⟨hs, hk, hk2⟩ | hs
  · have e : lostQ X mk ms ml = { X with due := true } := by unfold lostQ; rw [if_pos hs, if_pos hk, if_pos ⟨ha, h2⟩]
    rw [e]
    clear e
    subst hs
    subst hk
    go_enter Tryz.func22, Tryz.ntmps22
    go_wp2_with fail
    (try rw [hg])
    (try rw [hW1])
    go_quiet (fail)
    have hK := HN.out nq
    obtain ⟨W3, hW3⟩ : ∃ W, W1.drewN nq = W := ⟨_, rfl⟩
    rw [hW3] at hK ⊢
    clear hW3
    obtain ⟨yb, y3, y7, y9, y10, yf9, yf10, y0, y5, ylk, ypo, ypd, ypg, ypn⟩ := hK
    have HLK := Lib.hid ylk
    have HPO := Lib.hid ypo
    have HPD := Lib.hid ypd
    have HPG := Lib.hid ypg
    have HPN := Lib.hid ypn
    clear yb ylk ypo ypd ypg ypn HN HNS d0 d1 d2 d3 d4 d5 d6 d7
    rw [ha] at y7
    have h2z : decide (X.st ≤ 2) = true := by simpa using h2
    rw [h2z] at HLK
    clear h2 h2z hst
    go_wp2_with (go_at_call 32; (with_reducible refine HLK.out.mono ?_); rintro e w2 ⟨rfl, hw2⟩; rw [hw2]; clear hw2)
    (first | go_end0 | refine bodyPost_ret (results_none rfl _ _ _) rfl ?_)
    exact HPD.out
  · have e : lostQ X mk ms ml = X := by unfold lostQ; rw [if_pos hs, if_pos hk, if_neg (fun h => h2 h.2)]
    rw [e]
    clear e
    subst hs
    subst hk
    go_enter Tryz.func22, Tryz.ntmps22
    go_wp2_with fail
    (try rw [hg])
    (try rw [hW1])
    go_quiet (fail)
    have hK := HN.out nq
    obtain ⟨W3, hW3⟩ : ∃ W, W1.drewN nq = W := ⟨_, rfl⟩
    rw [hW3] at hK ⊢
    clear hW3
    obtain ⟨yb, y3, y7, y9, y10, yf9, yf10, y0, y5, ylk, ypo, ypd, ypg, ypn⟩ := hK
    have HLK := Lib.hid ylk
    have HPO := Lib.hid ypo
    have HPD := Lib.hid ypd
    have HPG := Lib.hid ypg
    have HPN := Lib.hid ypn
    clear yb ylk ypo ypd ypg ypn HN HNS d0 d1 d2 d3 d4 d5 d6 d7
    rw [ha] at y7
    have h2z : decide (X.st ≤ 2) = false := by simpa using h2
    rw [h2z] at HLK
    clear h2 h2z hst
    go_wp2_with (go_at_call 32; (with_reducible refine HLK.out.mono ?_); rintro e w2 ⟨rfl, hw2⟩; rw [hw2]; clear hw2)
    (first | go_end0 | refine bodyPost_ret (results_none rfl _ _ _) rfl ?_)
    exact HPO.out
  · have e : lostQ X mk ms ml = X := by unfold lostQ; rw [if_pos hs, if_pos hk, if_neg (fun h => by rw [ha] at h; cases h.1)]
    rw [e]
    clear e
    subst hs
    subst hk
    go_enter Tryz.func22, Tryz.ntmps22
    go_wp2_with fail
    (try rw [hg])
    (try rw [hW1])
    go_quiet (fail)
    have hK := HN.out nq
    obtain ⟨W3, hW3⟩ : ∃ W, W1.drewN nq = W := ⟨_, rfl⟩
    rw [hW3] at hK ⊢
    clear hW3
    obtain ⟨yb, y3, y7, y9, y10, yf9, yf10, y0, y5, ylk, ypo, ypd, ypg, ypn⟩ := hK
    have HLK := Lib.hid ylk
    have HPO := Lib.hid ypo
    have HPD := Lib.hid ypd
    have HPG := Lib.hid ypg
    have HPN := Lib.hid ypn
    clear yb ylk ypo ypd ypg ypn HN HNS d0 d1 d2 d3 d4 d5 d6 d7
    rw [ha] at y7
    clear hst
    go_wp2_with fail
    (first | go_end0 | refine bodyPost_ret (results_none rfl _ _ _) rfl ?_)
    exact HPO.out
  · have e : lostQ X mk ms ml = { X with again := true } := by unfold lostQ; rw [if_pos hs, if_neg (by omega), if_pos hk, if_pos hl]
    rw [e]
    clear e
    subst hs
    subst hk
    subst hl
    go_enter Tryz.func22, Tryz.ntmps22
    go_wp2_with fail
    (try rw [hg])
    (try rw [hW1])
    go_quiet (fail)
    have hK := HN.out nq
    obtain ⟨W3, hW3⟩ : ∃ W, W1.drewN nq = W := ⟨_, rfl⟩
    rw [hW3] at hK ⊢
    clear hW3
    obtain ⟨yb, y3, y7, y9, y10, yf9, yf10, y0, y5, ylk, ypo, ypd, ypg, ypn⟩ := hK
    have HLK := Lib.hid ylk
    have HPO := Lib.hid ypo
    have HPD := Lib.hid ypd
    have HPG := Lib.hid ypg
    have HPN := Lib.hid ypn
    clear yb ylk ypo ypd ypg ypn HN HNS d0 d1 d2 d3 d4 d5 d6 d7
    clear hst
    go_wp2_with fail
    go_quiet (fail)
    go_wp2
    (first | go_end0 | refine bodyPost_ret (results_none rfl _ _ _) rfl ?_)
    exact HPG.out _
  · have e : lostQ X mk ms ml = X := by unfold lostQ; rw [if_pos hs, if_neg (by omega), if_pos hk, if_neg hl]
    rw [e]
    clear e
    subst hs
    subst hk
    have hlz : (ml == (X.lim : Int)) = false := by simpa using hl
    go_enter Tryz.func22, Tryz.ntmps22
    go_wp2_with fail
    (try rw [hg])
    (try rw [hW1])
    go_quiet (fail)
    have hK := HN.out nq
    obtain ⟨W3, hW3⟩ : ∃ W, W1.drewN nq = W := ⟨_, rfl⟩
    rw [hW3] at hK ⊢
    clear hW3
    obtain ⟨yb, y3, y7, y9, y10, yf9, yf10, y0, y5, ylk, ypo, ypd, ypg, ypn⟩ := hK
    have HLK := Lib.hid ylk
    have HPO := Lib.hid ypo
    have HPD := Lib.hid ypd
    have HPG := Lib.hid ypg
    have HPN := Lib.hid ypn
    clear yb ylk ypo ypd ypg ypn HN HNS d0 d1 d2 d3 d4 d5 d6 d7
    clear hst hl
    go_wp2_with fail
    go_quiet (fail)
    go_wp2
    (first | go_end0 | refine bodyPost_ret (results_none rfl _ _ _) rfl ?_)
    exact HPN.out _
  · have e : lostQ X mk ms ml = X := by unfold lostQ; rw [if_pos hs, if_neg hk, if_neg hk2]
    rw [e]
    clear e
    subst hs
    have hkz : (mk == 5) = false := by simpa using hk
    have hkz2 : (mk == 17) = false := by simpa using hk2
    go_enter Tryz.func22, Tryz.ntmps22
    go_wp2_with fail
    (try rw [hg])
    (try rw [hW1])
    go_quiet (fail)
    have hK := HN.out nq
    obtain ⟨W3, hW3⟩ : ∃ W, W1.drewN nq = W := ⟨_, rfl⟩
    rw [hW3] at hK ⊢
    clear hW3
    obtain ⟨yb, y3, y7, y9, y10, yf9, yf10, y0, y5, ylk, ypo, ypd, ypg, ypn⟩ := hK
    have HLK := Lib.hid ylk
    have HPO := Lib.hid ypo
    have HPD := Lib.hid ypd
    have HPG := Lib.hid ypg
    have HPN := Lib.hid ypn
    clear yb ylk ypo ypd ypg ypn HN HNS d0 d1 d2 d3 d4 d5 d6 d7
    clear hst hk hk2
    go_wp2_with fail
    (first | go_end0 | refine bodyPost_ret (results_none rfl _ _ _) rfl ?_)
    exact HPO.out
  · have e : lostQ X mk ms ml = X := by unfold lostQ; rw [if_neg hs]
    rw [e]
    clear e
    have hsz : (ms != (X.id : Int)) = true := by simpa using hs
    go_enter Tryz.func22, Tryz.ntmps22
    go_wp2_with fail
    (try rw [hg])
    (try rw [hW1])
    go_quiet (fail)
    go_wp2
    (first | go_end0 | refine bodyPost_ret (results_none rfl _ _ _) rfl ?_)
    exact HNS.out _
set_option maxRecDepth 100000 in
set_option maxHeartbeats 8000000 in
theorem rq_lost (h : Qr w base q O X) (ho : X.ok) (m : FN) (d r : Sl) : Calls Tryz.prog 23 #[.pointer (some ⟨q, 0, none⟩), frV m d r] w (RqPost (.tuple #[]) base q O (lostQ X m.k m.s m.l) w) := by
  obtain ⟨L, W1, hfv, hL, hW1, hB, hlt, hA, d0, d1, d2, d3, d4, d5, d6, d7⟩ := fr_box8 w m d r
  rw [hfv]
  have h1 := h.below hB
  have HB := Lib.hid hB
  have c0 := h1.c0
  have hst := ho.st
  have HN := Lib.hid (fun j => lsR h hB (g := w.heap.size) (fun e => by have := (h.lt q h.own).2; omega) d0 d5 j)
  obtain ⟨g, hg⟩ : ∃ g, w.heap.size = g := ⟨_, rfl⟩
  rw [hg] at HN d0 d1 d2 d3 d4 d5 d6 d7
  have HNS := Lib.hid (fun j => (HN.out j).pn 0)
  clear h ho h1 hL hA hfv hlt
  obtain ⟨mk, hmk⟩ : ∃ k, m.k = k := ⟨_, rfl⟩
  obtain ⟨ms, hms⟩ : ∃ k, m.s = k := ⟨_, rfl⟩
  obtain ⟨ml, hml⟩ : ∃ k, m.l = k := ⟨_, rfl⟩
  rw [hmk, hms, hml]
  rw [hmk] at d0
  rw [hmk, hml] at HN
  rw [hms] at d1
  rw [hml] at d5
  clear hmk hms hml
  have hcs : (ms = X.id ∧ mk = 5 ∧ X.asked = true ∧ X.st ≤ 2) ∨ (ms = X.id ∧ mk = 5 ∧ X.asked = true ∧ ¬ X.st ≤ 2) ∨ (ms = X.id ∧ mk = 5 ∧ X.asked = false) ∨ (ms = X.id ∧ mk = 17 ∧ ml = X.lim) ∨ (ms = X.id ∧ mk = 17 ∧ ml ≠ X.lim) ∨ (ms = X.id ∧ mk ≠ 5 ∧ mk ≠ 17) ∨ ms ≠ X.id := by
    cases X.asked <;> simp <;> omega
  rcases hcs with ⟨hs, hk, ha, h2⟩ | ⟨hs, hk, ha, h2⟩ | ⟨hs, hk, ha⟩ | ⟨hs, hk, hl⟩ | ⟨hs, hk, hl⟩ | ⟨hs, hk, hk2⟩ | hs
  · have e : lostQ X mk ms ml = { X with due := true } := by unfold lostQ; rw [if_pos hs, if_pos hk, if_pos ⟨ha, h2⟩]
    rw [e]
    clear e
    subst hs
    subst hk
    go_enter Tryz.func23, Tryz.ntmps23
    go_wp2_with fail
    (try rw [hg])
    (try rw [hW1])
    go_quiet (fail)
    have hK := HN.out nq
    obtain ⟨W3, hW3⟩ : ∃ W, W1.drewN nq = W := ⟨_, rfl⟩
    rw [hW3] at hK ⊢
    clear hW3
    obtain ⟨yb, y2, ys, y31, y32, y33, yf32, yf33, y0, y5, y0', ypd, ypg, ypn⟩ := hK
    have HPD := Lib.hid ypd
    have HPG := Lib.hid ypg
    have HPN := Lib.hid ypn
    clear yb ypd ypg ypn HN HNS d0 d1 d2 d3 d4 d5 d6 d7
    rw [ha] at y31
    have h2z : (X.st : Int) ≤ 2 := by omega
    clear h2 hst
    go_wp2_with fail
    obtain ⟨W4, hW4⟩ : ∃ W, W3.setCell ⟨q, 32, none⟩ (.bool true) = W := ⟨_, rfl⟩
    rw [hW4] at y0' HPD ⊢
    clear hW4
    go_quiet (fail)
    go_wp2
    (first | go_end0 | refine bodyPost_ret (results_none rfl _ _ _) rfl ?_)
    exact HPD.out _
  · have e : lostQ X mk ms ml = X := by unfold lostQ; rw [if_pos hs, if_pos hk, if_neg (fun h => h2 h.2)]
    rw [e]
    clear e
    subst hs
    subst hk
    go_enter Tryz.func23, Tryz.ntmps23
    go_wp2_with fail
    (try rw [hg])
    (try rw [hW1])
    go_quiet (fail)
    have hK := HN.out nq
    obtain ⟨W3, hW3⟩ : ∃ W, W1.drewN nq = W := ⟨_, rfl⟩
    rw [hW3] at hK ⊢
    clear hW3
    obtain ⟨yb, y2, ys, y31, y32, y33, yf32, yf33, y0, y5, y0', ypd, ypg, ypn⟩ := hK
    have HPD := Lib.hid ypd
    have HPG := Lib.hid ypg
    have HPN := Lib.hid ypn
    clear yb ypd ypg ypn HN HNS d0 d1 d2 d3 d4 d5 d6 d7
    rw [ha] at y31
    have h2z : ¬ (X.st : Int) ≤ 2 := by omega
    clear h2 hst
    go_wp2_with fail
    go_quiet (fail)
    go_wp2
    (first | go_end0 | refine bodyPost_ret (results_none rfl _ _ _) rfl ?_)
    exact HPN.out _
  · have e : lostQ X mk ms ml = X := by unfold lostQ; rw [if_pos hs, if_pos hk, if_neg (fun h => by rw [ha] at h; cases h.1)]
    rw [e]
    clear e
    subst hs
    subst hk
    go_enter Tryz.func23, Tryz.ntmps23
    go_wp2_with fail
    (try rw [hg])
    (try rw [hW1])
    go_quiet (fail)
    have hK := HN.out nq
    obtain ⟨W3, hW3⟩ : ∃ W, W1.drewN nq = W := ⟨_, rfl⟩
    rw [hW3] at hK ⊢
    clear hW3
    obtain ⟨yb, y2, ys, y31, y32, y33, yf32, yf33, y0, y5, y0', ypd, ypg, ypn⟩ := hK
    have HPD := Lib.hid ypd
    have HPG := Lib.hid ypg
    have HPN := Lib.hid ypn
    clear yb ypd ypg ypn HN HNS d0 d1 d2 d3 d4 d5 d6 d7
    rw [ha] at y31
    clear hst
    go_wp2_with fail
    go_quiet (fail)
    go_wp2
    (first | go_end0 | refine bodyPost_ret (results_none rfl _ _ _) rfl ?_)
    exact HPN.out _
  · have e : lostQ X mk ms ml = { X with again := true } := by unfold lostQ; rw [if_pos hs, if_neg (by omega), if_pos hk, if_pos hl]
    rw [e]
    clear e
    subst hs
    subst hk
    subst hl
    go_enter Tryz.func23, Tryz.ntmps23
    go_wp2_with fail
    (try rw [hg])
    (try rw [hW1])
    go_quiet (fail)
    have hK := HN.out nq
    obtain ⟨W3, hW3⟩ : ∃ W, W1.drewN nq = W := ⟨_, rfl⟩
    rw [hW3] at hK ⊢
    clear hW3
    obtain ⟨yb, y2, ys, y31, y32, y33, yf32, yf33, y0, y5, y0', ypd, ypg, ypn⟩ := hK
    have HPD := Lib.hid ypd
    have HPG := Lib.hid ypg
    have HPN := Lib.hid ypn
    clear yb ypd ypg ypn HN HNS d0 d1 d2 d3 d4 d5 d6 d7
    clear hst
    go_wp2_with fail
    go_quiet (fail)
    go_wp2
    (first | go_end0 | refine bodyPost_ret (results_none rfl _ _ _) rfl ?_)
    exact HPG.out _
  · have e : lostQ X mk ms ml = X := by unfold lostQ; rw [if_pos hs, if_neg (by omega), if_pos hk, if_neg hl]
    rw [e]
    clear e
    subst hs
    subst hk
    have hlz : (ml == (X.lim : Int)) = false := by simpa using hl
    go_enter Tryz.func23, Tryz.ntmps23
    go_wp2_with fail
    (try rw [hg])
    (try rw [hW1])
    go_quiet (fail)
    have hK := HN.out nq
    obtain ⟨W3, hW3⟩ : ∃ W, W1.drewN nq = W := ⟨_, rfl⟩
    rw [hW3] at hK ⊢
    clear hW3
    obtain ⟨yb, y2, ys, y31, y32, y33, yf32, yf33, y0, y5, y0', ypd, ypg, ypn⟩ := hK
    have HPD := Lib.hid ypd
    have HPG := Lib.hid ypg
    have HPN := Lib.hid ypn
    clear yb ypd ypg ypn HN HNS d0 d1 d2 d3 d4 d5 d6 d7
    clear hl hst
    go_wp2_with fail
    go_quiet (fail)
    go_wp2
    (first | go_end0 | refine bodyPost_ret (results_none rfl _ _ _) rfl ?_)
    exact HPN.out _
  · have e : lostQ X mk ms ml = X := by unfold lostQ; rw [if_pos hs, if_neg hk, if_neg hk2]
    rw [e]
    clear e
    subst hs
    have hkz : (mk == 5) = false := by simpa using hk
    have hkz2 : (mk == 17) = false := by simpa using hk2
    go_enter Tryz.func23, Tryz.ntmps23
    go_wp2_with fail
    (try rw [hg])
    (try rw [hW1])
    go_quiet (fail)
    have hK := HN.out nq
    obtain ⟨W3, hW3⟩ : ∃ W, W1.drewN nq = W := ⟨_, rfl⟩
    rw [hW3] at hK ⊢
    clear hW3
    obtain ⟨yb, y2, ys, y31, y32, y33, yf32, yf33, y0, y5, y0', ypd, ypg, ypn⟩ := hK
    have HPD := Lib.hid ypd
    have HPG := Lib.hid ypg
    have HPN := Lib.hid ypn
    clear yb ypd ypg ypn HN HNS d0 d1 d2 d3 d4 d5 d6 d7
    clear hk hk2 hst
    go_wp2_with fail
    go_quiet (fail)
    go_wp2
    (first | go_end0 | refine bodyPost_ret (results_none rfl _ _ _) rfl ?_)
    exact HPN.out _
  · have e : lostQ X mk ms ml = X := by unfold lostQ; rw [if_neg hs]
    rw [e]
    clear e
    have hsz : (ms != (X.id : Int)) = true := by simpa using hs
    go_enter Tryz.func23, Tryz.ntmps23
    go_wp2_with fail
    (try rw [hg])
    (try rw [hW1])
    go_quiet (fail)
    go_wp2
    (first | go_end0 | refine bodyPost_ret (results_none rfl _ _ _) rfl ?_)
    exact HNS.out _
theorem haltE_cases (X : QS) (code : Nat) : (haltE X code = 24 ∧ (2 < X.st ∨ X.asked = true)) ∨ (haltE X code = 1 ∧ X.st ≤ 2 ∧ X.asked = false ∧ 4611686018427387903 < code) ∨ (haltE X code = 0 ∧ X.st ≤ 2 ∧ X.asked = false ∧ code ≤ 4611686018427387903) := by
  unfold haltE
  split
  · rename_i h; exact .inl ⟨rfl, h⟩
  · rename_i h
    have ha : X.asked = false := by cases hq : X.asked <;> simp_all
    split
    · exact .inr (.inl ⟨rfl, by omega, ha, by omega⟩)
    · exact .inr (.inr ⟨rfl, by omega, ha, by omega⟩)
set_option maxRecDepth 100000 in
set_option maxHeartbeats 8000000 in
theorem q_stop (h : Qp w base p O X) (ho : X.ok) (code : Nat) : Calls Tryz.prog 16 #[.pointer (some ⟨p, 0, none⟩), .int .u64 code] w (QPost (.int .i64 (haltE X code)) base p O (haltX X code) w) := by
  have c7 := h.c7
  have c8 := h.c8
  have c9 := h.c9
  have f7 := h.fz 7
  have f8 := h.fz 8
  have f9 := h.fz 9
  have HLK := Lib.hid (q_lacks h ho.st)
  have HS := Lib.hid (fun r => h.same (w' := w) (Below.refl _ _) r)
  have HD : Hid (QPost (.int .i64 0) base p O { X with asked := true, stop := code, due := true } w (.returned (.int .i64 0)) (((w.setCell ⟨p, 7, none⟩ (.bool true)).setCell ⟨p, 8, none⟩ (.int .u64 code)).setCell ⟨p, 9, none⟩ (.bool true))) := Lib.hid
    (h.top (((h.put (X' := { X with asked := true }) 7 (.bool true) (fun _ => rfl) rfl rfl).put (X' := { X with asked := true, stop := code }) 8 (.int .u64 code) (fun _ => rfl) rfl rfl).put (X' := { X with asked := true, stop := code, due := true }) 9 (.bool true) (fun _ => rfl) rfl rfl) ((((Kept.refl _ _).setAt 7 _).setAt 8 _).setAt 9 _) _)
  rcases haltE_cases X code with ⟨he, hc⟩ | ⟨he, hc, ha, hb⟩ | ⟨he, hc, ha, hb⟩
  · have e2 : haltX X code = X := by unfold haltX; rw [he]; rfl
    rw [he, e2]
    rcases Nat.lt_or_ge 2 X.st with h2 | h2
    · have h2z : decide (X.st ≤ 2) = false := by simpa using h2
      rw [h2z] at HLK
      clear h ho he e2 hc h2 h2z HD
      go_enter Tryz.func16, Tryz.ntmps16
      go_wp2_with (go_at_call 32; (with_reducible refine HLK.out.mono ?_); rintro e w2 ⟨rfl, hw2⟩; rw [hw2]; clear hw2)
      go_ret
      exact HS.out _
    · have h2z : decide (X.st ≤ 2) = true := by simpa using h2
      have ha : X.asked = true := hc.resolve_left (by omega)
      rw [h2z] at HLK
      rw [ha] at c7
      clear h ho he e2 hc h2 h2z HD
      go_enter Tryz.func16, Tryz.ntmps16
      go_wp2_with (go_at_call 32; (with_reducible refine HLK.out.mono ?_); rintro e w2 ⟨rfl, hw2⟩; rw [hw2]; clear hw2)
      go_ret
      exact HS.out _
  · have e2 : haltX X code = X := by unfold haltX; rw [he]; rfl
    rw [he, e2]
    have h2z : decide (X.st ≤ 2) = true := by simpa using hc
    have hbz : (4611686018427387903 : Int) < (code : Int) := by omega
    rw [h2z] at HLK
    rw [ha] at c7
    clear h ho he e2 hc h2z HD hb
    go_enter Tryz.func16, Tryz.ntmps16
    go_wp2_with (go_at_call 32; (with_reducible refine HLK.out.mono ?_); rintro e w2 ⟨rfl, hw2⟩; rw [hw2]; clear hw2)
    go_ret
    exact HS.out _
  · have e2 : haltX X code = { X with asked := true, stop := code, due := true } := by unfold haltX; rw [he]; rfl
    rw [he, e2]
    have h2z : decide (X.st ≤ 2) = true := by simpa using hc
    have hbz : ¬ (4611686018427387903 : Int) < (code : Int) := by omega
    rw [h2z] at HLK
    rw [ha] at c7
    clear h ho he e2 hc h2z hb HS
    go_enter Tryz.func16, Tryz.ntmps16
    go_wp2_with (go_at_call 32; (with_reducible refine HLK.out.mono ?_); rintro e w2 ⟨rfl, hw2⟩; rw [hw2]; clear hw2)
    go_ret
    exact HD.out
/-- A whole struct's store in the middle of a block, in a region that draws its order. -/
theorem step_st_in17 {P : Program} {ops : Array Oper} {a : Act} {w : World} {K : Act → World → Prop} {Q : Exit → Act → World → Prop} {E : Prop} {dst : Option Tmp} {x y : Operand} {ty t : TypeId} {pos : String} {after : Array Edge} {g : Option (Nat × Bool)}
    (hg : Region.wanted ⟨dst, .store ty x y, t, pos, after, g⟩ (yielded ops a.tmps) = true) (p o : Nat) (T : TypeId) (l l' : List Value) (hx : a.eval x = .pointer (some ⟨p, o, none⟩)) (hy : a.eval y = .agg l'.toArray) (hA : At w p T l) (hl : o + l'.length ≤ l.length)
    (hi : (P.info? ty).map (·.size) = some l'.length) (h1 : l'.all (·.oneCell') = true) (h : ∀ w', At w' p T (l.take o ++ l' ++ l.drop (o + l'.length)) → Kept (· = p) w w' → K (a.put dst undef) w') :
    if Region.wanted ⟨dst, .store ty x y, t, pos, after, g⟩ (yielded ops a.tmps) = true then Oper.wp P ⟨dst, .store ty x y, t, pos, after, g⟩ a w K Q else E := by
  rw [if_pos hg]
  refine wp_store_mid _ x y rfl p o l'.toArray hx hy ?_ (by simpa using hi) (by simpa using h1) ?_
  · intro j hj
    have hj' : j < l'.length := by simpa using hj
    refine ⟨?_, hA.frozen _⟩
    rw [hA.cell, List.getElem?_eq_getElem (by omega)]
    simp
  have := At.setFrom l' l o w hA
  rw [setFrom_eq l' l o hl] at this
  exact h _ (by simpa using this) (by simpa using Kept.setCells (S := (· = p)) rfl l' o w (Kept.refl _ _))
/-- A frame is stored in the middle of a block, plainly. -/
theorem st_frm {ops : Array Oper} {rest : List Oper} {a : Act} {w : World} {Q : Exit → Act → World → Prop} {dst : Option Tmp} {x y : Operand} {t : TypeId} {pos : String} {after : Array Edge}
    (q o : Nat) (T : TypeId) (l l' : List Value) (hx : a.eval x = .pointer (some ⟨q, o, none⟩)) (hy : a.eval y = .agg l'.toArray) (hA : At w q T l) (hl : o + l'.length ≤ l.length) (hl' : l'.length = 19) (h1 : l'.all (·.oneCell') = true)
    (h : ∀ w', At w' q T (l.take o ++ l' ++ l.drop (o + l'.length)) → Kept (· = q) w w' → wpList Tryz.prog ops Q rest (a.put dst undef) w') :
    wpList Tryz.prog ops Q (⟨dst, .store 54 x y, t, pos, after, none⟩ :: rest) a w := by
  refine wpList_step fun K hK => ?_
  exact step_st_in17 (by rfl) q o T l l' hx hy hA hl (by rw [hl']; exact fr_info) h1 fun w' a1 a2 => hK _ _ (h w' a1 a2)
set_option maxRecDepth 100000 in
set_option maxHeartbeats 8000000 in
theorem rq_halt (h : Qr w base q O X) (ho : X.ok) (code : Nat) : Calls Tryz.prog 17 #[.pointer (some ⟨q, 0, none⟩), .int .u64 code] w (RqPost (.int .i64 (haltE X code)) base q O (haltX X code) w) := by
  have c0 := h.c0
  have c5 := h.c5
  have c31 := h.c31
  have c32 := h.c32
  have f31 := h.fz 31
  have f32 := h.fz 32
  have HS := Lib.hid (fun r => h.same (w' := w) (Below.refl _ _) r)
  rcases haltE_cases X code with ⟨he, hc⟩ | ⟨he, hc, ha, hb⟩ | ⟨he, hc, ha, hb⟩
  · have e2 : haltX X code = X := by unfold haltX; rw [he]; rfl
    rw [he, e2]
    rcases Nat.lt_or_ge 2 X.st with h2 | h2
    · have h2z : (2 : Int) < (X.st : Int) := by omega
      clear h ho he e2 hc h2
      go_enter Tryz.func17, Tryz.ntmps17
      go_wp2
      go_ret
      exact HS.out _
    · have h2z : ¬ (2 : Int) < (X.st : Int) := by omega
      have ha : X.asked = true := hc.resolve_left (by omega)
      rw [ha] at c31
      clear h ho he e2 hc h2
      go_enter Tryz.func17, Tryz.ntmps17
      go_wp2
      go_ret
      exact HS.out _
  · have e2 : haltX X code = X := by unfold haltX; rw [he]; rfl
    rw [he, e2]
    have h2z : ¬ (2 : Int) < (X.st : Int) := by omega
    have hbz : (4611686018427387903 : Int) < (code : Int) := by omega
    rw [ha] at c31
    clear h ho he e2 hc hb
    go_enter Tryz.func17, Tryz.ntmps17
    go_wp2
    go_ret
    exact HS.out _
  · have e2 : haltX X code = { X with asked := true, stop := code, due := true } := by unfold haltX; rw [he]; rfl
    rw [he, e2]
    have h2z : ¬ (2 : Int) < (X.st : Int) := by omega
    have hbz : ¬ (4611686018427387903 : Int) < (code : Int) := by omega
    rw [ha] at c31
    obtain ⟨LF, hLF⟩ : ∃ LF, frL (m5 X.id code) .nil .nil = LF := ⟨_, rfl⟩
    have hFl : LF.length = 19 := by rw [← hLF]; rfl
    have hFo : LF.all (·.oneCell') = true := by rw [← hLF]; rfl
    have HFl := Lib.hid hFl
    have HFo := Lib.hid hFo
    have HLF := Lib.hid hLF
    obtain ⟨W2, hW2⟩ : ∃ W, (w.setCell ⟨q, 31, none⟩ (.bool true)).setCell ⟨q, 32, none⟩ (.bool true) = W := ⟨_, rfl⟩
    obtain ⟨vb, vc, hat⟩ := h.at_
    have hA2 := (hat.set 31 (.bool true)).set 32 (.bool true)
    rw [hW2] at hA2
    have k2 : Kept (· = q) w W2 := by rw [← hW2]; exact ((Kept.refl _ _).setAt 31 _).setAt 32 _
    have x0 : W2.cell? ⟨q, 0, none⟩ = some (.int .u64 X.id) := by rw [hA2.cell]; rfl
    have HA2 := Lib.hid hA2
    have HLL : Hid (12 + LF.length ≤ (((qrL X vb vc).set 31 (.bool true)).set 32 (.bool true)).length) := Lib.hid (by rw [hFl, List.length_set, List.length_set]; show 31 ≤ 34; omega)
    have HE : Hid (∀ w9, At w9 q 56 ((((qrL X vb vc).set 31 (.bool true)).set 32 (.bool true)).take 12 ++ LF ++ (((qrL X vb vc).set 31 (.bool true)).set 32 (.bool true)).drop (12 + LF.length)) → Kept (· = q) W2 w9 → RqPost (.int .i64 0) base q O { X with asked := true, stop := code, due := true } w (.returned (.int .i64 0)) w9) := Lib.hid (fun w9 hA9 k9 => by
      have k : Kept (· = q) w w9 := k2.trans k9
      refine h.top (X' := { X with asked := true, stop := code, due := true }) (h.turn (fun vb' vc' hat' => ?_) k rfl) k _
      have e1 := hat.cell 10
      have e2 := hat.cell 11
      rw [hat'.cell] at e1 e2
      have e3 : vb' = vb := Option.some.inj e1
      have e4 : vc' = vc := Option.some.inj e2
      subst e3; subst e4
      have e5 : (((qrL X vb' vc').set 31 (.bool true)).set 32 (.bool true)).take 12 ++ LF ++ (((qrL X vb' vc').set 31 (.bool true)).set 32 (.bool true)).drop (12 + LF.length) = qrL { X with asked := true, stop := code, due := true } vb' vc' := by
        rw [hFl, ← hLF]
        rfl
      rw [← e5]
      exact hA9)
    clear h ho he e2 hc hb HS hat hA2 k2 hFl hFo hLF
    go_enter Tryz.func17, Tryz.ntmps17
    go_upto_region 6 with fail
    (try rw [hW2])
    clear hW2
    go_wp2_with (first | ((with_reducible refine at_st ?_); refine st_frm q 12 _ _ LF (by rfl) (by rw [← HLF.out]; rfl) HA2.out HLL.out HFl.out HFo.out ?_; intro w9 hA9 hk9; have H9 := Lib.hid (HE.out w9 hA9 hk9); clear hA9 hk9) | fail)
    go_ret
    exact H9.out
end
end
section
set_option linter.unusedVariables false
set_option linter.unusedSimpArgs false
open Go.RowKit
/-- What the document's Read leaves. -/
def RRqPost (base q : Nat) (O : Nat → Prop) (X : QS) (most : Int) (w : World) (e : Ending) (w' : World) : Prop :=
  ∃ v, e = .returned (.tuple #[v, .bool (readQ X most).fl, .int .u64 (readQ X most).cd, .int .i64 (readQ X most).er]) ∧ Own w' w.heap.size 5 v (readQ X most).bs ∧ ∃ O', Qr w' base q O' (readX X most) ∧ Kept O w w' ∧ ∀ j, O' j → O j ∨ w.heap.size ≤ j
section
variable {w w' w1 : World} {base p q : Nat} {O : Nat → Prop} {X X' : QS}
set_option maxHeartbeats 8000000 in
set_option maxRecDepth 100000 in
theorem rq_read (h : Qr w base q O X) (ho : X.ok) (hb : base ≤ w.heap.size) (most : Int) (hm : -9223372036854775808 ≤ most ∧ most < 9223372036854775808) :
    Calls Tryz.prog 15 #[.pointer (some ⟨q, 0, none⟩), .int .i64 most] w (RRqPost base q O X most w) := by
  have c5 := h.c5
  have c3 := h.c3
  have f5 := h.fz 5
  by_cases h5 : X.st = 5
  · have e1 : readQ X most = ⟨false, X.code, 29, []⟩ := by unfold readQ; rw [if_pos h5]
    have e2 : readX X most = { X with st := 6 } := by unfold readX; rw [if_pos h5]
    have HE : Hid (∀ d, RRqPost base q O X most w (.returned (.tuple #[.slice none 0 0, .bool false, .int .u64 X.code, .int .i64 29])) ((w.setCell ⟨q, 5, none⟩ (.int .i64 6)).drewN d)) := Lib.hid (fun d => by
      unfold RRqPost
      rw [e1, e2]
      exact ⟨_, rfl, Own.none_ _ _ _, O, (h.set (X' := { X with st := 6 }) 5 (.int .i64 6) (fun _ _ => rfl) rfl).drewN d, (((Kept.refl O w).setCell (p := ⟨q, 5, none⟩) (.inl h.own) _).drewN d), fun j hj => .inl hj⟩)
    have d5 : (w.setCell ⟨q, 5, none⟩ (.int .i64 6)).cell? ⟨q, 3, none⟩ = some (.int .u64 X.code) := by
      obtain ⟨vb, vc, ha⟩ := h.at_
      rw [(ha.set 5 (.int .i64 6)).cell]; rfl
    rw [h5] at c5
    clear h ho hb e1 e2 h5
    go_enter Tryz.func15, Tryz.ntmps15
    go_wp2
    go_quiet (fail)
    go_wp2
    refine bodyPost_ret (results_tmp4q rfl _ _ _) rfl ?_
    exact HE.out _
  · by_cases h46 : X.st = 4 ∨ X.st = 6
    · have e1 : readQ X most = ⟨false, 0, 24, []⟩ := by unfold readQ; rw [if_neg h5, if_pos h46]
      have e2 : readX X most = X := by unfold readX; rw [if_neg h5, if_pos h46]
      have HE : Hid (∀ d, RRqPost base q O X most w (.returned (.tuple #[.slice none 0 0, .bool false, .int .u64 0, .int .i64 24])) (w.drewN d)) := Lib.hid (fun d => by
        unfold RRqPost
        rw [e1, e2]
        exact ⟨_, rfl, Own.none_ _ _ _, _, h.drewN d, (Kept.refl _ _).drewN d, fun j hj => .inl hj⟩)
      clear h ho hb e1 e2 h5
      rcases h46 with h4 | h4
      all_goals
        rw [h4] at c5
        clear h4
        go_enter Tryz.func15, Tryz.ntmps15
        go_wp2
        refine bodyPost_ret (results_tmp4q rfl _ _ _) rfl ?_
        exact HE.out 0
    · have hr := rdyS_is ho.b
      have HT := Lib.hid (ftake_any (X := rxQ X) base q O X.b most w h ho.b hb hm (rdyS X.b) hr)
      obtain ⟨n, hn⟩ : ∃ n, n = min most.toNat (rdyS X.b) := ⟨_, rfl⟩
      have hk : X.st = 1 ∨ X.st = 2 ∨ X.st = 3 := by have := ho.st; omega
      rw [← hn] at HT
      have hol : ∀ n, (outB X.b.g X.b.rd n).length = n := outB_len _ _
      have e2 : readX X most = { X with b := takeS X.b n, st := if (X.b.en && decide (X.b.rd + n = X.b.fi)) = true then 4 else X.st } := by unfold readX; rw [if_neg h5, if_neg h46, ← hn]
      have HE1 : Hid (∀ (v : Value) (W : World) (O' : Nat → Prop) (d : Nat), Own W w.heap.size 5 v (outB X.b.g X.b.rd n) → Rj (rxQ X) W base q O' (takeS X.b n) → Kept O w W → (∀ j, O' j → O j ∨ w.heap.size ≤ j) →
          ((n = 0 ∧ (X.b.en && decide (X.b.rd + n = X.b.fi)) = false → RRqPost base q O X most w (.returned (.tuple #[.slice none 0 0, .bool false, .int .u64 0, .int .i64 26])) (W.drewN d)) ∧
           (0 < n → (X.b.en && decide (X.b.rd + n = X.b.fi)) = false → RRqPost base q O X most w (.returned (.tuple #[v, .bool false, .int .u64 0, .int .i64 0])) (W.drewN d)) ∧
           ((X.b.en && decide (X.b.rd + n = X.b.fi)) = true → RRqPost base q O X most w (.returned (.tuple #[v, .bool true, .int .u64 0, .int .i64 0])) ((W.setCell ⟨q, 5, none⟩ (.int .i64 4)).drewN d)) ∧
           W.cell? ⟨q, 5, none⟩ = some (.int .i64 X.st) ∧ W.frozen? ⟨q, 5, none⟩ = false)) := Lib.hid (by
        intro v W O' d h1 h2 h3 h4
        have hl' : Qr W base q O' { X with b := takeS X.b n } := h2
        refine ⟨?_, ?_, ?_, hl'.c5, hl'.fz 5⟩
        · rintro ⟨n0, hen⟩
          unfold RRqPost
          rw [e2, hen]
          have e1 : readQ X most = ⟨false, 0, 26, []⟩ := by unfold readQ; rw [if_neg h5, if_neg h46, ← hn, if_pos ⟨n0, by rw [n0, Nat.add_zero] at hen; exact hen⟩]
          rw [e1]
          exact ⟨_, rfl, Own.none_ _ _ _, _, hl'.drewN d, h3.drewN d, h4⟩
        · intro n0 hen
          unfold RRqPost
          have e1 : readQ X most = ⟨false, 0, 0, outB X.b.g X.b.rd n⟩ := by unfold readQ; rw [if_neg h5, if_neg h46, ← hn, if_neg (by omega), hen]
          rw [e1, e2, hen]
          exact ⟨_, rfl, h1, _, hl'.drewN d, h3.drewN d, h4⟩
        · intro hen
          unfold RRqPost
          have e1 : readQ X most = ⟨true, 0, 0, outB X.b.g X.b.rd n⟩ := by
            unfold readQ
            rw [if_neg h5, if_neg h46, ← hn, if_neg, hen]
            rintro ⟨n0, hc⟩
            rw [n0, Nat.add_zero] at hen
            rw [hen] at hc
            cases hc
          rw [e1, e2, hen]
          have hl2 := hl'.set (X' := { X with b := takeS X.b n, st := 4 }) 5 (.int .i64 4) (fun _ _ => rfl) rfl
          have hk2 : Kept O w (W.setCell ⟨q, 5, none⟩ (.int .i64 4)) := h3.setCell (p := ⟨q, 5, none⟩) (.inl h.own) _
          refine ⟨_, rfl, ?_, _, hl2.drewN d, hk2.drewN d, h4⟩
          have hq := (h.lt q h.own).2
          exact h1.keep fun j hj => by
            have := (h1.block_lt j hj).1
            exact Below.heap_setCell W ⟨q, 5, none⟩ (.int .i64 4) j (fun e => by have e' : j = q := e; omega))
      have HOL := Lib.hid (hol n)
      clear h ho hb e2 h5 h46 hr hn hol
      rcases hk with hk | hk | hk
      all_goals
        rw [hk] at c5
        rw [hk] at HE1
        clear hk
        cases hen : (X.b.en && decide (X.b.rd + n = X.b.fi)) with
        | false =>
          unfold FTPost at HT
          rw [hen] at HT HE1
          rcases Nat.eq_zero_or_pos n with hn0 | hn0
          · subst hn0
            go_enter Tryz.func15, Tryz.ntmps15
            go_wp2_with (go_at_call 31; (with_reducible refine HT.out.mono ?_); rintro e w1 ⟨v, rfl, ho1, Ob', hb1, hk1, ho2⟩; have HX := Lib.hid (HE1.out v w1 Ob' 0 ho1 hb1 hk1 ho2); obtain ⟨A1, c1, rfl, _, _, _⟩ := ho1.open_; rw [HOL.out]; clear ho1 hb1 hk1 ho2)
            refine bodyPost_ret (results_tmp4q rfl _ _ _) rfl ?_
            exact HX.out.1 ⟨by first | rfl | trivial, by first | rfl | trivial⟩
          · have hnz : ((n : Int) == 0) = false := by simp; omega
            go_enter Tryz.func15, Tryz.ntmps15
            go_wp2_with (go_at_call 31; (with_reducible refine HT.out.mono ?_); rintro e w1 ⟨v, rfl, ho1, Ob', hb1, hk1, ho2⟩; have HX := Lib.hid (HE1.out v w1 Ob' 0 ho1 hb1 hk1 ho2); obtain ⟨A1, c1, e1, _, _, _⟩ := ho1.open_; rw [HOL.out] at e1; subst e1; clear ho1 hb1 hk1 ho2)
            refine bodyPost_ret (results_tmp4q rfl _ _ _) rfl ?_
            exact HX.out.2.1 hn0 (by first | rfl | trivial)
        | true =>
          unfold FTPost at HT
          rw [hen] at HT HE1
          go_enter Tryz.func15, Tryz.ntmps15
          go_wp2_with (go_at_call 31; (with_reducible refine HT.out.mono ?_); rintro e w1 ⟨v, rfl, ho1, Ob', hb1, hk1, ho2⟩; have HX := Lib.hid (HE1.out v w1 Ob' 0 ho1 hb1 hk1 ho2); obtain ⟨A1, c1, e1, _, _, _⟩ := ho1.open_; rw [HOL.out] at e1; subst e1; have gg2 := HX.out.2.2.2.1; have gf2 := HX.out.2.2.2.2; clear ho1 hb1 hk1 ho2)
          refine bodyPost_ret (results_tmp4q rfl _ _ _) rfl ?_
          exact HX.out.2.2.1 (by first | rfl | trivial)
end
end
section
set_option linter.unusedVariables false
open Go.RowKit
theorem bb_refl (a : ByteArray) : (a == a) = true := by rw [beq_toListBytes]; simp
end
end Go.Proofs.YtphpdaldplkgmaaGreat
