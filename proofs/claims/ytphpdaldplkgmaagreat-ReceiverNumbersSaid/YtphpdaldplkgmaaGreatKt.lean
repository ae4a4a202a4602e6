/-
  The document's receiver: On of a Stream frame; On.
-/
import Derived.Test.YtphpdaldplkgmaaGreatKs
namespace Go.Proofs.YtphpdaldplkgmaaGreat
set_option linter.unusedVariables false
set_option linter.unusedSimpArgs false
open Go.RowKit
section
variable {w w' w1 W : World} {base p q g : Nat} {O O2 : Nat → Prop} {X X' : QS} {m : FN} {d : Sl}
/-- Behind Add: what stands, and what On may make of it. -/
structure RqA (w : World) (base q g : Nat) (O : Nat → Prop) (X2 : QS) (off : Nat) (A : Option Addr) (n c : Nat) (fin : Bool) (W : World) : Prop where
  ex : ∃ O2, Qr W base q O2 X2 ∧ Kept O w W ∧ ∀ j, O2 j → O j ∨ w.heap.size ≤ j
  g2 : W.cell? ⟨g, 2, none⟩ = some (.int .u64 off)
  g3 : W.cell? ⟨g, 3, none⟩ = some (.slice A n c)
  g4 : W.cell? ⟨g, 4, none⟩ = some (.bool fin)
/-- A receiver on the way. -/
def RqM (w : World) (base q : Nat) (O : Nat → Prop) (X : QS) (W : World) : Prop := ∃ O2, Qr W base q O2 X ∧ Kept O w W ∧ (∀ j, O2 j → O j ∨ w.heap.size ≤ j) ∧ O q
theorem RqM.set (h : RqM w base q O X W) (j : Nat) (u : Value) (X' : QS) (he : ∀ vb vc, (qrL X vb vc).set j u = qrL X' vb vc) (hb : X'.b = X.b) : RqM w base q O X' (W.setCell ⟨q, j, none⟩ u) := by
  obtain ⟨O2, h1, h2, h3, h4⟩ := h
  exact ⟨O2, h1.set j u he hb, h2.setCell (p := ⟨q, j, none⟩) (.inl h4) _, h3, h4⟩
theorem RqM.drewN (h : RqM w base q O X W) (n : Nat) : RqM w base q O X (W.drewN n) := by
  obtain ⟨O2, h1, h2, h3, h4⟩ := h
  exact ⟨O2, h1.drewN n, h2.drewN n, h3, h4⟩
theorem RqM.fin (h : RqM w base q O X W) (r : Value) : RqPost r base q O X w (.returned r) W := by
  obtain ⟨O2, h1, h2, h3, _⟩ := h
  exact ⟨rfl, O2, h1, h2, h3⟩
/-- What the walk reads of it. -/
theorem RqM.rd (h : RqM w base q O X W) : W.cell? ⟨q, 5, none⟩ = some (.int .i64 X.st) ∧ W.cell? ⟨q, 9, none⟩ = some (.bool X.b.en) ∧ W.cell? ⟨q, 32, none⟩ = some (.bool X.due) ∧ W.frozen? ⟨q, 5, none⟩ = false ∧ W.frozen? ⟨q, 32, none⟩ = false := by
  obtain ⟨O2, h1, _⟩ := h
  exact ⟨h1.c5, h1.c9, h1.c32, h1.fz 5, h1.fz 32⟩
theorem RqM.whole (h : RqM w base q O X W) (hb : X.b.ok) : Calls Tryz.prog 46 #[.pointer (some ⟨q, 6, none⟩)] W fun e w' => e = .returned (.bool (wholeB X.b)) ∧ RqM w base q O X w' := by
  obtain ⟨O2, h1, h2, h3, h4⟩ := h
  exact (fwhole_any base q O2 X.b W h1 hb (rdyS X.b) (rdyS_is hb)).mono fun e w' ⟨he, dd, hw⟩ => ⟨he, by rw [hw]; exact ⟨O2, h1.drewN dd, h2.drewN dd, h3, h4⟩⟩

set_option maxHeartbeats 16000000 in
set_option maxRecDepth 100000 in
theorem rq_on_stream (h : Qr w base q O X) (ho : X.ok) (hb : base ≤ w.heap.size) (hlm : X.lim ≤ 1099511627776) (m : FN) (A : Option Addr) (n c : Nat) (r : Sl) (bs : List Int) (hs : m.s = X.id) (hk : m.k = 8) (off : Nat) (hmo : m.o = off) (hoff : off < 18446744073709551616) (hd : RdP w (fun b => ¬ O b) A n bs) (hdc : n ≤ c) (hdn : n < 9223372036854775808) :
    Calls Tryz.prog 29 #[.pointer (some ⟨q, 0, none⟩), frV m ⟨A, n, c⟩ r] w (RqPost (.int .i64 (onSE X off bs.length m.fin)) base q O (onSX X off bs m.fin) w) := by
  obtain ⟨L, W1, hfv, hL, hW1, hB, hlt, hA, d0, d1, d2, d3, d4, d5, d6, d7⟩ := fr_box8 w m ⟨A, n, c⟩ r
  have HK : Hid (RqF w base q w.heap.size O X m ⟨A, n, c⟩ W1) := Lib.hid ⟨h.below hB, hB, d0, d1, d2, d3, d4, d6, d7⟩
  have HNO := Lib.hid (fun W (k : RqF w base q w.heap.size O X m ⟨A, n, c⟩ W) r => k.no h r)
  have hgO : ¬ O w.heap.size := fun e => by have := (h.lt _ e).2; omega
  rw [hfv]
  obtain ⟨g, hg⟩ : ∃ g, w.heap.size = g := ⟨_, rfl⟩
  rw [hg] at HK HNO hgO
  clear d0 d1 d2 d3 d4 d5 d6 d7 hA hlt hfv
  obtain ⟨fin, hfi⟩ : ∃ F, m.fin = F := ⟨_, rfl⟩
  have HQ8 : Hid (∀ W, RqF w base q g O X m ⟨A, n, c⟩ W → W.cell? ⟨g, 0, none⟩ = some (.int .i64 8) ∧ W.cell? ⟨g, 1, none⟩ = some (.int .u64 X.id) ∧ W.cell? ⟨g, 2, none⟩ = some (.int .u64 off) ∧ W.cell? ⟨g, 3, none⟩ = some (.slice A n c) ∧ W.cell? ⟨g, 4, none⟩ = some (.bool fin)) := Lib.hid (fun W k => ⟨by rw [← hk]; exact k.g0, by rw [← hs]; exact k.g1, by rw [← hmo]; exact k.g2, k.g3, by rw [← hfi]; exact k.g4⟩)
  rw [hfi]
  have hlen := hd.len
  have hwn : IntKind.u64.wrap (n : Int) = (n : Int) := by rw [IntKind.wrap_u64]; omega
  have zi := HK.out.q_.c0
  obtain ⟨zk, zs, zo, zd, zf⟩ := HQ8.out _ HK.out
  have hfin : X.st = 5 ∨ X.st = 6 ∨ X.st = 1 ∨ X.st = 2 ∨ X.st = 3 ∨ X.st = 4 := by have := ho.st; omega
  by_cases hc0 : 1099511627776 < off
  · have hx : onSE X off bs.length fin = 23 := by unfold onSE; rw [if_pos (by omega)]
    have hx2 : onSX X off bs fin = X := by unfold onSX; rw [hx]; rfl
    rw [hx, hx2]
    have hz0 : (1099511627776 : Int) < (off : Int) := by omega
    clear h ho hb hd hlen hx hx2 hL hk hs hmo hfi hgO hc0 hfin
    go_enter Tryz.func29, Tryz.ntmps29
    go_wp2_with fail
    (try rw [hg])
    (try rw [hW1])
    go_quiet (fail)
    have hK := HK.out.drewN nq
    obtain ⟨W3, hWn⟩ : ∃ W, World.drewN W1 nq = W := ⟨_, rfl⟩
    rw [hWn] at hK ⊢
    clear hWn
    have HK3 := Lib.hid hK
    clear hK
    obtain ⟨yk, ys, yo, yd, yf⟩ := HQ8.out _ HK3.out
    have yl := HK3.out.q_.c2
    have y5 := HK3.out.q_.c5
    have y4 := HK3.out.q_.c4
    clear zk zs zo zd zf zi
    go_wp2
    go_ret
    exact HNO.out _ HK3.out _
  have hz0 : ¬ (1099511627776 : Int) < (off : Int) := by omega
  obtain ⟨E, hE⟩ : ∃ E, E = off + n := ⟨_, rfl⟩
  have hEz : (off : Int) + (n : Int) = (E : Int) := by omega
  have hEb : E < 18446744073709551616 := by omega
  by_cases hc1 : X.lim < E
  · have hx : onSE X off bs.length fin = 23 := by unfold onSE; rw [if_pos (by omega)]
    have hx2 : onSX X off bs fin = X := by unfold onSX; rw [hx]; rfl
    rw [hx, hx2]
    have hz1 : (X.lim : Int) < (E : Int) := by omega
    clear h ho hb hd hlen hx hx2 hL hk hs hmo hfi hgO hc0 hc1 hE hfin
    go_enter Tryz.func29, Tryz.ntmps29
    go_wp2_with fail
    (try rw [hg])
    (try rw [hW1])
    go_quiet (fail)
    have hK := HK.out.drewN nq
    obtain ⟨W3, hWn⟩ : ∃ W, World.drewN W1 nq = W := ⟨_, rfl⟩
    rw [hWn] at hK ⊢
    clear hWn
    have HK3 := Lib.hid hK
    clear hK
    obtain ⟨yk, ys, yo, yd, yf⟩ := HQ8.out _ HK3.out
    have yl := HK3.out.q_.c2
    have y5 := HK3.out.q_.c5
    have y4 := HK3.out.q_.c4
    clear zk zs zo zd zf zi
    go_wp2
    go_ret
    exact HNO.out _ HK3.out _
  have hz1 : ¬ (X.lim : Int) < (E : Int) := by omega
  have hcl : ¬ X.lim < off + bs.length := by omega
  by_cases h5 : 5 ≤ X.st
  · have h5z : (5 : Int) ≤ (X.st : Int) := by omega
    have hx2 : onSX X off bs fin = X := by unfold onSX; rw [if_neg (by omega)]
    have hx : onSE X off bs.length fin = if X.fin < E ∨ (fin = true ∧ E ≠ X.fin) then 30 else 0 := by unfold onSE; rw [if_neg hcl, if_pos h5, hlen, hE]
    rw [hx2, hx]
    clear h ho hb hd hlen hx hx2 hL hk hs hmo hfi hgO hc0 hc1 hE hfin hcl h5
    rcases Nat.lt_trichotomy X.fin E with hc | hc | hc
    · have hz3 : (X.fin : Int) < (E : Int) := by omega
      rw [if_pos (.inl hc)]
      clear hc
      go_enter Tryz.func29, Tryz.ntmps29
      go_wp2_with fail
      (try rw [hg])
      (try rw [hW1])
      go_quiet (fail)
      have hK := HK.out.drewN nq
      obtain ⟨W3, hWn⟩ : ∃ W, World.drewN W1 nq = W := ⟨_, rfl⟩
      rw [hWn] at hK ⊢
      clear hWn
      have HK3 := Lib.hid hK
      clear hK
      obtain ⟨yk, ys, yo, yd, yf⟩ := HQ8.out _ HK3.out
      have yl := HK3.out.q_.c2
      have y5 := HK3.out.q_.c5
      have y4 := HK3.out.q_.c4
      clear zk zs zo zd zf zi
      go_wp2
      go_ret
      exact HNO.out _ HK3.out _
    · have hz3 : ¬ (X.fin : Int) < (E : Int) := by omega
      have hz4 : ((E : Int) != (X.fin : Int)) = false := by simp; omega
      rw [if_neg (by omega)]
      clear hc
      cases fin
      all_goals
        go_enter Tryz.func29, Tryz.ntmps29
        go_wp2_with fail
        (try rw [hg])
        (try rw [hW1])
        go_quiet (fail)
        have hK := HK.out.drewN nq
        obtain ⟨W3, hWn⟩ : ∃ W, World.drewN W1 nq = W := ⟨_, rfl⟩
        rw [hWn] at hK ⊢
        clear hWn
        have HK3 := Lib.hid hK
        clear hK
        obtain ⟨yk, ys, yo, yd, yf⟩ := HQ8.out _ HK3.out
        have yl := HK3.out.q_.c2
        have y5 := HK3.out.q_.c5
        have y4 := HK3.out.q_.c4
        clear zk zs zo zd zf zi
        go_wp2
        go_ret
        exact HNO.out _ HK3.out _
    · have hz3 : ¬ (X.fin : Int) < (E : Int) := by omega
      have hz4 : ((E : Int) != (X.fin : Int)) = true := by simp; omega
      cases fin
      · rw [if_neg (by simp; omega)]
        clear hc
        go_enter Tryz.func29, Tryz.ntmps29
        go_wp2_with fail
        (try rw [hg])
        (try rw [hW1])
        go_quiet (fail)
        have hK := HK.out.drewN nq
        obtain ⟨W3, hWn⟩ : ∃ W, World.drewN W1 nq = W := ⟨_, rfl⟩
        rw [hWn] at hK ⊢
        clear hWn
        have HK3 := Lib.hid hK
        clear hK
        obtain ⟨yk, ys, yo, yd, yf⟩ := HQ8.out _ HK3.out
        have yl := HK3.out.q_.c2
        have y5 := HK3.out.q_.c5
        have y4 := HK3.out.q_.c4
        clear zk zs zo zd zf zi
        go_wp2
        go_ret
        exact HNO.out _ HK3.out _
      · rw [if_pos (.inr ⟨rfl, by omega⟩)]
        clear hc
        go_enter Tryz.func29, Tryz.ntmps29
        go_wp2_with fail
        (try rw [hg])
        (try rw [hW1])
        go_quiet (fail)
        have hK := HK.out.drewN nq
        obtain ⟨W3, hWn⟩ : ∃ W, World.drewN W1 nq = W := ⟨_, rfl⟩
        rw [hWn] at hK ⊢
        clear hWn
        have HK3 := Lib.hid hK
        clear hK
        obtain ⟨yk, ys, yo, yd, yf⟩ := HQ8.out _ HK3.out
        have yl := HK3.out.q_.c2
        have y5 := HK3.out.q_.c5
        have y4 := HK3.out.q_.c4
        clear zk zs zo zd zf zi
        go_wp2
        go_ret
        exact HNO.out _ HK3.out _
  · have h5z : ¬ (5 : Int) ≤ (X.st : Int) := by omega
    have hx : onSE X off bs.length fin = addE X.b off n fin := by unfold onSE; rw [if_neg hcl, if_neg h5, hlen]
    have HADD : Hid (∀ Y, RqF w base q g O X m ⟨A, n, c⟩ Y → Kept O w Y → Calls Tryz.prog 45 #[.pointer (some ⟨q, 6, none⟩), .int .u64 off, .slice A n c, .bool fin] Y fun e w' => e = .returned (.int .i64 (addE X.b off n fin)) ∧ RqA w base q g O { X with b := addR X.b off bs fin } off A n c fin w') := Lib.hid (fun Y k kY => by
      have hs := k.b.size
      refine (fadd_any (X := rxQ X) base q O X.b off A n c bs fin Y k.q_ ho.b (Nat.le_trans hb hs) ((hd.kept (Kept.of_below k.b (fun _ => False)) fun _ _ h => h)) hdc hoff hdn).mono fun e w' hP => ?_
      obtain ⟨he, O2, h2, k2, o2⟩ := hP
      obtain ⟨f0, f1, f2, f3, f4⟩ := HQ8.out _ k
      have hgY : g < Y.heap.size := by
        rcases Nat.lt_or_ge g Y.heap.size with h' | h'
        · exact h'
        · exfalso
          have := f2
          rw [World.cell?] at this
          simp [Array.getElem?_eq_none h'] at this
      have hc : ∀ o, w'.cell? ⟨g, o, none⟩ = Y.cell? ⟨g, o, none⟩ := fun o => k2.cell (p := ⟨g, o, none⟩) hgY hgO
      exact ⟨he, ⟨O2, h2, kY.trans' k2 fun j hj => .inl hj, fun j hj => (o2 j hj).imp id fun h => by omega⟩, by rw [hc]; exact f2, by rw [hc]; exact f3, by rw [hc]; exact f4⟩)
    have HOq : Hid (O q) := Lib.hid h.own
    rw [hx]
    by_cases he0 : addE X.b off n fin = 0
    · have hX : onSX X off bs fin = settleQ { X with b := addS X.b off bs fin } := by unfold onSX; rw [hx, if_pos ⟨he0, by omega⟩]
      have hR : addR X.b off bs fin = addS X.b off bs fin := by unfold addR; rw [if_pos (by rw [hlen]; exact he0)]
      have hbok : (addS X.b off bs fin).ok := by rw [← hR]; exact addR_ok17 ho.b fin hd.byt
      have hdu := ho.du
      have hs2 := ho.s2
      have hen2 : X.st = 2 → (addS X.b off bs fin).en = true := fun e => by show (X.b.en || fin) = true; rw [(hs2 e).1]; rfl
      rw [hR, he0] at HADD
      rw [hX, he0]
      obtain ⟨b2, hb2⟩ : ∃ b2, addS X.b off bs fin = b2 := ⟨_, rfl⟩
      rw [hb2] at HADD hbok hen2 ⊢
      have hst : X.st = 1 ∨ X.st = 2 ∨ X.st = 3 ∨ X.st = 4 := by omega
      have HMID : Hid (∀ W, RqA w base q g O { X with b := b2 } off A n c fin W → RqM w base q O { X with b := b2 } W) := Lib.hid (fun W k => by obtain ⟨O2, a1, a2, a3⟩ := k.ex; exact ⟨O2, a1, a2, a3, HOq.out⟩)
      have HBO := Lib.hid hbok
      obtain ⟨wb, hwb⟩ : ∃ wb, wholeB b2 = wb := ⟨_, rfl⟩
      obtain ⟨en, hen⟩ : ∃ en, b2.en = en := ⟨_, rfl⟩
      have hsq : settleQ { X with b := b2 } = if X.st ≤ 2 then (if wb = true then { X with b := b2, st := 3, due := false } else if en = true then { X with b := b2, st := 2 } else { X with b := b2 }) else { X with b := b2 } := by unfold settleQ; rw [← hwb, ← hen]
      have hwe : wb = true → en = true := fun e => by rw [← hen]; exact wholeB_en (by rw [hwb]; exact e)
      rw [hen] at hen2
      rw [hsq]
      clear h ho hb hd hlen hx hL hk hs hmo hfi hc0 hc1 hE hfin hcl h5 he0 hX hR hb2 hbok hs2 hsq
      have hcs : (X.st = 1 ∧ wb = false ∧ en = false) ∨ (X.st = 1 ∧ wb = false ∧ en = true) ∨ (X.st = 1 ∧ wb = true ∧ en = true) ∨ (X.st = 2 ∧ wb = false ∧ en = true) ∨ (X.st = 2 ∧ wb = true ∧ en = true) ∨ (X.st = 3) ∨ (X.st = 4) := by
        rcases hst with e | e | e | e
        · cases wb <;> cases en <;> simp_all
        · have := hen2 e; cases wb <;> simp_all
        · simp_all
        · simp_all
      clear hst hen2 hwe
      rcases hcs with ⟨hst, rfl, rfl⟩ | ⟨hst, rfl, rfl⟩ | ⟨hst, rfl, rfl⟩ | ⟨hst, rfl, rfl⟩ | ⟨hst, rfl, rfl⟩ | hst | hst
      · rw [if_pos (by omega), if_neg (by simp), if_neg (by simp)]
        go_enter Tryz.func29, Tryz.ntmps29
        go_wp2_with fail
        (try rw [hg])
        (try rw [hW1])
        go_quiet (fail)
        have hK := HK.out.drewN nq
        obtain ⟨W3, hWn⟩ : ∃ W, World.drewN W1 nq = W := ⟨_, rfl⟩
        rw [hWn] at hK ⊢
        clear hWn
        have HK3 := Lib.hid hK
        clear hK
        obtain ⟨yk, ys, yo, yd, yf⟩ := HQ8.out _ HK3.out
        have yl := HK3.out.q_.c2
        have y5 := HK3.out.q_.c5
        have y4 := HK3.out.q_.c4
        clear zk zs zo zd zf zi
        go_wp2_with fail
        obtain ⟨Y, hY⟩ : ∃ Y, W3.drew = Y := ⟨_, rfl⟩
        have hKY := HK3.out.drewN 1
        change RqF w base q g O X m ⟨A, n, c⟩ W3.drew at hKY
        rw [hY] at hKY
        have HKY := Lib.hid hKY
        have HKK : Hid (Kept O w Y) := Lib.hid (Kept.of_below hKY.b O)
        obtain ⟨uk, us, uo, ud, uf⟩ := HQ8.out _ hKY
        clear hKY yk ys yo yd yf yl y5 y4
        refine wp_region_held_drew (S := (fun W => W.cell? ⟨g, 2, none⟩ = some (.int .u64 off) ∧ W.cell? ⟨g, 3, none⟩ = some (.slice A n c) ∧ W.cell? ⟨g, 4, none⟩ = some (.bool fin))) (by kernel_rfl) (by rw [hY]; exact ⟨uo, ud, uf⟩) (fun hHeld => ?_)
        rw [hY] at hHeld ⊢
        clear hY
        refine tkq 0 (some 144) (v := ?_) rfl (Or.inl ⟨by rfl, ?_⟩) (by assumption) ?_
        rotate_left
        · intro w hSw; (try dsimp only at hSw); go_simp; first | done | (with_reducible rfl)
        simp only [Act.put, List.setIfInBounds_toArray, List.set_cons_zero, List.set_cons_succ]
        refine tkq 1 (some 145) (v := ?_) rfl (Or.inl ⟨by rfl, ?_⟩) (by assumption) ?_
        rotate_left
        · intro w hSw; (try dsimp only at hSw); go_simp; first | done | (with_reducible rfl)
        simp only [Act.put, List.setIfInBounds_toArray, List.set_cons_zero, List.set_cons_succ]
        refine tkq 2 (some 146) (v := ?_) rfl (Or.inl ⟨by rfl, ?_⟩) (by assumption) ?_
        rotate_left
        · intro w hSw; (try dsimp only at hSw); go_simp; first | done | (with_reducible rfl)
        simp only [Act.put, List.setIfInBounds_toArray, List.set_cons_zero, List.set_cons_succ]
        refine tkq 3 (some 147) (v := ?_) rfl (Or.inl ⟨by rfl, ?_⟩) (by assumption) ?_
        rotate_left
        · intro w hSw; (try dsimp only at hSw); go_simp; first | done | (with_reducible rfl)
        simp only [Act.put, List.setIfInBounds_toArray, List.set_cons_zero, List.set_cons_succ]
        refine tkq 4 (some 148) (v := ?_) rfl (Or.inl ⟨by rfl, ?_⟩) (by assumption) ?_
        rotate_left
        · intro w hSw; (try dsimp only at hSw); go_simp; first | done | (with_reducible rfl)
        simp only [Act.put, List.setIfInBounds_toArray, List.set_cons_zero, List.set_cons_succ]
        refine tkq 5 (some 149) (v := ?_) rfl (Or.inl ⟨by rfl, ?_⟩) (by assumption) ?_
        rotate_left
        · intro w hSw; (try dsimp only at hSw); go_simp; first | done | (with_reducible rfl)
        simp only [Act.put, List.setIfInBounds_toArray, List.set_cons_zero, List.set_cons_succ]
        refine tkq 6 (some 150) (v := ?_) rfl (Or.inl ⟨by rfl, ?_⟩) (by assumption) ?_
        rotate_left
        · intro w hSw; (try dsimp only at hSw); go_simp; first | done | (with_reducible rfl)
        simp only [Act.put, List.setIfInBounds_toArray, List.set_cons_zero, List.set_cons_succ]
        refine tkq 7 (some 151) (v := ?_) rfl (Or.inl ⟨by rfl, ?_⟩) (by assumption) ?_
        rotate_left
        · intro w hSw; (try dsimp only at hSw); go_simp; first | done | (with_reducible rfl)
        simp only [Act.put, List.setIfInBounds_toArray, List.set_cons_zero, List.set_cons_succ]
        refine tkq 8 (some 152) (v := ?_) rfl (Or.inl ⟨by rfl, ?_⟩) (by assumption) ?_
        rotate_left
        · intro w hSw; (try dsimp only at hSw); go_simp; first | done | (with_reducible rfl)
        simp only [Act.put, List.setIfInBounds_toArray, List.set_cons_zero, List.set_cons_succ]
        refine wpAnyH_ready (rs := [9]) (by kernel_rfl) (by simp) ?_
        refine AllReadyH.cons rfl (fun K hK => ?_) AllReadyH.nil
        go_simp
        go_wp2_with (go_at_call 45; (with_reducible refine (HADD.out _ HKY.out HKK.out).mono ?_); rintro e w2 ⟨rfl, hA2⟩; have HA2 := Lib.hid hA2; clear hA2)
        refine hK.out _ _ (⟨HA2.out.g2, HA2.out.g3, HA2.out.g4⟩) (fun hHeld => ?_)
        clear hK K
        refine tkq 10 (some 6) (v := ?_) rfl (Or.inl ⟨by rfl, ?_⟩) (by assumption) ?_
        rotate_left
        · intro w hSw; (try dsimp only at hSw); go_simp; first | done | (with_reducible rfl)
        simp only [Act.put, List.setIfInBounds_toArray, List.set_cons_zero, List.set_cons_succ]
        refine wpAnyH_done (by kernel_rfl) ?_ _
        have HM := Lib.hid (HMID.out _ HA2.out)
        obtain ⟨a5, a9, a32, af5, af32⟩ := HM.out.rd
        rw [show ({ X with b := b2 } : QS).st = _ from hst] at a5
        rw [show ({ X with b := b2 } : QS).b.en = _ from hen] at a9
        go_wp2
        go_ret
        have h9 := HM.out.fin (.int .i64 0)
        rw [hst] at h9
        exact h9
      · rw [if_pos (by omega), if_neg (by simp), if_pos rfl]
        go_enter Tryz.func29, Tryz.ntmps29
        go_wp2_with fail
        (try rw [hg])
        (try rw [hW1])
        go_quiet (fail)
        have hK := HK.out.drewN nq
        obtain ⟨W3, hWn⟩ : ∃ W, World.drewN W1 nq = W := ⟨_, rfl⟩
        rw [hWn] at hK ⊢
        clear hWn
        have HK3 := Lib.hid hK
        clear hK
        obtain ⟨yk, ys, yo, yd, yf⟩ := HQ8.out _ HK3.out
        have yl := HK3.out.q_.c2
        have y5 := HK3.out.q_.c5
        have y4 := HK3.out.q_.c4
        clear zk zs zo zd zf zi
        go_wp2_with fail
        obtain ⟨Y, hY⟩ : ∃ Y, W3.drew = Y := ⟨_, rfl⟩
        have hKY := HK3.out.drewN 1
        change RqF w base q g O X m ⟨A, n, c⟩ W3.drew at hKY
        rw [hY] at hKY
        have HKY := Lib.hid hKY
        have HKK : Hid (Kept O w Y) := Lib.hid (Kept.of_below hKY.b O)
        obtain ⟨uk, us, uo, ud, uf⟩ := HQ8.out _ hKY
        clear hKY yk ys yo yd yf yl y5 y4
        refine wp_region_held_drew (S := (fun W => W.cell? ⟨g, 2, none⟩ = some (.int .u64 off) ∧ W.cell? ⟨g, 3, none⟩ = some (.slice A n c) ∧ W.cell? ⟨g, 4, none⟩ = some (.bool fin))) (by kernel_rfl) (by rw [hY]; exact ⟨uo, ud, uf⟩) (fun hHeld => ?_)
        rw [hY] at hHeld ⊢
        clear hY
        refine tkq 0 (some 144) (v := ?_) rfl (Or.inl ⟨by rfl, ?_⟩) (by assumption) ?_
        rotate_left
        · intro w hSw; (try dsimp only at hSw); go_simp; first | done | (with_reducible rfl)
        simp only [Act.put, List.setIfInBounds_toArray, List.set_cons_zero, List.set_cons_succ]
        refine tkq 1 (some 145) (v := ?_) rfl (Or.inl ⟨by rfl, ?_⟩) (by assumption) ?_
        rotate_left
        · intro w hSw; (try dsimp only at hSw); go_simp; first | done | (with_reducible rfl)
        simp only [Act.put, List.setIfInBounds_toArray, List.set_cons_zero, List.set_cons_succ]
        refine tkq 2 (some 146) (v := ?_) rfl (Or.inl ⟨by rfl, ?_⟩) (by assumption) ?_
        rotate_left
        · intro w hSw; (try dsimp only at hSw); go_simp; first | done | (with_reducible rfl)
        simp only [Act.put, List.setIfInBounds_toArray, List.set_cons_zero, List.set_cons_succ]
        refine tkq 3 (some 147) (v := ?_) rfl (Or.inl ⟨by rfl, ?_⟩) (by assumption) ?_
        rotate_left
        · intro w hSw; (try dsimp only at hSw); go_simp; first | done | (with_reducible rfl)
        simp only [Act.put, List.setIfInBounds_toArray, List.set_cons_zero, List.set_cons_succ]
        refine tkq 4 (some 148) (v := ?_) rfl (Or.inl ⟨by rfl, ?_⟩) (by assumption) ?_
        rotate_left
        · intro w hSw; (try dsimp only at hSw); go_simp; first | done | (with_reducible rfl)
        simp only [Act.put, List.setIfInBounds_toArray, List.set_cons_zero, List.set_cons_succ]
        refine tkq 5 (some 149) (v := ?_) rfl (Or.inl ⟨by rfl, ?_⟩) (by assumption) ?_
        rotate_left
        · intro w hSw; (try dsimp only at hSw); go_simp; first | done | (with_reducible rfl)
        simp only [Act.put, List.setIfInBounds_toArray, List.set_cons_zero, List.set_cons_succ]
        refine tkq 6 (some 150) (v := ?_) rfl (Or.inl ⟨by rfl, ?_⟩) (by assumption) ?_
        rotate_left
        · intro w hSw; (try dsimp only at hSw); go_simp; first | done | (with_reducible rfl)
        simp only [Act.put, List.setIfInBounds_toArray, List.set_cons_zero, List.set_cons_succ]
        refine tkq 7 (some 151) (v := ?_) rfl (Or.inl ⟨by rfl, ?_⟩) (by assumption) ?_
        rotate_left
        · intro w hSw; (try dsimp only at hSw); go_simp; first | done | (with_reducible rfl)
        simp only [Act.put, List.setIfInBounds_toArray, List.set_cons_zero, List.set_cons_succ]
        refine tkq 8 (some 152) (v := ?_) rfl (Or.inl ⟨by rfl, ?_⟩) (by assumption) ?_
        rotate_left
        · intro w hSw; (try dsimp only at hSw); go_simp; first | done | (with_reducible rfl)
        simp only [Act.put, List.setIfInBounds_toArray, List.set_cons_zero, List.set_cons_succ]
        refine wpAnyH_ready (rs := [9]) (by kernel_rfl) (by simp) ?_
        refine AllReadyH.cons rfl (fun K hK => ?_) AllReadyH.nil
        go_simp
        go_wp2_with (go_at_call 45; (with_reducible refine (HADD.out _ HKY.out HKK.out).mono ?_); rintro e w2 ⟨rfl, hA2⟩; have HA2 := Lib.hid hA2; clear hA2)
        refine hK.out _ _ (⟨HA2.out.g2, HA2.out.g3, HA2.out.g4⟩) (fun hHeld => ?_)
        clear hK K
        refine tkq 10 (some 6) (v := ?_) rfl (Or.inl ⟨by rfl, ?_⟩) (by assumption) ?_
        rotate_left
        · intro w hSw; (try dsimp only at hSw); go_simp; first | done | (with_reducible rfl)
        simp only [Act.put, List.setIfInBounds_toArray, List.set_cons_zero, List.set_cons_succ]
        refine wpAnyH_done (by kernel_rfl) ?_ _
        have HM := Lib.hid (HMID.out _ HA2.out)
        obtain ⟨a5, a9, a32, af5, af32⟩ := HM.out.rd
        rw [show ({ X with b := b2 } : QS).st = _ from hst] at a5
        rw [show ({ X with b := b2 } : QS).b.en = _ from hen] at a9
        have HM2 := Lib.hid (HM.out.set 5 (.int .i64 2) { X with b := b2, st := 2 } (fun _ _ => rfl) rfl)
        go_wp2_with (first | (go_at_call 46; (with_reducible refine (HM2.out.whole HBO.out).mono ?_); rintro e w3 ⟨rfl, hm3⟩; rw [show wholeB b2 = _ from hwb]; have HM3 := Lib.hid hm3; obtain ⟨c5, c9, c32, cf5, cf32⟩ := hm3.rd; clear hm3) | fail)
        go_ret
        exact HM3.out.fin _
      · rw [if_pos (by omega), if_pos rfl]
        go_enter Tryz.func29, Tryz.ntmps29
        go_wp2_with fail
        (try rw [hg])
        (try rw [hW1])
        go_quiet (fail)
        have hK := HK.out.drewN nq
        obtain ⟨W3, hWn⟩ : ∃ W, World.drewN W1 nq = W := ⟨_, rfl⟩
        rw [hWn] at hK ⊢
        clear hWn
        have HK3 := Lib.hid hK
        clear hK
        obtain ⟨yk, ys, yo, yd, yf⟩ := HQ8.out _ HK3.out
        have yl := HK3.out.q_.c2
        have y5 := HK3.out.q_.c5
        have y4 := HK3.out.q_.c4
        clear zk zs zo zd zf zi
        go_wp2_with fail
        obtain ⟨Y, hY⟩ : ∃ Y, W3.drew = Y := ⟨_, rfl⟩
        have hKY := HK3.out.drewN 1
        change RqF w base q g O X m ⟨A, n, c⟩ W3.drew at hKY
        rw [hY] at hKY
        have HKY := Lib.hid hKY
        have HKK : Hid (Kept O w Y) := Lib.hid (Kept.of_below hKY.b O)
        obtain ⟨uk, us, uo, ud, uf⟩ := HQ8.out _ hKY
        clear hKY yk ys yo yd yf yl y5 y4
        refine wp_region_held_drew (S := (fun W => W.cell? ⟨g, 2, none⟩ = some (.int .u64 off) ∧ W.cell? ⟨g, 3, none⟩ = some (.slice A n c) ∧ W.cell? ⟨g, 4, none⟩ = some (.bool fin))) (by kernel_rfl) (by rw [hY]; exact ⟨uo, ud, uf⟩) (fun hHeld => ?_)
        rw [hY] at hHeld ⊢
        clear hY
        refine tkq 0 (some 144) (v := ?_) rfl (Or.inl ⟨by rfl, ?_⟩) (by assumption) ?_
        rotate_left
        · intro w hSw; (try dsimp only at hSw); go_simp; first | done | (with_reducible rfl)
        simp only [Act.put, List.setIfInBounds_toArray, List.set_cons_zero, List.set_cons_succ]
        refine tkq 1 (some 145) (v := ?_) rfl (Or.inl ⟨by rfl, ?_⟩) (by assumption) ?_
        rotate_left
        · intro w hSw; (try dsimp only at hSw); go_simp; first | done | (with_reducible rfl)
        simp only [Act.put, List.setIfInBounds_toArray, List.set_cons_zero, List.set_cons_succ]
        refine tkq 2 (some 146) (v := ?_) rfl (Or.inl ⟨by rfl, ?_⟩) (by assumption) ?_
        rotate_left
        · intro w hSw; (try dsimp only at hSw); go_simp; first | done | (with_reducible rfl)
        simp only [Act.put, List.setIfInBounds_toArray, List.set_cons_zero, List.set_cons_succ]
        refine tkq 3 (some 147) (v := ?_) rfl (Or.inl ⟨by rfl, ?_⟩) (by assumption) ?_
        rotate_left
        · intro w hSw; (try dsimp only at hSw); go_simp; first | done | (with_reducible rfl)
        simp only [Act.put, List.setIfInBounds_toArray, List.set_cons_zero, List.set_cons_succ]
        refine tkq 4 (some 148) (v := ?_) rfl (Or.inl ⟨by rfl, ?_⟩) (by assumption) ?_
        rotate_left
        · intro w hSw; (try dsimp only at hSw); go_simp; first | done | (with_reducible rfl)
        simp only [Act.put, List.setIfInBounds_toArray, List.set_cons_zero, List.set_cons_succ]
        refine tkq 5 (some 149) (v := ?_) rfl (Or.inl ⟨by rfl, ?_⟩) (by assumption) ?_
        rotate_left
        · intro w hSw; (try dsimp only at hSw); go_simp; first | done | (with_reducible rfl)
        simp only [Act.put, List.setIfInBounds_toArray, List.set_cons_zero, List.set_cons_succ]
        refine tkq 6 (some 150) (v := ?_) rfl (Or.inl ⟨by rfl, ?_⟩) (by assumption) ?_
        rotate_left
        · intro w hSw; (try dsimp only at hSw); go_simp; first | done | (with_reducible rfl)
        simp only [Act.put, List.setIfInBounds_toArray, List.set_cons_zero, List.set_cons_succ]
        refine tkq 7 (some 151) (v := ?_) rfl (Or.inl ⟨by rfl, ?_⟩) (by assumption) ?_
        rotate_left
        · intro w hSw; (try dsimp only at hSw); go_simp; first | done | (with_reducible rfl)
        simp only [Act.put, List.setIfInBounds_toArray, List.set_cons_zero, List.set_cons_succ]
        refine tkq 8 (some 152) (v := ?_) rfl (Or.inl ⟨by rfl, ?_⟩) (by assumption) ?_
        rotate_left
        · intro w hSw; (try dsimp only at hSw); go_simp; first | done | (with_reducible rfl)
        simp only [Act.put, List.setIfInBounds_toArray, List.set_cons_zero, List.set_cons_succ]
        refine wpAnyH_ready (rs := [9]) (by kernel_rfl) (by simp) ?_
        refine AllReadyH.cons rfl (fun K hK => ?_) AllReadyH.nil
        go_simp
        go_wp2_with (go_at_call 45; (with_reducible refine (HADD.out _ HKY.out HKK.out).mono ?_); rintro e w2 ⟨rfl, hA2⟩; have HA2 := Lib.hid hA2; clear hA2)
        refine hK.out _ _ (⟨HA2.out.g2, HA2.out.g3, HA2.out.g4⟩) (fun hHeld => ?_)
        clear hK K
        refine tkq 10 (some 6) (v := ?_) rfl (Or.inl ⟨by rfl, ?_⟩) (by assumption) ?_
        rotate_left
        · intro w hSw; (try dsimp only at hSw); go_simp; first | done | (with_reducible rfl)
        simp only [Act.put, List.setIfInBounds_toArray, List.set_cons_zero, List.set_cons_succ]
        refine wpAnyH_done (by kernel_rfl) ?_ _
        have HM := Lib.hid (HMID.out _ HA2.out)
        obtain ⟨a5, a9, a32, af5, af32⟩ := HM.out.rd
        rw [show ({ X with b := b2 } : QS).st = _ from hst] at a5
        rw [show ({ X with b := b2 } : QS).b.en = _ from hen] at a9
        have HM2 := Lib.hid (HM.out.set 5 (.int .i64 2) { X with b := b2, st := 2 } (fun _ _ => rfl) rfl)
        go_wp2_with (first | (go_at_call 46; (with_reducible refine (HM2.out.whole HBO.out).mono ?_); rintro e w3 ⟨rfl, hm3⟩; rw [show wholeB b2 = _ from hwb]; have HM3 := Lib.hid hm3; obtain ⟨c5, c9, c32, cf5, cf32⟩ := hm3.rd; clear hm3) | fail)
        go_ret
        exact ((HM3.out.set 5 (.int .i64 3) { X with b := b2, st := 3 } (fun _ _ => rfl) rfl).set 32 (.bool false) { X with b := b2, st := 3, due := false } (fun _ _ => rfl) rfl).fin _
      · rw [if_pos (by omega), if_neg (by simp), if_pos rfl]
        go_enter Tryz.func29, Tryz.ntmps29
        go_wp2_with fail
        (try rw [hg])
        (try rw [hW1])
        go_quiet (fail)
        have hK := HK.out.drewN nq
        obtain ⟨W3, hWn⟩ : ∃ W, World.drewN W1 nq = W := ⟨_, rfl⟩
        rw [hWn] at hK ⊢
        clear hWn
        have HK3 := Lib.hid hK
        clear hK
        obtain ⟨yk, ys, yo, yd, yf⟩ := HQ8.out _ HK3.out
        have yl := HK3.out.q_.c2
        have y5 := HK3.out.q_.c5
        have y4 := HK3.out.q_.c4
        clear zk zs zo zd zf zi
        go_wp2_with fail
        obtain ⟨Y, hY⟩ : ∃ Y, W3.drew = Y := ⟨_, rfl⟩
        have hKY := HK3.out.drewN 1
        change RqF w base q g O X m ⟨A, n, c⟩ W3.drew at hKY
        rw [hY] at hKY
        have HKY := Lib.hid hKY
        have HKK : Hid (Kept O w Y) := Lib.hid (Kept.of_below hKY.b O)
        obtain ⟨uk, us, uo, ud, uf⟩ := HQ8.out _ hKY
        clear hKY yk ys yo yd yf yl y5 y4
        refine wp_region_held_drew (S := (fun W => W.cell? ⟨g, 2, none⟩ = some (.int .u64 off) ∧ W.cell? ⟨g, 3, none⟩ = some (.slice A n c) ∧ W.cell? ⟨g, 4, none⟩ = some (.bool fin))) (by kernel_rfl) (by rw [hY]; exact ⟨uo, ud, uf⟩) (fun hHeld => ?_)
        rw [hY] at hHeld ⊢
        clear hY
        refine tkq 0 (some 144) (v := ?_) rfl (Or.inl ⟨by rfl, ?_⟩) (by assumption) ?_
        rotate_left
        · intro w hSw; (try dsimp only at hSw); go_simp; first | done | (with_reducible rfl)
        simp only [Act.put, List.setIfInBounds_toArray, List.set_cons_zero, List.set_cons_succ]
        refine tkq 1 (some 145) (v := ?_) rfl (Or.inl ⟨by rfl, ?_⟩) (by assumption) ?_
        rotate_left
        · intro w hSw; (try dsimp only at hSw); go_simp; first | done | (with_reducible rfl)
        simp only [Act.put, List.setIfInBounds_toArray, List.set_cons_zero, List.set_cons_succ]
        refine tkq 2 (some 146) (v := ?_) rfl (Or.inl ⟨by rfl, ?_⟩) (by assumption) ?_
        rotate_left
        · intro w hSw; (try dsimp only at hSw); go_simp; first | done | (with_reducible rfl)
        simp only [Act.put, List.setIfInBounds_toArray, List.set_cons_zero, List.set_cons_succ]
        refine tkq 3 (some 147) (v := ?_) rfl (Or.inl ⟨by rfl, ?_⟩) (by assumption) ?_
        rotate_left
        · intro w hSw; (try dsimp only at hSw); go_simp; first | done | (with_reducible rfl)
        simp only [Act.put, List.setIfInBounds_toArray, List.set_cons_zero, List.set_cons_succ]
        refine tkq 4 (some 148) (v := ?_) rfl (Or.inl ⟨by rfl, ?_⟩) (by assumption) ?_
        rotate_left
        · intro w hSw; (try dsimp only at hSw); go_simp; first | done | (with_reducible rfl)
        simp only [Act.put, List.setIfInBounds_toArray, List.set_cons_zero, List.set_cons_succ]
        refine tkq 5 (some 149) (v := ?_) rfl (Or.inl ⟨by rfl, ?_⟩) (by assumption) ?_
        rotate_left
        · intro w hSw; (try dsimp only at hSw); go_simp; first | done | (with_reducible rfl)
        simp only [Act.put, List.setIfInBounds_toArray, List.set_cons_zero, List.set_cons_succ]
        refine tkq 6 (some 150) (v := ?_) rfl (Or.inl ⟨by rfl, ?_⟩) (by assumption) ?_
        rotate_left
        · intro w hSw; (try dsimp only at hSw); go_simp; first | done | (with_reducible rfl)
        simp only [Act.put, List.setIfInBounds_toArray, List.set_cons_zero, List.set_cons_succ]
        refine tkq 7 (some 151) (v := ?_) rfl (Or.inl ⟨by rfl, ?_⟩) (by assumption) ?_
        rotate_left
        · intro w hSw; (try dsimp only at hSw); go_simp; first | done | (with_reducible rfl)
        simp only [Act.put, List.setIfInBounds_toArray, List.set_cons_zero, List.set_cons_succ]
        refine tkq 8 (some 152) (v := ?_) rfl (Or.inl ⟨by rfl, ?_⟩) (by assumption) ?_
        rotate_left
        · intro w hSw; (try dsimp only at hSw); go_simp; first | done | (with_reducible rfl)
        simp only [Act.put, List.setIfInBounds_toArray, List.set_cons_zero, List.set_cons_succ]
        refine wpAnyH_ready (rs := [9]) (by kernel_rfl) (by simp) ?_
        refine AllReadyH.cons rfl (fun K hK => ?_) AllReadyH.nil
        go_simp
        go_wp2_with (go_at_call 45; (with_reducible refine (HADD.out _ HKY.out HKK.out).mono ?_); rintro e w2 ⟨rfl, hA2⟩; have HA2 := Lib.hid hA2; clear hA2)
        refine hK.out _ _ (⟨HA2.out.g2, HA2.out.g3, HA2.out.g4⟩) (fun hHeld => ?_)
        clear hK K
        refine tkq 10 (some 6) (v := ?_) rfl (Or.inl ⟨by rfl, ?_⟩) (by assumption) ?_
        rotate_left
        · intro w hSw; (try dsimp only at hSw); go_simp; first | done | (with_reducible rfl)
        simp only [Act.put, List.setIfInBounds_toArray, List.set_cons_zero, List.set_cons_succ]
        refine wpAnyH_done (by kernel_rfl) ?_ _
        have HM := Lib.hid (HMID.out _ HA2.out)
        obtain ⟨a5, a9, a32, af5, af32⟩ := HM.out.rd
        rw [show ({ X with b := b2 } : QS).st = _ from hst] at a5
        rw [show ({ X with b := b2 } : QS).b.en = _ from hen] at a9
        go_wp2_with (first | (go_at_call 46; (with_reducible refine (HM.out.whole HBO.out).mono ?_); rintro e w3 ⟨rfl, hm3⟩; rw [show wholeB b2 = _ from hwb]; have HM3 := Lib.hid hm3; obtain ⟨c5, c9, c32, cf5, cf32⟩ := hm3.rd; clear hm3) | fail)
        go_ret
        have e : ({ X with b := b2, st := 2 } : QS) = { X with b := b2 } := by rw [← hst]
        rw [e]
        exact HM3.out.fin _
      · rw [if_pos (by omega), if_pos rfl]
        go_enter Tryz.func29, Tryz.ntmps29
        go_wp2_with fail
        (try rw [hg])
        (try rw [hW1])
        go_quiet (fail)
        have hK := HK.out.drewN nq
        obtain ⟨W3, hWn⟩ : ∃ W, World.drewN W1 nq = W := ⟨_, rfl⟩
        rw [hWn] at hK ⊢
        clear hWn
        have HK3 := Lib.hid hK
        clear hK
        obtain ⟨yk, ys, yo, yd, yf⟩ := HQ8.out _ HK3.out
        have yl := HK3.out.q_.c2
        have y5 := HK3.out.q_.c5
        have y4 := HK3.out.q_.c4
        clear zk zs zo zd zf zi
        go_wp2_with fail
        obtain ⟨Y, hY⟩ : ∃ Y, W3.drew = Y := ⟨_, rfl⟩
        have hKY := HK3.out.drewN 1
        change RqF w base q g O X m ⟨A, n, c⟩ W3.drew at hKY
        rw [hY] at hKY
        have HKY := Lib.hid hKY
        have HKK : Hid (Kept O w Y) := Lib.hid (Kept.of_below hKY.b O)
        obtain ⟨uk, us, uo, ud, uf⟩ := HQ8.out _ hKY
        clear hKY yk ys yo yd yf yl y5 y4
        refine wp_region_held_drew (S := (fun W => W.cell? ⟨g, 2, none⟩ = some (.int .u64 off) ∧ W.cell? ⟨g, 3, none⟩ = some (.slice A n c) ∧ W.cell? ⟨g, 4, none⟩ = some (.bool fin))) (by kernel_rfl) (by rw [hY]; exact ⟨uo, ud, uf⟩) (fun hHeld => ?_)
        rw [hY] at hHeld ⊢
        clear hY
        refine tkq 0 (some 144) (v := ?_) rfl (Or.inl ⟨by rfl, ?_⟩) (by assumption) ?_
        rotate_left
        · intro w hSw; (try dsimp only at hSw); go_simp; first | done | (with_reducible rfl)
        simp only [Act.put, List.setIfInBounds_toArray, List.set_cons_zero, List.set_cons_succ]
        refine tkq 1 (some 145) (v := ?_) rfl (Or.inl ⟨by rfl, ?_⟩) (by assumption) ?_
        rotate_left
        · intro w hSw; (try dsimp only at hSw); go_simp; first | done | (with_reducible rfl)
        simp only [Act.put, List.setIfInBounds_toArray, List.set_cons_zero, List.set_cons_succ]
        refine tkq 2 (some 146) (v := ?_) rfl (Or.inl ⟨by rfl, ?_⟩) (by assumption) ?_
        rotate_left
        · intro w hSw; (try dsimp only at hSw); go_simp; first | done | (with_reducible rfl)
        simp only [Act.put, List.setIfInBounds_toArray, List.set_cons_zero, List.set_cons_succ]
        refine tkq 3 (some 147) (v := ?_) rfl (Or.inl ⟨by rfl, ?_⟩) (by assumption) ?_
        rotate_left
        · intro w hSw; (try dsimp only at hSw); go_simp; first | done | (with_reducible rfl)
        simp only [Act.put, List.setIfInBounds_toArray, List.set_cons_zero, List.set_cons_succ]
        refine tkq 4 (some 148) (v := ?_) rfl (Or.inl ⟨by rfl, ?_⟩) (by assumption) ?_
        rotate_left
        · intro w hSw; (try dsimp only at hSw); go_simp; first | done | (with_reducible rfl)
        simp only [Act.put, List.setIfInBounds_toArray, List.set_cons_zero, List.set_cons_succ]
        refine tkq 5 (some 149) (v := ?_) rfl (Or.inl ⟨by rfl, ?_⟩) (by assumption) ?_
        rotate_left
        · intro w hSw; (try dsimp only at hSw); go_simp; first | done | (with_reducible rfl)
        simp only [Act.put, List.setIfInBounds_toArray, List.set_cons_zero, List.set_cons_succ]
        refine tkq 6 (some 150) (v := ?_) rfl (Or.inl ⟨by rfl, ?_⟩) (by assumption) ?_
        rotate_left
        · intro w hSw; (try dsimp only at hSw); go_simp; first | done | (with_reducible rfl)
        simp only [Act.put, List.setIfInBounds_toArray, List.set_cons_zero, List.set_cons_succ]
        refine tkq 7 (some 151) (v := ?_) rfl (Or.inl ⟨by rfl, ?_⟩) (by assumption) ?_
        rotate_left
        · intro w hSw; (try dsimp only at hSw); go_simp; first | done | (with_reducible rfl)
        simp only [Act.put, List.setIfInBounds_toArray, List.set_cons_zero, List.set_cons_succ]
        refine tkq 8 (some 152) (v := ?_) rfl (Or.inl ⟨by rfl, ?_⟩) (by assumption) ?_
        rotate_left
        · intro w hSw; (try dsimp only at hSw); go_simp; first | done | (with_reducible rfl)
        simp only [Act.put, List.setIfInBounds_toArray, List.set_cons_zero, List.set_cons_succ]
        refine wpAnyH_ready (rs := [9]) (by kernel_rfl) (by simp) ?_
        refine AllReadyH.cons rfl (fun K hK => ?_) AllReadyH.nil
        go_simp
        go_wp2_with (go_at_call 45; (with_reducible refine (HADD.out _ HKY.out HKK.out).mono ?_); rintro e w2 ⟨rfl, hA2⟩; have HA2 := Lib.hid hA2; clear hA2)
        refine hK.out _ _ (⟨HA2.out.g2, HA2.out.g3, HA2.out.g4⟩) (fun hHeld => ?_)
        clear hK K
        refine tkq 10 (some 6) (v := ?_) rfl (Or.inl ⟨by rfl, ?_⟩) (by assumption) ?_
        rotate_left
        · intro w hSw; (try dsimp only at hSw); go_simp; first | done | (with_reducible rfl)
        simp only [Act.put, List.setIfInBounds_toArray, List.set_cons_zero, List.set_cons_succ]
        refine wpAnyH_done (by kernel_rfl) ?_ _
        have HM := Lib.hid (HMID.out _ HA2.out)
        obtain ⟨a5, a9, a32, af5, af32⟩ := HM.out.rd
        rw [show ({ X with b := b2 } : QS).st = _ from hst] at a5
        rw [show ({ X with b := b2 } : QS).b.en = _ from hen] at a9
        go_wp2_with (first | (go_at_call 46; (with_reducible refine (HM.out.whole HBO.out).mono ?_); rintro e w3 ⟨rfl, hm3⟩; rw [show wholeB b2 = _ from hwb]; have HM3 := Lib.hid hm3; obtain ⟨c5, c9, c32, cf5, cf32⟩ := hm3.rd; clear hm3) | fail)
        go_ret
        exact ((HM3.out.set 5 (.int .i64 3) { X with b := b2, st := 3 } (fun _ _ => rfl) rfl).set 32 (.bool false) { X with b := b2, st := 3, due := false } (fun _ _ => rfl) rfl).fin _
      · rw [if_neg (by omega)]
        go_enter Tryz.func29, Tryz.ntmps29
        go_wp2_with fail
        (try rw [hg])
        (try rw [hW1])
        go_quiet (fail)
        have hK := HK.out.drewN nq
        obtain ⟨W3, hWn⟩ : ∃ W, World.drewN W1 nq = W := ⟨_, rfl⟩
        rw [hWn] at hK ⊢
        clear hWn
        have HK3 := Lib.hid hK
        clear hK
        obtain ⟨yk, ys, yo, yd, yf⟩ := HQ8.out _ HK3.out
        have yl := HK3.out.q_.c2
        have y5 := HK3.out.q_.c5
        have y4 := HK3.out.q_.c4
        clear zk zs zo zd zf zi
        go_wp2_with fail
        obtain ⟨Y, hY⟩ : ∃ Y, W3.drew = Y := ⟨_, rfl⟩
        have hKY := HK3.out.drewN 1
        change RqF w base q g O X m ⟨A, n, c⟩ W3.drew at hKY
        rw [hY] at hKY
        have HKY := Lib.hid hKY
        have HKK : Hid (Kept O w Y) := Lib.hid (Kept.of_below hKY.b O)
        obtain ⟨uk, us, uo, ud, uf⟩ := HQ8.out _ hKY
        clear hKY yk ys yo yd yf yl y5 y4
        refine wp_region_held_drew (S := (fun W => W.cell? ⟨g, 2, none⟩ = some (.int .u64 off) ∧ W.cell? ⟨g, 3, none⟩ = some (.slice A n c) ∧ W.cell? ⟨g, 4, none⟩ = some (.bool fin))) (by kernel_rfl) (by rw [hY]; exact ⟨uo, ud, uf⟩) (fun hHeld => ?_)
        rw [hY] at hHeld ⊢
        clear hY
        refine tkq 0 (some 144) (v := ?_) rfl (Or.inl ⟨by rfl, ?_⟩) (by assumption) ?_
        rotate_left
        · intro w hSw; (try dsimp only at hSw); go_simp; first | done | (with_reducible rfl)
        simp only [Act.put, List.setIfInBounds_toArray, List.set_cons_zero, List.set_cons_succ]
        refine tkq 1 (some 145) (v := ?_) rfl (Or.inl ⟨by rfl, ?_⟩) (by assumption) ?_
        rotate_left
        · intro w hSw; (try dsimp only at hSw); go_simp; first | done | (with_reducible rfl)
        simp only [Act.put, List.setIfInBounds_toArray, List.set_cons_zero, List.set_cons_succ]
        refine tkq 2 (some 146) (v := ?_) rfl (Or.inl ⟨by rfl, ?_⟩) (by assumption) ?_
        rotate_left
        · intro w hSw; (try dsimp only at hSw); go_simp; first | done | (with_reducible rfl)
        simp only [Act.put, List.setIfInBounds_toArray, List.set_cons_zero, List.set_cons_succ]
        refine tkq 3 (some 147) (v := ?_) rfl (Or.inl ⟨by rfl, ?_⟩) (by assumption) ?_
        rotate_left
        · intro w hSw; (try dsimp only at hSw); go_simp; first | done | (with_reducible rfl)
        simp only [Act.put, List.setIfInBounds_toArray, List.set_cons_zero, List.set_cons_succ]
        refine tkq 4 (some 148) (v := ?_) rfl (Or.inl ⟨by rfl, ?_⟩) (by assumption) ?_
        rotate_left
        · intro w hSw; (try dsimp only at hSw); go_simp; first | done | (with_reducible rfl)
        simp only [Act.put, List.setIfInBounds_toArray, List.set_cons_zero, List.set_cons_succ]
        refine tkq 5 (some 149) (v := ?_) rfl (Or.inl ⟨by rfl, ?_⟩) (by assumption) ?_
        rotate_left
        · intro w hSw; (try dsimp only at hSw); go_simp; first | done | (with_reducible rfl)
        simp only [Act.put, List.setIfInBounds_toArray, List.set_cons_zero, List.set_cons_succ]
        refine tkq 6 (some 150) (v := ?_) rfl (Or.inl ⟨by rfl, ?_⟩) (by assumption) ?_
        rotate_left
        · intro w hSw; (try dsimp only at hSw); go_simp; first | done | (with_reducible rfl)
        simp only [Act.put, List.setIfInBounds_toArray, List.set_cons_zero, List.set_cons_succ]
        refine tkq 7 (some 151) (v := ?_) rfl (Or.inl ⟨by rfl, ?_⟩) (by assumption) ?_
        rotate_left
        · intro w hSw; (try dsimp only at hSw); go_simp; first | done | (with_reducible rfl)
        simp only [Act.put, List.setIfInBounds_toArray, List.set_cons_zero, List.set_cons_succ]
        refine tkq 8 (some 152) (v := ?_) rfl (Or.inl ⟨by rfl, ?_⟩) (by assumption) ?_
        rotate_left
        · intro w hSw; (try dsimp only at hSw); go_simp; first | done | (with_reducible rfl)
        simp only [Act.put, List.setIfInBounds_toArray, List.set_cons_zero, List.set_cons_succ]
        refine wpAnyH_ready (rs := [9]) (by kernel_rfl) (by simp) ?_
        refine AllReadyH.cons rfl (fun K hK => ?_) AllReadyH.nil
        go_simp
        go_wp2_with (go_at_call 45; (with_reducible refine (HADD.out _ HKY.out HKK.out).mono ?_); rintro e w2 ⟨rfl, hA2⟩; have HA2 := Lib.hid hA2; clear hA2)
        refine hK.out _ _ (⟨HA2.out.g2, HA2.out.g3, HA2.out.g4⟩) (fun hHeld => ?_)
        clear hK K
        refine tkq 10 (some 6) (v := ?_) rfl (Or.inl ⟨by rfl, ?_⟩) (by assumption) ?_
        rotate_left
        · intro w hSw; (try dsimp only at hSw); go_simp; first | done | (with_reducible rfl)
        simp only [Act.put, List.setIfInBounds_toArray, List.set_cons_zero, List.set_cons_succ]
        refine wpAnyH_done (by kernel_rfl) ?_ _
        have HM := Lib.hid (HMID.out _ HA2.out)
        obtain ⟨a5, a9, a32, af5, af32⟩ := HM.out.rd
        rw [show ({ X with b := b2 } : QS).st = _ from hst] at a5
        have hd0 : X.due = false := by cases hq : X.due with | false => rfl | true => exact absurd (hdu hq).1 (by omega)
        have HE : Hid (RqM w base q O { X with b := b2 } (w2.setCell ⟨q, 32, none⟩ (.bool false))) := Lib.hid (HM.out.set 32 (.bool false) { X with b := b2 } (fun _ _ => by show (qrL { X with b := b2 } _ _).set 32 (.bool false) = _; rw [← hd0]; rfl) rfl)
        go_wp2
        go_ret
        have h9 := HE.out.fin (.int .i64 0)
        rw [hst, hd0] at h9
        exact h9
      · rw [if_neg (by omega)]
        go_enter Tryz.func29, Tryz.ntmps29
        go_wp2_with fail
        (try rw [hg])
        (try rw [hW1])
        go_quiet (fail)
        have hK := HK.out.drewN nq
        obtain ⟨W3, hWn⟩ : ∃ W, World.drewN W1 nq = W := ⟨_, rfl⟩
        rw [hWn] at hK ⊢
        clear hWn
        have HK3 := Lib.hid hK
        clear hK
        obtain ⟨yk, ys, yo, yd, yf⟩ := HQ8.out _ HK3.out
        have yl := HK3.out.q_.c2
        have y5 := HK3.out.q_.c5
        have y4 := HK3.out.q_.c4
        clear zk zs zo zd zf zi
        go_wp2_with fail
        obtain ⟨Y, hY⟩ : ∃ Y, W3.drew = Y := ⟨_, rfl⟩
        have hKY := HK3.out.drewN 1
        change RqF w base q g O X m ⟨A, n, c⟩ W3.drew at hKY
        rw [hY] at hKY
        have HKY := Lib.hid hKY
        have HKK : Hid (Kept O w Y) := Lib.hid (Kept.of_below hKY.b O)
        obtain ⟨uk, us, uo, ud, uf⟩ := HQ8.out _ hKY
        clear hKY yk ys yo yd yf yl y5 y4
        refine wp_region_held_drew (S := (fun W => W.cell? ⟨g, 2, none⟩ = some (.int .u64 off) ∧ W.cell? ⟨g, 3, none⟩ = some (.slice A n c) ∧ W.cell? ⟨g, 4, none⟩ = some (.bool fin))) (by kernel_rfl) (by rw [hY]; exact ⟨uo, ud, uf⟩) (fun hHeld => ?_)
        rw [hY] at hHeld ⊢
        clear hY
        refine tkq 0 (some 144) (v := ?_) rfl (Or.inl ⟨by rfl, ?_⟩) (by assumption) ?_
        rotate_left
        · intro w hSw; (try dsimp only at hSw); go_simp; first | done | (with_reducible rfl)
        simp only [Act.put, List.setIfInBounds_toArray, List.set_cons_zero, List.set_cons_succ]
        refine tkq 1 (some 145) (v := ?_) rfl (Or.inl ⟨by rfl, ?_⟩) (by assumption) ?_
        rotate_left
        · intro w hSw; (try dsimp only at hSw); go_simp; first | done | (with_reducible rfl)
        simp only [Act.put, List.setIfInBounds_toArray, List.set_cons_zero, List.set_cons_succ]
        refine tkq 2 (some 146) (v := ?_) rfl (Or.inl ⟨by rfl, ?_⟩) (by assumption) ?_
        rotate_left
        · intro w hSw; (try dsimp only at hSw); go_simp; first | done | (with_reducible rfl)
        simp only [Act.put, List.setIfInBounds_toArray, List.set_cons_zero, List.set_cons_succ]
        refine tkq 3 (some 147) (v := ?_) rfl (Or.inl ⟨by rfl, ?_⟩) (by assumption) ?_
        rotate_left
        · intro w hSw; (try dsimp only at hSw); go_simp; first | done | (with_reducible rfl)
        simp only [Act.put, List.setIfInBounds_toArray, List.set_cons_zero, List.set_cons_succ]
        refine tkq 4 (some 148) (v := ?_) rfl (Or.inl ⟨by rfl, ?_⟩) (by assumption) ?_
        rotate_left
        · intro w hSw; (try dsimp only at hSw); go_simp; first | done | (with_reducible rfl)
        simp only [Act.put, List.setIfInBounds_toArray, List.set_cons_zero, List.set_cons_succ]
        refine tkq 5 (some 149) (v := ?_) rfl (Or.inl ⟨by rfl, ?_⟩) (by assumption) ?_
        rotate_left
        · intro w hSw; (try dsimp only at hSw); go_simp; first | done | (with_reducible rfl)
        simp only [Act.put, List.setIfInBounds_toArray, List.set_cons_zero, List.set_cons_succ]
        refine tkq 6 (some 150) (v := ?_) rfl (Or.inl ⟨by rfl, ?_⟩) (by assumption) ?_
        rotate_left
        · intro w hSw; (try dsimp only at hSw); go_simp; first | done | (with_reducible rfl)
        simp only [Act.put, List.setIfInBounds_toArray, List.set_cons_zero, List.set_cons_succ]
        refine tkq 7 (some 151) (v := ?_) rfl (Or.inl ⟨by rfl, ?_⟩) (by assumption) ?_
        rotate_left
        · intro w hSw; (try dsimp only at hSw); go_simp; first | done | (with_reducible rfl)
        simp only [Act.put, List.setIfInBounds_toArray, List.set_cons_zero, List.set_cons_succ]
        refine tkq 8 (some 152) (v := ?_) rfl (Or.inl ⟨by rfl, ?_⟩) (by assumption) ?_
        rotate_left
        · intro w hSw; (try dsimp only at hSw); go_simp; first | done | (with_reducible rfl)
        simp only [Act.put, List.setIfInBounds_toArray, List.set_cons_zero, List.set_cons_succ]
        refine wpAnyH_ready (rs := [9]) (by kernel_rfl) (by simp) ?_
        refine AllReadyH.cons rfl (fun K hK => ?_) AllReadyH.nil
        go_simp
        go_wp2_with (go_at_call 45; (with_reducible refine (HADD.out _ HKY.out HKK.out).mono ?_); rintro e w2 ⟨rfl, hA2⟩; have HA2 := Lib.hid hA2; clear hA2)
        refine hK.out _ _ (⟨HA2.out.g2, HA2.out.g3, HA2.out.g4⟩) (fun hHeld => ?_)
        clear hK K
        refine tkq 10 (some 6) (v := ?_) rfl (Or.inl ⟨by rfl, ?_⟩) (by assumption) ?_
        rotate_left
        · intro w hSw; (try dsimp only at hSw); go_simp; first | done | (with_reducible rfl)
        simp only [Act.put, List.setIfInBounds_toArray, List.set_cons_zero, List.set_cons_succ]
        refine wpAnyH_done (by kernel_rfl) ?_ _
        have HM := Lib.hid (HMID.out _ HA2.out)
        obtain ⟨a5, a9, a32, af5, af32⟩ := HM.out.rd
        rw [show ({ X with b := b2 } : QS).st = _ from hst] at a5
        go_wp2
        go_ret
        have h9 := HM.out.fin (.int .i64 0)
        rw [hst] at h9
        exact h9
    · have hX : onSX X off bs fin = X := by unfold onSX; rw [hx, if_neg (fun h => he0 h.1)]
      have hR : addR X.b off bs fin = X.b := by unfold addR; rw [if_neg (by rw [hlen]; exact he0)]
      rw [hX]
      rw [hR] at HADD
      have hez : (addE X.b off n fin != 0) = true := by simpa using he0
      have HMID : Hid (∀ W, RqA w base q g O { X with b := X.b } off A n c fin W → RqM w base q O X W) := Lib.hid (fun W k => by obtain ⟨O2, a1, a2, a3⟩ := k.ex; exact ⟨O2, a1, a2, a3, HOq.out⟩)
      generalize addE X.b off n fin = er at *
      clear h ho hb hd hlen hx hL hk hs hmo hfi hc0 hc1 hE hfin hcl h5 he0 hX hR
      go_enter Tryz.func29, Tryz.ntmps29
      go_wp2_with fail
      (try rw [hg])
      (try rw [hW1])
      go_quiet (fail)
      have hK := HK.out.drewN nq
      obtain ⟨W3, hWn⟩ : ∃ W, World.drewN W1 nq = W := ⟨_, rfl⟩
      rw [hWn] at hK ⊢
      clear hWn
      have HK3 := Lib.hid hK
      clear hK
      obtain ⟨yk, ys, yo, yd, yf⟩ := HQ8.out _ HK3.out
      have yl := HK3.out.q_.c2
      have y5 := HK3.out.q_.c5
      have y4 := HK3.out.q_.c4
      clear zk zs zo zd zf zi
      go_wp2_with fail
      obtain ⟨Y, hY⟩ : ∃ Y, W3.drew = Y := ⟨_, rfl⟩
      have hKY := HK3.out.drewN 1
      change RqF w base q g O X m ⟨A, n, c⟩ W3.drew at hKY
      rw [hY] at hKY
      have HKY := Lib.hid hKY
      have HKK : Hid (Kept O w Y) := Lib.hid (Kept.of_below hKY.b O)
      obtain ⟨uk, us, uo, ud, uf⟩ := HQ8.out _ hKY
      clear hKY yk ys yo yd yf yl y5 y4
      refine wp_region_held_drew (S := (fun W => W.cell? ⟨g, 2, none⟩ = some (.int .u64 off) ∧ W.cell? ⟨g, 3, none⟩ = some (.slice A n c) ∧ W.cell? ⟨g, 4, none⟩ = some (.bool fin))) (by kernel_rfl) (by rw [hY]; exact ⟨uo, ud, uf⟩) (fun hHeld => ?_)
      rw [hY] at hHeld ⊢
      clear hY
      refine tkq 0 (some 144) (v := ?_) rfl (Or.inl ⟨by rfl, ?_⟩) (by assumption) ?_
      rotate_left
      · intro w hSw; (try dsimp only at hSw); go_simp; first | done | (with_reducible rfl)
      simp only [Act.put, List.setIfInBounds_toArray, List.set_cons_zero, List.set_cons_succ]
      refine tkq 1 (some 145) (v := ?_) rfl (Or.inl ⟨by rfl, ?_⟩) (by assumption) ?_
      rotate_left
      · intro w hSw; (try dsimp only at hSw); go_simp; first | done | (with_reducible rfl)
      simp only [Act.put, List.setIfInBounds_toArray, List.set_cons_zero, List.set_cons_succ]
      refine tkq 2 (some 146) (v := ?_) rfl (Or.inl ⟨by rfl, ?_⟩) (by assumption) ?_
      rotate_left
      · intro w hSw; (try dsimp only at hSw); go_simp; first | done | (with_reducible rfl)
      simp only [Act.put, List.setIfInBounds_toArray, List.set_cons_zero, List.set_cons_succ]
      refine tkq 3 (some 147) (v := ?_) rfl (Or.inl ⟨by rfl, ?_⟩) (by assumption) ?_
      rotate_left
      · intro w hSw; (try dsimp only at hSw); go_simp; first | done | (with_reducible rfl)
      simp only [Act.put, List.setIfInBounds_toArray, List.set_cons_zero, List.set_cons_succ]
      refine tkq 4 (some 148) (v := ?_) rfl (Or.inl ⟨by rfl, ?_⟩) (by assumption) ?_
      rotate_left
      · intro w hSw; (try dsimp only at hSw); go_simp; first | done | (with_reducible rfl)
      simp only [Act.put, List.setIfInBounds_toArray, List.set_cons_zero, List.set_cons_succ]
      refine tkq 5 (some 149) (v := ?_) rfl (Or.inl ⟨by rfl, ?_⟩) (by assumption) ?_
      rotate_left
      · intro w hSw; (try dsimp only at hSw); go_simp; first | done | (with_reducible rfl)
      simp only [Act.put, List.setIfInBounds_toArray, List.set_cons_zero, List.set_cons_succ]
      refine tkq 6 (some 150) (v := ?_) rfl (Or.inl ⟨by rfl, ?_⟩) (by assumption) ?_
      rotate_left
      · intro w hSw; (try dsimp only at hSw); go_simp; first | done | (with_reducible rfl)
      simp only [Act.put, List.setIfInBounds_toArray, List.set_cons_zero, List.set_cons_succ]
      refine tkq 7 (some 151) (v := ?_) rfl (Or.inl ⟨by rfl, ?_⟩) (by assumption) ?_
      rotate_left
      · intro w hSw; (try dsimp only at hSw); go_simp; first | done | (with_reducible rfl)
      simp only [Act.put, List.setIfInBounds_toArray, List.set_cons_zero, List.set_cons_succ]
      refine tkq 8 (some 152) (v := ?_) rfl (Or.inl ⟨by rfl, ?_⟩) (by assumption) ?_
      rotate_left
      · intro w hSw; (try dsimp only at hSw); go_simp; first | done | (with_reducible rfl)
      simp only [Act.put, List.setIfInBounds_toArray, List.set_cons_zero, List.set_cons_succ]
      refine wpAnyH_ready (rs := [9]) (by kernel_rfl) (by simp) ?_
      refine AllReadyH.cons rfl (fun K hK => ?_) AllReadyH.nil
      go_simp
      go_wp2_with (go_at_call 45; (with_reducible refine (HADD.out _ HKY.out HKK.out).mono ?_); rintro e w2 ⟨rfl, hA2⟩; have HA2 := Lib.hid hA2; clear hA2)
      refine hK.out _ _ (⟨HA2.out.g2, HA2.out.g3, HA2.out.g4⟩) (fun hHeld => ?_)
      clear hK K
      refine tkq 10 (some 6) (v := ?_) rfl (Or.inl ⟨by rfl, ?_⟩) (by assumption) ?_
      rotate_left
      · intro w hSw; (try dsimp only at hSw); go_simp; first | done | (with_reducible rfl)
      simp only [Act.put, List.setIfInBounds_toArray, List.set_cons_zero, List.set_cons_succ]
      refine wpAnyH_done (by kernel_rfl) ?_ _
      have HM := Lib.hid (HMID.out _ HA2.out)
      go_wp2
      go_ret
      exact HM.out.fin _
theorem rq_on (h : Qr w base q O X) (ho : X.ok) (hb : base ≤ w.heap.size) (hlm : X.lim ≤ 1099511627776) (m : FN) (d r : Sl) (bs : List Int) (hm : m.wf) (hd : RdP w (fun b => ¬ O b) d.A d.n bs) (hdc : d.n ≤ d.c) (hdn : d.n < 9223372036854775808) :
    Calls Tryz.prog 29 #[.pointer (some ⟨q, 0, none⟩), frV m d r] w (RqPost (.int .i64 (onE X m bs.length)) base q O (onX X m bs) w) := by
  have o0 := hm.o0
  have o1 := hm.o1
  have f0 := hm.f0
  have c0 := hm.c0
  by_cases hs : m.s = X.id
  · by_cases h8 : m.k = 8
    · have e1 : onE X m bs.length = onSE X m.o.toNat bs.length m.fin := by unfold onE; rw [if_pos hs, if_pos h8]
      have e2 : onX X m bs = onSX X m.o.toNat bs m.fin := by unfold onX; rw [if_pos hs, if_pos h8]
      rw [e1, e2]
      exact rq_on_stream h ho hb hlm m d.A d.n d.c r bs hs h8 m.o.toNat (by omega) (by omega) hd hdc hdn
    · by_cases h4 : m.k = 4
      · have e1 : onE X m bs.length = onRE X m.f.toNat := by unfold onE; rw [if_pos hs, if_neg h8, if_pos h4]
        have e2 : onX X m bs = onRX X m.f.toNat m.c.toNat := by unfold onX; rw [if_pos hs, if_neg h8, if_pos h4]
        rw [e1, e2]
        exact rq_on_reset h ho m d r hs h4 m.f.toNat m.c.toNat (by omega) (by omega)
      · have e1 : onE X m bs.length = 1 := by unfold onE; rw [if_pos hs, if_neg h8, if_neg h4]
        have e2 : onX X m bs = X := by unfold onX; rw [if_pos hs, if_neg h8, if_neg h4]
        rw [e1, e2]
        exact rq_on_arg h m d r (.inr ⟨h8, h4⟩)
  · have e1 : onE X m bs.length = 1 := by unfold onE; rw [if_neg hs]
    have e2 : onX X m bs = X := by unfold onX; rw [if_neg hs]
    rw [e1, e2]
    exact rq_on_arg h m d r (.inl hs)
end
end Go.Proofs.YtphpdaldplkgmaaGreat
