/-
  The document's receiver: On.
-/
import Derived.Test.YtphpdaldplkgmaaGreatMq19
import Derived.Test.YtphpdaldplkgmaaGreatKm
namespace Go.Proofs.YtphpdaldplkgmaaGreat
set_option linter.unusedVariables false
set_option linter.unusedSimpArgs false
open Go.RowKit
/-- What On meets: the receiver, the frame in a block g of its own. -/
structure RqF (w : World) (base q g : Nat) (O : Nat → Prop) (X : QS) (m : FN) (d : Sl) (W : World) : Prop where
  q_ : Qr W base q O X
  b : Below w.heap.size w W
  g0 : W.cell? ⟨g, 0, none⟩ = some (.int .i64 m.k)
  g1 : W.cell? ⟨g, 1, none⟩ = some (.int .u64 m.s)
  g2 : W.cell? ⟨g, 2, none⟩ = some (.int .u64 m.o)
  g3 : W.cell? ⟨g, 3, none⟩ = some (.slice d.A d.n d.c)
  g4 : W.cell? ⟨g, 4, none⟩ = some (.bool m.fin)
  g6 : W.cell? ⟨g, 6, none⟩ = some (.int .u64 m.c)
  g7 : W.cell? ⟨g, 7, none⟩ = some (.int .u64 m.f)
section
variable {w w' w1 W : World} {base p q g : Nat} {O O2 : Nat → Prop} {X X' : QS} {m : FN} {d : Sl}
theorem RqF.drewN (h : RqF w base q g O X m d W) (n : Nat) : RqF w base q g O X m d (W.drewN n) := ⟨h.q_.drewN n, belowN h.b n, h.g0, h.g1, h.g2, h.g3, h.g4, h.g6, h.g7⟩
/-- A refusal, or nothing to do. -/
theorem RqF.no (h : RqF w base q g O X m d W) (hw : Qr w base q O X) (r : Value) : RqPost r base q O X w (.returned r) W := hw.same h.b r
set_option maxHeartbeats 16000000 in
set_option maxRecDepth 100000 in
theorem rq_on_arg (h : Qr w base q O X) (m : FN) (d r : Sl) (hk : m.s ≠ X.id ∨ (m.k ≠ 8 ∧ m.k ≠ 4)) : Calls Tryz.prog 29 #[.pointer (some ⟨q, 0, none⟩), frV m d r] w (RqPost (.int .i64 1) base q O X w) := by
  obtain ⟨L, W1, hfv, hL, hW1, hB, hlt, hA, d0, d1, d2, d3, d4, d5, d6, d7⟩ := fr_box8 w m d r
  have HK : Hid (RqF w base q w.heap.size O X m d W1) := Lib.hid ⟨h.below hB, hB, d0, d1, d2, d3, d4, d6, d7⟩
  have HW := Lib.hid h
  have HNO := Lib.hid (fun W (k : RqF w base q w.heap.size O X m d W) r => k.no h r)
  have hqg : q ≠ w.heap.size := by have := (h.lt q h.own).2; omega
  rw [hfv]
  obtain ⟨g, hg⟩ : ∃ g, w.heap.size = g := ⟨_, rfl⟩
  rw [hg] at HK HNO hqg
  clear d0 d1 d2 d3 d4 d5 d6 d7 hA hlt hfv
  have zk := HK.out.g0
  have zs := HK.out.g1
  have zi := HK.out.q_.c0
  clear h HW hL
  by_cases hs : m.s = X.id
  · obtain ⟨hk8, hk4⟩ := hk.resolve_left (fun e => e hs)
    rw [hs] at zs
    have hk8z : (m.k != 8) = true := by simpa using hk8
    have hk4z : (m.k != 4) = true := by simpa using hk4
    clear hk hs hk8 hk4
    generalize m.k = kk at zk hk8z hk4z
    go_enter Tryz.func29, Tryz.ntmps29
    go_wp2_with fail
    (try rw [hg])
    (try rw [hW1])
    go_quiet (fail)
    go_wp2
    go_ret
    exact HNO.out _ (HK.out.drewN _) _
  · have hsz : (m.s != (X.id : Int)) = true := by simpa using hs
    clear hk hs
    generalize m.s = ss at zs hsz
    go_enter Tryz.func29, Tryz.ntmps29
    go_wp2_with fail
    (try rw [hg])
    (try rw [hW1])
    go_quiet (fail)
    go_wp2
    go_ret
    exact HNO.out _ (HK.out.drewN _) _
set_option maxHeartbeats 16000000 in
set_option maxRecDepth 100000 in
theorem rq_on_reset (h : Qr w base q O X) (ho : X.ok) (m : FN) (d r : Sl) (hs : m.s = X.id) (hk : m.k = 4) (F cd : Nat) (hF : m.f = F) (hc : m.c = cd) : Calls Tryz.prog 29 #[.pointer (some ⟨q, 0, none⟩), frV m d r] w (RqPost (.int .i64 (onRE X F)) base q O (onRX X F cd) w) := by
  obtain ⟨L, W1, hfv, hL, hW1, hB, hlt, hA, d0, d1, d2, d3, d4, d5, d6, d7⟩ := fr_box8 w m d r
  have HK : Hid (RqF w base q w.heap.size O X m d W1) := Lib.hid ⟨h.below hB, hB, d0, d1, d2, d3, d4, d6, d7⟩
  have HW := Lib.hid h
  have HNO := Lib.hid (fun W (k : RqF w base q w.heap.size O X m d W) r => k.no h r)
  have hqg : q ≠ w.heap.size := by have := (h.lt q h.own).2; omega
  rw [hfv]
  obtain ⟨g, hg⟩ : ∃ g, w.heap.size = g := ⟨_, rfl⟩
  rw [hg] at HK HNO hqg
  clear d0 d1 d2 d3 d4 d5 d6 d7 hA hlt hfv
  have HQ4 : Hid (∀ W, RqF w base q g O X m d W → W.cell? ⟨g, 0, none⟩ = some (.int .i64 4) ∧ W.cell? ⟨g, 1, none⟩ = some (.int .u64 X.id) ∧ W.cell? ⟨g, 7, none⟩ = some (.int .u64 F) ∧ W.cell? ⟨g, 6, none⟩ = some (.int .u64 cd)) := Lib.hid (fun W k => ⟨by rw [← hk]; exact k.g0, by rw [← hs]; exact k.g1, by rw [← hF]; exact k.g7, by rw [← hc]; exact k.g6⟩)
  have HST := Lib.hid ho.st
  rw [onRE_eq]
  have HOK : Hid (rsB X F = true ∨ X.lim < F → onRX X F cd = X) := Lib.hid (fun e => by
    unfold onRX
    rw [onRE_eq, if_neg]
    rintro ⟨e1, _⟩
    by_cases h1 : X.lim < F
    · rw [if_pos h1] at e1; cases e1
    · rw [if_neg h1, if_pos (e.resolve_right h1)] at e1; cases e1)
  have HOK2 : Hid (¬ X.lim < F → rsB X F = false → onRX X F cd = if X.st ≤ 2 then { X with st := 5, code := cd, fin := F, due := false } else X) := Lib.hid (fun e1 e2 => by
    unfold onRX
    rw [onRE_eq, if_neg e1, e2]
    by_cases h2 : X.st ≤ 2
    · rw [if_pos ⟨rfl, h2⟩, if_pos h2]
    · rw [if_neg (fun h => h2 h.2), if_neg h2])
  clear h ho hL hk hs hF hc
  have zi := HK.out.q_.c0
  have zl := HK.out.q_.c2
  obtain ⟨zk, zs, zf, zc⟩ := HQ4.out _ HK.out
  by_cases hc1 : X.lim < F
  · rw [if_pos hc1, HOK.out (.inr hc1)]
    have hz : (X.lim : Int) < (F : Int) := by omega
    clear HOK HOK2 hc1
    go_enter Tryz.func29, Tryz.ntmps29
    go_wp2_with fail
    (try rw [hg])
    (try rw [hW1])
    go_quiet (fail)
    have hK := HK.out.drewN nq
    obtain ⟨W3, hWn⟩ : ∃ W, World.drewN W1 nq = W := ⟨_, rfl⟩
    rw [hWn] at hK ⊢
    clear hWn
    have HK3 := Lib.hid hK
    clear hK
    obtain ⟨yk, ys, yf, yc⟩ := HQ4.out _ HK3.out
    have yl := HK3.out.q_.c2
    clear zk zs zf zc zi zl
    go_wp2_with fail
    go_quiet (fail)
    go_wp2
    go_ret
    exact HNO.out _ (HK3.out.drewN _) _
  have hz : ¬ (X.lim : Int) < (F : Int) := by omega
  rw [if_neg hc1]
  by_cases h5 : 5 ≤ X.st
  · have h5z : (5 : Int) ≤ (X.st : Int) := by omega
    have h5y : ¬ (X.st : Int) < 5 := by omega
    have HD1 : Hid (decide ((5 : Int) ≤ (X.st : Int)) = true) := Lib.hid (by simpa using h5z)
    have HD2 : Hid (decide ((X.st : Int) < 5) = false) := Lib.hid (by simpa using h5z)
    by_cases hfe : F = X.fin
    · have hfz : ((F : Int) != (X.fin : Int)) = false := by simp [hfe]
      have hR : rsB X F = false := by unfold rsB sizedB sizedN highQ; simp [if_pos h5, hfe]
      clear hfe
      rw [if_neg (by rw [hR]; simp)]
      have hOK := HOK2.out hc1 hR
      clear HOK HOK2 hc1 hR
      by_cases h2 : X.st ≤ 2
      · rw [if_pos h2] at hOK
        rw [hOK]
        have h2z : (X.st : Int) ≤ 2 := by omega
        clear hOK
        exfalso
        omega
      · rw [if_neg h2] at hOK
        rw [hOK]
        have h2z : ¬ (X.st : Int) ≤ 2 := by omega
        clear hOK h2
        go_enter Tryz.func29, Tryz.ntmps29
        go_wp2_with fail
        (try rw [hg])
        (try rw [hW1])
        go_quiet (fail)
        have hK := HK.out.drewN nq
        obtain ⟨W3, hWn⟩ : ∃ W, World.drewN W1 nq = W := ⟨_, rfl⟩
        rw [hWn] at hK ⊢
        clear hWn
        have HK3 := Lib.hid hK
        clear hK
        obtain ⟨yk, ys, yf, yc⟩ := HQ4.out _ HK3.out
        have yl := HK3.out.q_.c2
        clear zk zs zf zc zi zl
        go_wp2_with fail
        go_quiet (fail)
        have hK := HK3.out.drewN nq
        obtain ⟨W4, hWn⟩ : ∃ W, World.drewN W3 nq = W := ⟨_, rfl⟩
        rw [hWn] at hK ⊢
        clear hWn
        have HK4 := Lib.hid hK
        clear hK
        obtain ⟨xk, xs, xf, xc⟩ := HQ4.out _ HK4.out
        have x5 := HK4.out.q_.c5
        have x4 := HK4.out.q_.c4
        have x7 := HK4.out.q_.c7
        have x8 := HK4.out.q_.c8
        have x9 := HK4.out.q_.c9
        clear yk ys yf yc yl
        go_wp2_with fail
        have q1 := HD1.out
        have q2 := HD2.out
        go_quiet (fail)
        have hK := HK4.out.drewN nq
        obtain ⟨W5, hWn⟩ : ∃ W, World.drewN W4 nq = W := ⟨_, rfl⟩
        rw [hWn] at hK ⊢
        clear hWn
        have HK5 := Lib.hid hK
        clear hK
        have v5 := HK5.out.q_.c5
        clear xk xs xf xc x5 x4 x7 x8 x9
        go_wp2
        go_ret
        exact HNO.out _ HK5.out _
    · have hfz : ((F : Int) != (X.fin : Int)) = true := by simp; omega
      have hR : rsB X F = true := by unfold rsB sizedB sizedN highQ; simp [if_pos h5, hfe]
      clear hfe h5
      rw [if_pos hR, HOK.out (.inl hR)]
      clear HOK HOK2 hc1 hR
      go_enter Tryz.func29, Tryz.ntmps29
      go_wp2_with fail
      (try rw [hg])
      (try rw [hW1])
      go_quiet (fail)
      have hK := HK.out.drewN nq
      obtain ⟨W3, hWn⟩ : ∃ W, World.drewN W1 nq = W := ⟨_, rfl⟩
      rw [hWn] at hK ⊢
      clear hWn
      have HK3 := Lib.hid hK
      clear hK
      obtain ⟨yk, ys, yf, yc⟩ := HQ4.out _ HK3.out
      have yl := HK3.out.q_.c2
      clear zk zs zf zc zi zl
      go_wp2_with fail
      go_quiet (fail)
      have hK := HK3.out.drewN nq
      obtain ⟨W4, hWn⟩ : ∃ W, World.drewN W3 nq = W := ⟨_, rfl⟩
      rw [hWn] at hK ⊢
      clear hWn
      have HK4 := Lib.hid hK
      clear hK
      obtain ⟨xk, xs, xf, xc⟩ := HQ4.out _ HK4.out
      have x5 := HK4.out.q_.c5
      have x4 := HK4.out.q_.c4
      have x7 := HK4.out.q_.c7
      have x8 := HK4.out.q_.c8
      have x9 := HK4.out.q_.c9
      clear yk ys yf yc yl
      go_wp2_with fail
      have q1 := HD1.out
      have q2 := HD2.out
      go_quiet (fail)
      go_wp2
      go_ret
      exact HNO.out _ (HK4.out.drewN _) _
  · have h5z : ¬ (5 : Int) ≤ (X.st : Int) := by omega
    have h5y : (X.st : Int) < 5 := by omega
    have HD1 : Hid (decide ((5 : Int) ≤ (X.st : Int)) = false) := Lib.hid (by simpa using h5y)
    have HD2 : Hid (decide ((X.st : Int) < 5) = true) := Lib.hid (by simpa using h5y)
    by_cases hfh : F < X.b.hi
    · have hfhz : (F : Int) < (X.b.hi : Int) := by omega
      have HD3 : Hid (decide ((F : Int) < (X.b.hi : Int)) = true) := Lib.hid (by simpa using hfhz)
      have hR : rsB X F = true := by unfold rsB sizedB sizedN highQ; simp [if_neg h5, hfh]
      cases hen : X.b.en
      · clear hfh h5
        skip -- hen
        rw [if_pos hR, HOK.out (.inl hR)]
        clear HOK HOK2 hc1 hR
        go_enter Tryz.func29, Tryz.ntmps29
        go_wp2_with fail
        (try rw [hg])
        (try rw [hW1])
        go_quiet (fail)
        have hK := HK.out.drewN nq
        obtain ⟨W3, hWn⟩ : ∃ W, World.drewN W1 nq = W := ⟨_, rfl⟩
        rw [hWn] at hK ⊢
        clear hWn
        have HK3 := Lib.hid hK
        clear hK
        obtain ⟨yk, ys, yf, yc⟩ := HQ4.out _ HK3.out
        have yl := HK3.out.q_.c2
        clear zk zs zf zc zi zl
        go_wp2_with fail
        go_quiet (fail)
        have hK := HK3.out.drewN nq
        obtain ⟨W4, hWn⟩ : ∃ W, World.drewN W3 nq = W := ⟨_, rfl⟩
        rw [hWn] at hK ⊢
        clear hWn
        have HK4 := Lib.hid hK
        clear hK
        obtain ⟨xk, xs, xf, xc⟩ := HQ4.out _ HK4.out
        have x5 := HK4.out.q_.c5
        have x4 := HK4.out.q_.c4
        have x7 := HK4.out.q_.c7
        have x8 := HK4.out.q_.c8
        have x9 := HK4.out.q_.c9
        rw [hen] at x9
        clear yk ys yf yc yl
        go_wp2_with fail
        have q1 := HD1.out
        have q2 := HD2.out
        have q3 := HD3.out
        go_quiet (fail)
        go_wp2
        go_ret
        exact HNO.out _ (HK4.out.drewN _) _
      · by_cases hfe : F = X.b.fi
        · have hfz : ((F : Int) != (X.b.fi : Int)) = false := by simp [hfe]
          clear hfe hfh h5
          skip -- hen
          rw [if_pos hR, HOK.out (.inl hR)]
          clear HOK HOK2 hc1 hR
          go_enter Tryz.func29, Tryz.ntmps29
          go_wp2_with fail
          (try rw [hg])
          (try rw [hW1])
          go_quiet (fail)
          have hK := HK.out.drewN nq
          obtain ⟨W3, hWn⟩ : ∃ W, World.drewN W1 nq = W := ⟨_, rfl⟩
          rw [hWn] at hK ⊢
          clear hWn
          have HK3 := Lib.hid hK
          clear hK
          obtain ⟨yk, ys, yf, yc⟩ := HQ4.out _ HK3.out
          have yl := HK3.out.q_.c2
          clear zk zs zf zc zi zl
          go_wp2_with fail
          go_quiet (fail)
          have hK := HK3.out.drewN nq
          obtain ⟨W4, hWn⟩ : ∃ W, World.drewN W3 nq = W := ⟨_, rfl⟩
          rw [hWn] at hK ⊢
          clear hWn
          have HK4 := Lib.hid hK
          clear hK
          obtain ⟨xk, xs, xf, xc⟩ := HQ4.out _ HK4.out
          have x5 := HK4.out.q_.c5
          have x4 := HK4.out.q_.c4
          have x7 := HK4.out.q_.c7
          have x8 := HK4.out.q_.c8
          have x9 := HK4.out.q_.c9
          rw [hen] at x9
          clear yk ys yf yc yl
          go_wp2_with fail
          have q1 := HD1.out
          have q2 := HD2.out
          have q3 := HD3.out
          go_quiet (fail)
          go_wp2
          go_ret
          exact HNO.out _ (HK4.out.drewN _) _
        · have hfz : ((F : Int) != (X.b.fi : Int)) = true := by simp; omega
          clear hfe hfh h5
          skip -- hen
          rw [if_pos hR, HOK.out (.inl hR)]
          clear HOK HOK2 hc1 hR
          go_enter Tryz.func29, Tryz.ntmps29
          go_wp2_with fail
          (try rw [hg])
          (try rw [hW1])
          go_quiet (fail)
          have hK := HK.out.drewN nq
          obtain ⟨W3, hWn⟩ : ∃ W, World.drewN W1 nq = W := ⟨_, rfl⟩
          rw [hWn] at hK ⊢
          clear hWn
          have HK3 := Lib.hid hK
          clear hK
          obtain ⟨yk, ys, yf, yc⟩ := HQ4.out _ HK3.out
          have yl := HK3.out.q_.c2
          clear zk zs zf zc zi zl
          go_wp2_with fail
          go_quiet (fail)
          have hK := HK3.out.drewN nq
          obtain ⟨W4, hWn⟩ : ∃ W, World.drewN W3 nq = W := ⟨_, rfl⟩
          rw [hWn] at hK ⊢
          clear hWn
          have HK4 := Lib.hid hK
          clear hK
          obtain ⟨xk, xs, xf, xc⟩ := HQ4.out _ HK4.out
          have x5 := HK4.out.q_.c5
          have x4 := HK4.out.q_.c4
          have x7 := HK4.out.q_.c7
          have x8 := HK4.out.q_.c8
          have x9 := HK4.out.q_.c9
          rw [hen] at x9
          clear yk ys yf yc yl
          go_wp2_with fail
          have q1 := HD1.out
          have q2 := HD2.out
          have q3 := HD3.out
          go_quiet (fail)
          go_wp2
          go_ret
          exact HNO.out _ (HK4.out.drewN _) _
    · have hfhz : ¬ (F : Int) < (X.b.hi : Int) := by omega
      have HD3 : Hid (decide ((F : Int) < (X.b.hi : Int)) = false) := Lib.hid (by simpa using hfhz)
      cases hen : X.b.en
      · have hR : rsB X F = false := by unfold rsB sizedB sizedN highQ; simp [if_neg h5, hen]; omega
        clear hfh h5
        skip -- hen
        rw [if_neg (by rw [hR]; simp)]
        have hOK := HOK2.out hc1 hR
        clear HOK HOK2 hc1 hR
        by_cases h2 : X.st ≤ 2
        · rw [if_pos h2] at hOK
          rw [hOK]
          have h2z : (X.st : Int) ≤ 2 := by omega
          clear hOK
          go_enter Tryz.func29, Tryz.ntmps29
          go_wp2_with fail
          (try rw [hg])
          (try rw [hW1])
          go_quiet (fail)
          have hK := HK.out.drewN nq
          obtain ⟨W3, hWn⟩ : ∃ W, World.drewN W1 nq = W := ⟨_, rfl⟩
          rw [hWn] at hK ⊢
          clear hWn
          have HK3 := Lib.hid hK
          clear hK
          obtain ⟨yk, ys, yf, yc⟩ := HQ4.out _ HK3.out
          have yl := HK3.out.q_.c2
          clear zk zs zf zc zi zl
          go_wp2_with fail
          go_quiet (fail)
          have hK := HK3.out.drewN nq
          obtain ⟨W4, hWn⟩ : ∃ W, World.drewN W3 nq = W := ⟨_, rfl⟩
          rw [hWn] at hK ⊢
          clear hWn
          have HK4 := Lib.hid hK
          clear hK
          obtain ⟨xk, xs, xf, xc⟩ := HQ4.out _ HK4.out
          have x5 := HK4.out.q_.c5
          have x4 := HK4.out.q_.c4
          have x7 := HK4.out.q_.c7
          have x8 := HK4.out.q_.c8
          have x9 := HK4.out.q_.c9
          rw [hen] at x9
          clear yk ys yf yc yl
          go_wp2_with fail
          have q1 := HD1.out
          have q2 := HD2.out
          have q3 := HD3.out
          go_quiet (fail)
          have hK := HK4.out.drewN nq
          obtain ⟨W5, hWn⟩ : ∃ W, World.drewN W4 nq = W := ⟨_, rfl⟩
          rw [hWn] at hK ⊢
          clear hWn
          have HK5 := Lib.hid hK
          clear hK
          have v5 := HK5.out.q_.c5
          clear xk xs xf xc x5 x4 x7 x8 x9
          go_wp2_with fail
          obtain ⟨Y, hY⟩ : ∃ Y, W5.drew = Y := ⟨_, rfl⟩
          have hK6 := HK5.out.drewN 1
          change RqF w base q g O X m d W5.drew at hK6
          rw [hY] at hK6
          have HK6 := Lib.hid hK6
          obtain ⟨uk, us, uf, uc⟩ := HQ4.out _ hK6
          have u5 := hK6.q_.c5
          have u4 := hK6.q_.c4
          have u3 := hK6.q_.c3
          have u32 := hK6.q_.c32
          have e5 := hK6.q_.fz 5
          have e4 := hK6.q_.fz 4
          have e3 := hK6.q_.fz 3
          have e32 := hK6.q_.fz 32
          have HG : Hid (∀ (W : World) (i : Nat) (u : Value), W.cell? ⟨g, 6, none⟩ = some (.int .u64 cd) ∧ W.cell? ⟨g, 7, none⟩ = some (.int .u64 F) → (W.setCell ⟨q, i, none⟩ u).cell? ⟨g, 6, none⟩ = some (.int .u64 cd) ∧ (W.setCell ⟨q, i, none⟩ u).cell? ⟨g, 7, none⟩ = some (.int .u64 F)) := Lib.hid (fun W i u hh => by
            have hc : ∀ o, (W.setCell ⟨q, i, none⟩ u).cell? ⟨g, o, none⟩ = W.cell? ⟨g, o, none⟩ := fun o => World.cell?_of_block (Below.heap_setCell W ⟨q, i, none⟩ u g (fun e => hqg e.symm))
            rw [hc, hc]; exact hh)
          have HE : Hid (∀ n, RqPost (.int .i64 0) base q O { X with st := 5, code := cd, fin := F, due := false } w (.returned (.int .i64 0)) (((((Y.setCell ⟨q, 5, none⟩ (.int .i64 5)).setCell ⟨q, 4, none⟩ (.int .u64 F)).setCell ⟨q, 3, none⟩ (.int .u64 cd)).setCell ⟨q, 32, none⟩ (.bool false)).drewN n)) := Lib.hid (fun n => by
            have h6 := HK6.out
            have hq := ((((h6.q_.set (X' := { X with st := 5 }) 5 (.int .i64 5) (fun _ _ => rfl) rfl).set (X' := { X with st := 5, fin := F }) 4 (.int .u64 F) (fun _ _ => rfl) rfl).set (X' := { X with st := 5, code := cd, fin := F }) 3 (.int .u64 cd) (fun _ _ => rfl) rfl).set (X' := { X with st := 5, code := cd, fin := F, due := false }) 32 (.bool false) (fun _ _ => rfl) rfl).drewN n
            exact RqPost.after h6.b (h6.q_.top hq ((((((Kept.refl _ _).setAt 5 _).setAt 4 _).setAt 3 _).setAt 32 _).drewN n) _))
          clear hK6 v5
          refine wp_region_held_drew (S := (fun W => W.cell? ⟨g, 6, none⟩ = some (.int .u64 cd) ∧ W.cell? ⟨g, 7, none⟩ = some (.int .u64 F))) (by kernel_rfl) (by rw [hY]; exact ⟨uc, uf⟩) (fun hHeld => ?_)
          rw [hY] at hHeld ⊢
          clear hY
          refine tkq 0 (some 87) (v := ?_) rfl (Or.inl ⟨by rfl, ?_⟩) (by assumption) ?_
          rotate_left
          · intro w hSw; (try dsimp only at hSw); go_simp; first | done | (with_reducible rfl)
          simp only [Act.put, List.setIfInBounds_toArray, List.set_cons_zero, List.set_cons_succ]
          refine tkq 1 (some 88) (v := ?_) rfl (Or.inl ⟨by rfl, ?_⟩) (by assumption) ?_
          rotate_left
          · intro w hSw; (try dsimp only at hSw); go_simp; first | done | (with_reducible rfl)
          simp only [Act.put, List.setIfInBounds_toArray, List.set_cons_zero, List.set_cons_succ]
          refine tkq 2 (some 89) (v := ?_) rfl (Or.inl ⟨by rfl, ?_⟩) (by assumption) ?_
          rotate_left
          · intro w hSw; (try dsimp only at hSw); go_simp; first | done | (with_reducible rfl)
          simp only [Act.put, List.setIfInBounds_toArray, List.set_cons_zero, List.set_cons_succ]
          refine tkq 3 (some 90) (v := ?_) rfl (Or.inl ⟨by rfl, ?_⟩) (by assumption) ?_
          rotate_left
          · intro w hSw; (try dsimp only at hSw); go_simp; first | done | (with_reducible rfl)
          simp only [Act.put, List.setIfInBounds_toArray, List.set_cons_zero, List.set_cons_succ]
          refine tkq 4 (some 91) (v := ?_) rfl (Or.inl ⟨by rfl, ?_⟩) (by assumption) ?_
          rotate_left
          · intro w hSw; (try dsimp only at hSw); go_simp; first | done | (with_reducible rfl)
          simp only [Act.put, List.setIfInBounds_toArray, List.set_cons_zero, List.set_cons_succ]
          refine tkq 5 (some 92) (v := ?_) rfl (Or.inl ⟨by rfl, ?_⟩) (by assumption) ?_
          rotate_left
          · intro w hSw; (try dsimp only at hSw); go_simp; first | done | (with_reducible rfl)
          simp only [Act.put, List.setIfInBounds_toArray, List.set_cons_zero, List.set_cons_succ]
          refine tkq 6 (some 93) (v := ?_) rfl (Or.inl ⟨by rfl, ?_⟩) (by assumption) ?_
          rotate_left
          · intro w hSw; (try dsimp only at hSw); go_simp; first | done | (with_reducible rfl)
          simp only [Act.put, List.setIfInBounds_toArray, List.set_cons_zero, List.set_cons_succ]
          refine tkq 7 (some 94) (v := ?_) rfl (Or.inl ⟨by rfl, ?_⟩) (by assumption) ?_
          rotate_left
          · intro w hSw; (try dsimp only at hSw); go_simp; first | done | (with_reducible rfl)
          simp only [Act.put, List.setIfInBounds_toArray, List.set_cons_zero, List.set_cons_succ]
          refine tkq 8 (some 95) (v := ?_) rfl (Or.inl ⟨by rfl, ?_⟩) (by assumption) ?_
          rotate_left
          · intro w hSw; (try dsimp only at hSw); go_simp; first | done | (with_reducible rfl)
          simp only [Act.put, List.setIfInBounds_toArray, List.set_cons_zero, List.set_cons_succ]
          refine tkq 9 (some 96) (v := ?_) rfl (Or.inl ⟨by rfl, ?_⟩) (by assumption) ?_
          rotate_left
          · intro w hSw; (try dsimp only at hSw); go_simp; first | done | (with_reducible rfl)
          simp only [Act.put, List.setIfInBounds_toArray, List.set_cons_zero, List.set_cons_succ]
          refine wpAnyH_ready (rs := [10]) (by kernel_rfl) (by simp) ?_
          refine AllReadyH.cons rfl (fun K hK => ?_) AllReadyH.nil
          go_simp
          go_wp2_with (fail)
          refine hK.out _ _ (HG.out _ _ _ hHeld) (fun hHeld => ?_)
          clear hK K
          refine tkq 11 (some 97) (v := ?_) rfl (Or.inl ⟨by rfl, ?_⟩) (by assumption) ?_
          rotate_left
          · intro w hSw; (try dsimp only at hSw); go_simp; first | done | (with_reducible rfl)
          simp only [Act.put, List.setIfInBounds_toArray, List.set_cons_zero, List.set_cons_succ]
          refine tkq 12 (some 98) (v := ?_) rfl (Or.inl ⟨by rfl, ?_⟩) (by assumption) ?_
          rotate_left
          · intro w hSw; (try dsimp only at hSw); go_simp; first | done | (with_reducible rfl)
          simp only [Act.put, List.setIfInBounds_toArray, List.set_cons_zero, List.set_cons_succ]
          refine wpAnyH_ready (rs := [13]) (by kernel_rfl) (by simp) ?_
          refine AllReadyH.cons rfl (fun K hK => ?_) AllReadyH.nil
          go_simp
          go_wp2_with (fail)
          refine hK.out _ _ (HG.out _ _ _ hHeld) (fun hHeld => ?_)
          clear hK K
          refine tkq 14 (some 99) (v := ?_) rfl (Or.inl ⟨by rfl, ?_⟩) (by assumption) ?_
          rotate_left
          · intro w hSw; (try dsimp only at hSw); go_simp; first | done | (with_reducible rfl)
          simp only [Act.put, List.setIfInBounds_toArray, List.set_cons_zero, List.set_cons_succ]
          refine tkq 15 (some 100) (v := ?_) rfl (Or.inl ⟨by rfl, ?_⟩) (by assumption) ?_
          rotate_left
          · intro w hSw; (try dsimp only at hSw); go_simp; first | done | (with_reducible rfl)
          simp only [Act.put, List.setIfInBounds_toArray, List.set_cons_zero, List.set_cons_succ]
          refine wpAnyH_ready (rs := [16]) (by kernel_rfl) (by simp) ?_
          refine AllReadyH.cons rfl (fun K hK => ?_) AllReadyH.nil
          go_simp
          go_wp2_with (fail)
          refine hK.out _ _ (HG.out _ _ _ hHeld) (fun hHeld => ?_)
          clear hK K
          refine tkq 17 (some 101) (v := ?_) rfl (Or.inl ⟨by rfl, ?_⟩) (by assumption) ?_
          rotate_left
          · intro w hSw; (try dsimp only at hSw); go_simp; first | done | (with_reducible rfl)
          simp only [Act.put, List.setIfInBounds_toArray, List.set_cons_zero, List.set_cons_succ]
          refine tkq 18 (some 102) (v := ?_) rfl (Or.inl ⟨by rfl, ?_⟩) (by assumption) ?_
          rotate_left
          · intro w hSw; (try dsimp only at hSw); go_simp; first | done | (with_reducible rfl)
          simp only [Act.put, List.setIfInBounds_toArray, List.set_cons_zero, List.set_cons_succ]
          refine wpAnyH_ready (rs := [19]) (by kernel_rfl) (by simp) ?_
          refine AllReadyH.cons rfl (fun K hK => ?_) AllReadyH.nil
          go_simp
          go_wp2_with (fail)
          refine hK.out _ _ (HG.out _ _ _ hHeld) (fun hHeld => ?_)
          clear hK K
          refine wpAnyH_done (by kernel_rfl) ?_ _
          go_wp2
          go_ret
          first | exact HE.out 0 | exact HE.out 1
        · rw [if_neg h2] at hOK
          rw [hOK]
          have h2z : ¬ (X.st : Int) ≤ 2 := by omega
          clear hOK h2
          go_enter Tryz.func29, Tryz.ntmps29
          go_wp2_with fail
          (try rw [hg])
          (try rw [hW1])
          go_quiet (fail)
          have hK := HK.out.drewN nq
          obtain ⟨W3, hWn⟩ : ∃ W, World.drewN W1 nq = W := ⟨_, rfl⟩
          rw [hWn] at hK ⊢
          clear hWn
          have HK3 := Lib.hid hK
          clear hK
          obtain ⟨yk, ys, yf, yc⟩ := HQ4.out _ HK3.out
          have yl := HK3.out.q_.c2
          clear zk zs zf zc zi zl
          go_wp2_with fail
          go_quiet (fail)
          have hK := HK3.out.drewN nq
          obtain ⟨W4, hWn⟩ : ∃ W, World.drewN W3 nq = W := ⟨_, rfl⟩
          rw [hWn] at hK ⊢
          clear hWn
          have HK4 := Lib.hid hK
          clear hK
          obtain ⟨xk, xs, xf, xc⟩ := HQ4.out _ HK4.out
          have x5 := HK4.out.q_.c5
          have x4 := HK4.out.q_.c4
          have x7 := HK4.out.q_.c7
          have x8 := HK4.out.q_.c8
          have x9 := HK4.out.q_.c9
          rw [hen] at x9
          clear yk ys yf yc yl
          go_wp2_with fail
          have q1 := HD1.out
          have q2 := HD2.out
          have q3 := HD3.out
          go_quiet (fail)
          have hK := HK4.out.drewN nq
          obtain ⟨W5, hWn⟩ : ∃ W, World.drewN W4 nq = W := ⟨_, rfl⟩
          rw [hWn] at hK ⊢
          clear hWn
          have HK5 := Lib.hid hK
          clear hK
          have v5 := HK5.out.q_.c5
          clear xk xs xf xc x5 x4 x7 x8 x9
          go_wp2
          go_ret
          exact HNO.out _ HK5.out _
      · by_cases hfe : F = X.b.fi
        · have hfz : ((F : Int) != (X.b.fi : Int)) = false := by simp [hfe]
          have hR : rsB X F = false := by unfold rsB sizedB sizedN highQ; simp [if_neg h5, hen, hfe]; omega
          clear hfe hfh h5
          skip -- hen
          rw [if_neg (by rw [hR]; simp)]
          have hOK := HOK2.out hc1 hR
          clear HOK HOK2 hc1 hR
          by_cases h2 : X.st ≤ 2
          · rw [if_pos h2] at hOK
            rw [hOK]
            have h2z : (X.st : Int) ≤ 2 := by omega
            clear hOK
            go_enter Tryz.func29, Tryz.ntmps29
            go_wp2_with fail
            (try rw [hg])
            (try rw [hW1])
            go_quiet (fail)
            have hK := HK.out.drewN nq
            obtain ⟨W3, hWn⟩ : ∃ W, World.drewN W1 nq = W := ⟨_, rfl⟩
            rw [hWn] at hK ⊢
            clear hWn
            have HK3 := Lib.hid hK
            clear hK
            obtain ⟨yk, ys, yf, yc⟩ := HQ4.out _ HK3.out
            have yl := HK3.out.q_.c2
            clear zk zs zf zc zi zl
            go_wp2_with fail
            go_quiet (fail)
            have hK := HK3.out.drewN nq
            obtain ⟨W4, hWn⟩ : ∃ W, World.drewN W3 nq = W := ⟨_, rfl⟩
            rw [hWn] at hK ⊢
            clear hWn
            have HK4 := Lib.hid hK
            clear hK
            obtain ⟨xk, xs, xf, xc⟩ := HQ4.out _ HK4.out
            have x5 := HK4.out.q_.c5
            have x4 := HK4.out.q_.c4
            have x7 := HK4.out.q_.c7
            have x8 := HK4.out.q_.c8
            have x9 := HK4.out.q_.c9
            rw [hen] at x9
            clear yk ys yf yc yl
            go_wp2_with fail
            have q1 := HD1.out
            have q2 := HD2.out
            have q3 := HD3.out
            go_quiet (fail)
            have hK := HK4.out.drewN nq
            obtain ⟨W5, hWn⟩ : ∃ W, World.drewN W4 nq = W := ⟨_, rfl⟩
            rw [hWn] at hK ⊢
            clear hWn
            have HK5 := Lib.hid hK
            clear hK
            have v5 := HK5.out.q_.c5
            clear xk xs xf xc x5 x4 x7 x8 x9
            go_wp2_with fail
            obtain ⟨Y, hY⟩ : ∃ Y, W5.drew = Y := ⟨_, rfl⟩
            have hK6 := HK5.out.drewN 1
            change RqF w base q g O X m d W5.drew at hK6
            rw [hY] at hK6
            have HK6 := Lib.hid hK6
            obtain ⟨uk, us, uf, uc⟩ := HQ4.out _ hK6
            have u5 := hK6.q_.c5
            have u4 := hK6.q_.c4
            have u3 := hK6.q_.c3
            have u32 := hK6.q_.c32
            have e5 := hK6.q_.fz 5
            have e4 := hK6.q_.fz 4
            have e3 := hK6.q_.fz 3
            have e32 := hK6.q_.fz 32
            have HG : Hid (∀ (W : World) (i : Nat) (u : Value), W.cell? ⟨g, 6, none⟩ = some (.int .u64 cd) ∧ W.cell? ⟨g, 7, none⟩ = some (.int .u64 F) → (W.setCell ⟨q, i, none⟩ u).cell? ⟨g, 6, none⟩ = some (.int .u64 cd) ∧ (W.setCell ⟨q, i, none⟩ u).cell? ⟨g, 7, none⟩ = some (.int .u64 F)) := Lib.hid (fun W i u hh => by
              have hc : ∀ o, (W.setCell ⟨q, i, none⟩ u).cell? ⟨g, o, none⟩ = W.cell? ⟨g, o, none⟩ := fun o => World.cell?_of_block (Below.heap_setCell W ⟨q, i, none⟩ u g (fun e => hqg e.symm))
              rw [hc, hc]; exact hh)
            have HE : Hid (∀ n, RqPost (.int .i64 0) base q O { X with st := 5, code := cd, fin := F, due := false } w (.returned (.int .i64 0)) (((((Y.setCell ⟨q, 5, none⟩ (.int .i64 5)).setCell ⟨q, 4, none⟩ (.int .u64 F)).setCell ⟨q, 3, none⟩ (.int .u64 cd)).setCell ⟨q, 32, none⟩ (.bool false)).drewN n)) := Lib.hid (fun n => by
              have h6 := HK6.out
              have hq := ((((h6.q_.set (X' := { X with st := 5 }) 5 (.int .i64 5) (fun _ _ => rfl) rfl).set (X' := { X with st := 5, fin := F }) 4 (.int .u64 F) (fun _ _ => rfl) rfl).set (X' := { X with st := 5, code := cd, fin := F }) 3 (.int .u64 cd) (fun _ _ => rfl) rfl).set (X' := { X with st := 5, code := cd, fin := F, due := false }) 32 (.bool false) (fun _ _ => rfl) rfl).drewN n
              exact RqPost.after h6.b (h6.q_.top hq ((((((Kept.refl _ _).setAt 5 _).setAt 4 _).setAt 3 _).setAt 32 _).drewN n) _))
            clear hK6 v5
            refine wp_region_held_drew (S := (fun W => W.cell? ⟨g, 6, none⟩ = some (.int .u64 cd) ∧ W.cell? ⟨g, 7, none⟩ = some (.int .u64 F))) (by kernel_rfl) (by rw [hY]; exact ⟨uc, uf⟩) (fun hHeld => ?_)
            rw [hY] at hHeld ⊢
            clear hY
            refine tkq 0 (some 87) (v := ?_) rfl (Or.inl ⟨by rfl, ?_⟩) (by assumption) ?_
            rotate_left
            · intro w hSw; (try dsimp only at hSw); go_simp; first | done | (with_reducible rfl)
            simp only [Act.put, List.setIfInBounds_toArray, List.set_cons_zero, List.set_cons_succ]
            refine tkq 1 (some 88) (v := ?_) rfl (Or.inl ⟨by rfl, ?_⟩) (by assumption) ?_
            rotate_left
            · intro w hSw; (try dsimp only at hSw); go_simp; first | done | (with_reducible rfl)
            simp only [Act.put, List.setIfInBounds_toArray, List.set_cons_zero, List.set_cons_succ]
            refine tkq 2 (some 89) (v := ?_) rfl (Or.inl ⟨by rfl, ?_⟩) (by assumption) ?_
            rotate_left
            · intro w hSw; (try dsimp only at hSw); go_simp; first | done | (with_reducible rfl)
            simp only [Act.put, List.setIfInBounds_toArray, List.set_cons_zero, List.set_cons_succ]
            refine tkq 3 (some 90) (v := ?_) rfl (Or.inl ⟨by rfl, ?_⟩) (by assumption) ?_
            rotate_left
            · intro w hSw; (try dsimp only at hSw); go_simp; first | done | (with_reducible rfl)
            simp only [Act.put, List.setIfInBounds_toArray, List.set_cons_zero, List.set_cons_succ]
            refine tkq 4 (some 91) (v := ?_) rfl (Or.inl ⟨by rfl, ?_⟩) (by assumption) ?_
            rotate_left
            · intro w hSw; (try dsimp only at hSw); go_simp; first | done | (with_reducible rfl)
            simp only [Act.put, List.setIfInBounds_toArray, List.set_cons_zero, List.set_cons_succ]
            refine tkq 5 (some 92) (v := ?_) rfl (Or.inl ⟨by rfl, ?_⟩) (by assumption) ?_
            rotate_left
            · intro w hSw; (try dsimp only at hSw); go_simp; first | done | (with_reducible rfl)
            simp only [Act.put, List.setIfInBounds_toArray, List.set_cons_zero, List.set_cons_succ]
            refine tkq 6 (some 93) (v := ?_) rfl (Or.inl ⟨by rfl, ?_⟩) (by assumption) ?_
            rotate_left
            · intro w hSw; (try dsimp only at hSw); go_simp; first | done | (with_reducible rfl)
            simp only [Act.put, List.setIfInBounds_toArray, List.set_cons_zero, List.set_cons_succ]
            refine tkq 7 (some 94) (v := ?_) rfl (Or.inl ⟨by rfl, ?_⟩) (by assumption) ?_
            rotate_left
            · intro w hSw; (try dsimp only at hSw); go_simp; first | done | (with_reducible rfl)
            simp only [Act.put, List.setIfInBounds_toArray, List.set_cons_zero, List.set_cons_succ]
            refine tkq 8 (some 95) (v := ?_) rfl (Or.inl ⟨by rfl, ?_⟩) (by assumption) ?_
            rotate_left
            · intro w hSw; (try dsimp only at hSw); go_simp; first | done | (with_reducible rfl)
            simp only [Act.put, List.setIfInBounds_toArray, List.set_cons_zero, List.set_cons_succ]
            refine tkq 9 (some 96) (v := ?_) rfl (Or.inl ⟨by rfl, ?_⟩) (by assumption) ?_
            rotate_left
            · intro w hSw; (try dsimp only at hSw); go_simp; first | done | (with_reducible rfl)
            simp only [Act.put, List.setIfInBounds_toArray, List.set_cons_zero, List.set_cons_succ]
            refine wpAnyH_ready (rs := [10]) (by kernel_rfl) (by simp) ?_
            refine AllReadyH.cons rfl (fun K hK => ?_) AllReadyH.nil
            go_simp
            go_wp2_with (fail)
            refine hK.out _ _ (HG.out _ _ _ hHeld) (fun hHeld => ?_)
            clear hK K
            refine tkq 11 (some 97) (v := ?_) rfl (Or.inl ⟨by rfl, ?_⟩) (by assumption) ?_
            rotate_left
            · intro w hSw; (try dsimp only at hSw); go_simp; first | done | (with_reducible rfl)
            simp only [Act.put, List.setIfInBounds_toArray, List.set_cons_zero, List.set_cons_succ]
            refine tkq 12 (some 98) (v := ?_) rfl (Or.inl ⟨by rfl, ?_⟩) (by assumption) ?_
            rotate_left
            · intro w hSw; (try dsimp only at hSw); go_simp; first | done | (with_reducible rfl)
            simp only [Act.put, List.setIfInBounds_toArray, List.set_cons_zero, List.set_cons_succ]
            refine wpAnyH_ready (rs := [13]) (by kernel_rfl) (by simp) ?_
            refine AllReadyH.cons rfl (fun K hK => ?_) AllReadyH.nil
            go_simp
            go_wp2_with (fail)
            refine hK.out _ _ (HG.out _ _ _ hHeld) (fun hHeld => ?_)
            clear hK K
            refine tkq 14 (some 99) (v := ?_) rfl (Or.inl ⟨by rfl, ?_⟩) (by assumption) ?_
            rotate_left
            · intro w hSw; (try dsimp only at hSw); go_simp; first | done | (with_reducible rfl)
            simp only [Act.put, List.setIfInBounds_toArray, List.set_cons_zero, List.set_cons_succ]
            refine tkq 15 (some 100) (v := ?_) rfl (Or.inl ⟨by rfl, ?_⟩) (by assumption) ?_
            rotate_left
            · intro w hSw; (try dsimp only at hSw); go_simp; first | done | (with_reducible rfl)
            simp only [Act.put, List.setIfInBounds_toArray, List.set_cons_zero, List.set_cons_succ]
            refine wpAnyH_ready (rs := [16]) (by kernel_rfl) (by simp) ?_
            refine AllReadyH.cons rfl (fun K hK => ?_) AllReadyH.nil
            go_simp
            go_wp2_with (fail)
            refine hK.out _ _ (HG.out _ _ _ hHeld) (fun hHeld => ?_)
            clear hK K
            refine tkq 17 (some 101) (v := ?_) rfl (Or.inl ⟨by rfl, ?_⟩) (by assumption) ?_
            rotate_left
            · intro w hSw; (try dsimp only at hSw); go_simp; first | done | (with_reducible rfl)
            simp only [Act.put, List.setIfInBounds_toArray, List.set_cons_zero, List.set_cons_succ]
            refine tkq 18 (some 102) (v := ?_) rfl (Or.inl ⟨by rfl, ?_⟩) (by assumption) ?_
            rotate_left
            · intro w hSw; (try dsimp only at hSw); go_simp; first | done | (with_reducible rfl)
            simp only [Act.put, List.setIfInBounds_toArray, List.set_cons_zero, List.set_cons_succ]
            refine wpAnyH_ready (rs := [19]) (by kernel_rfl) (by simp) ?_
            refine AllReadyH.cons rfl (fun K hK => ?_) AllReadyH.nil
            go_simp
            go_wp2_with (fail)
            refine hK.out _ _ (HG.out _ _ _ hHeld) (fun hHeld => ?_)
            clear hK K
            refine wpAnyH_done (by kernel_rfl) ?_ _
            go_wp2
            go_ret
            first | exact HE.out 0 | exact HE.out 1
          · rw [if_neg h2] at hOK
            rw [hOK]
            have h2z : ¬ (X.st : Int) ≤ 2 := by omega
            clear hOK h2
            go_enter Tryz.func29, Tryz.ntmps29
            go_wp2_with fail
            (try rw [hg])
            (try rw [hW1])
            go_quiet (fail)
            have hK := HK.out.drewN nq
            obtain ⟨W3, hWn⟩ : ∃ W, World.drewN W1 nq = W := ⟨_, rfl⟩
            rw [hWn] at hK ⊢
            clear hWn
            have HK3 := Lib.hid hK
            clear hK
            obtain ⟨yk, ys, yf, yc⟩ := HQ4.out _ HK3.out
            have yl := HK3.out.q_.c2
            clear zk zs zf zc zi zl
            go_wp2_with fail
            go_quiet (fail)
            have hK := HK3.out.drewN nq
            obtain ⟨W4, hWn⟩ : ∃ W, World.drewN W3 nq = W := ⟨_, rfl⟩
            rw [hWn] at hK ⊢
            clear hWn
            have HK4 := Lib.hid hK
            clear hK
            obtain ⟨xk, xs, xf, xc⟩ := HQ4.out _ HK4.out
            have x5 := HK4.out.q_.c5
            have x4 := HK4.out.q_.c4
            have x7 := HK4.out.q_.c7
            have x8 := HK4.out.q_.c8
            have x9 := HK4.out.q_.c9
            rw [hen] at x9
            clear yk ys yf yc yl
            go_wp2_with fail
            have q1 := HD1.out
            have q2 := HD2.out
            have q3 := HD3.out
            go_quiet (fail)
            have hK := HK4.out.drewN nq
            obtain ⟨W5, hWn⟩ : ∃ W, World.drewN W4 nq = W := ⟨_, rfl⟩
            rw [hWn] at hK ⊢
            clear hWn
            have HK5 := Lib.hid hK
            clear hK
            have v5 := HK5.out.q_.c5
            clear xk xs xf xc x5 x4 x7 x8 x9
            go_wp2
            go_ret
            exact HNO.out _ HK5.out _
        · have hfz : ((F : Int) != (X.b.fi : Int)) = true := by simp; omega
          have hR : rsB X F = true := by unfold rsB sizedB sizedN highQ; simp [if_neg h5, hen, hfe]
          clear hfe hfh h5
          skip -- hen
          rw [if_pos hR, HOK.out (.inl hR)]
          clear HOK HOK2 hc1 hR
          go_enter Tryz.func29, Tryz.ntmps29
          go_wp2_with fail
          (try rw [hg])
          (try rw [hW1])
          go_quiet (fail)
          have hK := HK.out.drewN nq
          obtain ⟨W3, hWn⟩ : ∃ W, World.drewN W1 nq = W := ⟨_, rfl⟩
          rw [hWn] at hK ⊢
          clear hWn
          have HK3 := Lib.hid hK
          clear hK
          obtain ⟨yk, ys, yf, yc⟩ := HQ4.out _ HK3.out
          have yl := HK3.out.q_.c2
          clear zk zs zf zc zi zl
          go_wp2_with fail
          go_quiet (fail)
          have hK := HK3.out.drewN nq
          obtain ⟨W4, hWn⟩ : ∃ W, World.drewN W3 nq = W := ⟨_, rfl⟩
          rw [hWn] at hK ⊢
          clear hWn
          have HK4 := Lib.hid hK
          clear hK
          obtain ⟨xk, xs, xf, xc⟩ := HQ4.out _ HK4.out
          have x5 := HK4.out.q_.c5
          have x4 := HK4.out.q_.c4
          have x7 := HK4.out.q_.c7
          have x8 := HK4.out.q_.c8
          have x9 := HK4.out.q_.c9
          rw [hen] at x9
          clear yk ys yf yc yl
          go_wp2_with fail
          have q1 := HD1.out
          have q2 := HD2.out
          have q3 := HD3.out
          go_quiet (fail)
          go_wp2
          go_ret
          exact HNO.out _ (HK4.out.drewN _) _
end
end Go.Proofs.YtphpdaldplkgmaaGreat
