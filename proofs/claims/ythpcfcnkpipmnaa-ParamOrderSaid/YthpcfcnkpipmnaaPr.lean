/-
  The document's own Encode of params (narthexref6).
-/
import Derived.Test.YthpcfcnkpipmnaaPe
import Derived.Test.YthpcfcnkpipmnaaRWtr
import Derived.Test.YthpcfcnkpipmnaaRefPut
import Derived.Test.YthpcfcnkpipmnaaInRow
namespace Go.Proofs.Ythpcfcnkpipmnaa
set_option linter.unusedVariables false
set_option linter.unusedSimpArgs false
open Go.RowKit Go.ChangeShapes Go.WideShapes Go.Deep
theorem Own.inRow {w : World} {base n c : Nat} {e : TypeId} {A : Option Addr} {bs : List Int} (h : Own w base e (.slice A n c) bs) (hn : bs.length = n) : InRow w A n c bs := by
  subst hn
  have h0 := h.nil_cap
  obtain ⟨A', c', hv, h1, h2, h3⟩ := h.open_
  injection hv with e1 e2 e3
  subst e1; subst e3
  exact ⟨h3, h1, h2, h0⟩
def RowPst (w : World) (bs : List Int) (e : Ending) (w' : World) : Prop := ∃ A n c, e = .returned (.slice A n c) ∧ InRow w' A n c bs ∧ Below w.heap.size w w'
set_option maxRecDepth 100000 in
set_option maxHeartbeats 1000000 in
theorem rone_any (A : Option Addr) (n c : Nat) (bs : List Int) (id x : Int) (w : World) (h : InRow w A n c bs) (hn : n ≤ 1000000) (hi0 : 0 ≤ id) (hi1 : id ≤ 4611686018427387903) (h0 : 0 ≤ x) (h1 : x ≤ 4611686018427387903) :
    Calls Try.prog 18 #[.slice A n c, .int .u64 id, .int .u64 x] w (RowPst w (bs ++ numB id x)) := by
  by_cases hz : x = 0
  · have HE := Lib.hid (show bs ++ numB id x = bs by unfold numB; rw [if_pos hz, List.append_nil])
    have HI := Lib.hid h; clear h
    subst hz
    go_enter Try.func18, Try.ntmps18
    go_wp2
    go_ret
    rw [HE.out]
    exact ⟨A, n, c, rfl, HI.out, Below.refl _ _⟩
  · have hnz : (x == 0) = false := by simp; omega
    have HE := Lib.hid (show bs ++ numB id x = bs ++ putS id ++ textB (putS x) by unfold numB; rw [if_neg hz, List.append_assoc])
    have L1 := putS_le id
    have L2 := putS_le x
    have hr := h.1
    have hlen := hr.1
    obtain ⟨n1, hn1⟩ : ∃ k, (bs ++ putS id).length = k := ⟨_, rfl⟩
    have hn1b : n1 ≤ 10000000000000 := by rw [← hn1, List.length_append]; omega
    obtain ⟨n2, hn2⟩ : ∃ k, (putS x).length = k := ⟨_, rfl⟩
    have hn2b : n2 ≤ 10000000000000 := by omega
    have hnb : n ≤ 140737488355000 := by omega
    have HN1 := Lib.hid hn1
    have HN2 := Lib.hid hn2
    clear h hlen hn1 hn2
    go_enter Try.func18, Try.ntmps18
    go_wp2_with fail
    refine (rput_any A n c bs id w hr hnb hi0 hi1).mono ?_
    rintro e w1 ⟨v1, rfl, hown1, hb1⟩
    obtain ⟨A1, c1, rfl, _, _, hr1⟩ := hown1.open_n n1 HN1.out
    go_wp2_with fail
    have q0 : Rd w1 w1.heap.size none 0 [] := Rd.none_ _ _ _
    have q1 : (0 : Nat) ≤ 140737488355000 := by decide
    have hq := rput_any none 0 0 [] x w1 q0 q1 h0 h1
    refine hq.mono ?_
    rintro e w2 ⟨v2, rfl, hown2, hb2⟩
    rw [List.nil_append] at hown2
    obtain ⟨A2, c2, rfl, _, _, hr2⟩ := hown2.open_n n2 HN2.out
    have hr12 := (hr1.below hb2).more hb2.size
    have hb12 := hb1.trans (hb2.mono hb1.size)
    go_wp2_with fail
    refine (rtext2_any A1 n1 c1 _ A2 n2 c2 _ w2 hr12 hr2 hn1b hn2b).mono ?_
    rintro e w3 ⟨v3, rfl, hown3, hb3⟩
    obtain ⟨n3, hn3⟩ : ∃ k, (bs ++ putS id ++ textB (putS x)).length = k := ⟨_, rfl⟩
    obtain ⟨A3, c3, rfl, _, _, _⟩ := hown3.open_n n3 hn3
    have HN3 := Lib.hid hn3
    clear hn3
    go_wp2_with fail
    go_ret
    rw [HE.out]
    exact ⟨A3, n3, c3, rfl, hown3.inRow HN3.out, hb12.trans (hb3.mono hb12.size)⟩
def ROwnPost (w : World) (bs : List Int) (e : Ending) (w' : World) : Prop := ∃ v, e = .returned v ∧ Own w' w.heap.size 5 v bs ∧ Below w.heap.size w w'
set_option maxRecDepth 100000 in
set_option maxHeartbeats 2000000 in
theorem rpenc_any (m : PN) (w : World) (hwf : m.wf) (h : prightB m = true) :
    Calls Try.prog 9 #[pmV m] w (ROwnPost w (pencS m)) := by
  obtain ⟨r1, r2, r3, r4⟩ := pright_parts m h
  have hB0 : Below w.heap.size w (w.alloc (.cells (pmL m).toArray 26)) := (Below.refl _ _).alloc (Nat.le_refl _) _
  have hA0 : At (w.alloc (.cells (pmL m).toArray 26)) w.heap.size 26 (pmL m) := At.new w _ _
  have hg : w.heap.size < (w.alloc (.cells (pmL m).toArray 26)).heap.size := hA0.lt
  have hcr : ∀ W : World, At W w.heap.size 26 (pmL m) → Rd W W.heap.size (some ⟨w.heap.size, 4, none⟩) 8 m.c.l := fun W hW => pm_rd m hW hwf.cb
  have hE : pencS m = [] ++ numB 1 m.i ++ numB 4 m.d ++ numB 5 m.s ++ numB 8 m.m ++ putS 0 ++ textB m.c.l := by unfold pencS; rw [List.nil_append, List.append_assoc _ (putS 0)]
  have N1 := numB_le 1 m.i
  have N2 := numB_le 4 m.d
  have N3 := numB_le 5 m.s
  have N4 := numB_le 8 m.m
  have N5 := putS_le 0
  have b1 := hwf.i0
  have b2 := hwf.d0
  have b3 := hwf.s0
  have b4 := hwf.m0
  obtain ⟨L, hL⟩ : ∃ L, pmL m = L := ⟨_, rfl⟩
  have hfv : pmV m = .agg L.toArray := by rw [← hL]; rfl
  have l0 : L[0]? = some (.int .u64 m.i) := by rw [← hL]; rfl
  have l1 : L[1]? = some (.int .u64 m.d) := by rw [← hL]; rfl
  have l2 : L[2]? = some (.int .u64 m.s) := by rw [← hL]; rfl
  have l3 : L[3]? = some (.int .u64 m.m) := by rw [← hL]; rfl
  rw [hL] at hA0 hB0 hg hcr
  rw [hfv]
  obtain ⟨cl, hcl⟩ : ∃ x, m.c.l = x := ⟨_, rfl⟩
  rw [hcl] at hcr hE
  obtain ⟨i, hi⟩ : ∃ x, m.i = x := ⟨_, rfl⟩
  obtain ⟨d, hd⟩ : ∃ x, m.d = x := ⟨_, rfl⟩
  obtain ⟨s, hs⟩ : ∃ x, m.s = x := ⟨_, rfl⟩
  obtain ⟨q, hq⟩ : ∃ x, m.m = x := ⟨_, rfl⟩
  rw [hi] at l0 r1 b1 hE N1
  rw [hd] at l1 r3 b2 hE N2
  rw [hs] at l2 r4 b3 hE N3
  rw [hq] at l3 r2 b4 hE N4
  obtain ⟨E, hEE⟩ : ∃ x, pencS m = x := ⟨_, rfl⟩
  rw [hEE] at hE ⊢
  have e0 := fun W (hA : At W w.heap.size 26 L) => (hA.cell 0).trans l0
  have e1 := fun W (hA : At W w.heap.size 26 L) => (hA.cell 1).trans l1
  have e2 := fun W (hA : At W w.heap.size 26 L) => (hA.cell 2).trans l2
  have e3 := fun W (hA : At W w.heap.size 26 L) => (hA.cell 3).trans l3
  have HCR := Lib.hid hcr
  have HE := Lib.hid hE
  have E0 := Lib.hid e0
  have E1 := Lib.hid e1
  have E2 := Lib.hid e2
  have E3 := Lib.hid e3
  clear hL hfv h hcl hi hd hs hq hEE hE e0 e1 e2 e3 l0 l1 l2 l3 hcr hwf
  have I0 : ∀ W : World, InRow W none 0 0 [] := fun W => inRow_nil W 0 0 rfl rfl
  have Z0 : (0 : Nat) ≤ 1000000 := by decide
  have u1 : i ≤ 4611686018427387903 := by omega
  have u4 : d ≤ 4611686018427387903 := by omega
  have u5 : s ≤ 4611686018427387903 := by omega
  have u8 : q ≤ 4611686018427387903 := by omega
  go_enter Try.func9, Try.ntmps9
  go_wp2_with fail
  change (Code.region _ _ _).wp _ _ _ (w.alloc (.cells L.toArray 26))
  obtain ⟨w1, hw1⟩ : ∃ x, w.alloc (.cells L.toArray 26) = x := ⟨_, rfl⟩
  rw [hw1] at hA0 hB0 hg ⊢
  clear hw1
  have hA1 := hA0.drew
  have hB1 : Below w.heap.size w w1.drew := belowN hB0 1
  have hg1 : w.heap.size < w1.drew.heap.size := hA1.lt
  clear hA0 hB0 hg
  refine wp_region_held_drew (S := (fun W => At W w.heap.size 26 L)) (by kernel_rfl) (hA1) (fun hHeld => ?_)
  refine tk_dst (i := 0) (dst := some 4) rfl rfl (by kernel_rfl) (by kernel_rfl) (by kernel_rfl) (fun _ _ _ h => h) (v := ?_) (Or.inl ⟨by rfl, ?_⟩) (by assumption) ?_
  rotate_left
  · intro w hSw; (try dsimp only at hSw); (have q0 := E0.out _ hSw); (have q1 := E1.out _ hSw); (have q2 := E2.out _ hSw); (have q3 := E3.out _ hSw); go_simp; first | done | (with_reducible rfl)
  simp only [Act.put, List.setIfInBounds_toArray, List.set_cons_zero, List.set_cons_succ]
  refine tk_dst (i := 1) (dst := some 5) rfl rfl (by kernel_rfl) (by kernel_rfl) (by kernel_rfl) (fun _ _ _ h => h) (v := ?_) (Or.inl ⟨by rfl, ?_⟩) (by assumption) ?_
  rotate_left
  · intro w hSw; (try dsimp only at hSw); (have q0 := E0.out _ hSw); (have q1 := E1.out _ hSw); (have q2 := E2.out _ hSw); (have q3 := E3.out _ hSw); go_simp; first | done | (with_reducible rfl)
  simp only [Act.put, List.setIfInBounds_toArray, List.set_cons_zero, List.set_cons_succ]
  refine tk_dst (i := 3) (dst := some 7) rfl rfl (by kernel_rfl) (by kernel_rfl) (by kernel_rfl) (fun _ _ _ h => h) (v := ?_) (Or.inl ⟨by rfl, ?_⟩) (by assumption) ?_
  rotate_left
  · intro w hSw; (try dsimp only at hSw); (have q0 := E0.out _ hSw); (have q1 := E1.out _ hSw); (have q2 := E2.out _ hSw); (have q3 := E3.out _ hSw); go_simp; first | done | (with_reducible rfl)
  simp only [Act.put, List.setIfInBounds_toArray, List.set_cons_zero, List.set_cons_succ]
  refine tk_dst (i := 4) (dst := some 8) rfl rfl (by kernel_rfl) (by kernel_rfl) (by kernel_rfl) (fun _ _ _ h => h) (v := ?_) (Or.inl ⟨by rfl, ?_⟩) (by assumption) ?_
  rotate_left
  · intro w hSw; (try dsimp only at hSw); (have q0 := E0.out _ hSw); (have q1 := E1.out _ hSw); (have q2 := E2.out _ hSw); (have q3 := E3.out _ hSw); go_simp; first | done | (with_reducible rfl)
  simp only [Act.put, List.setIfInBounds_toArray, List.set_cons_zero, List.set_cons_succ]
  refine tk_dst (i := 6) (dst := some 10) rfl rfl (by kernel_rfl) (by kernel_rfl) (by kernel_rfl) (fun _ _ _ h => h) (v := ?_) (Or.inl ⟨by rfl, ?_⟩) (by assumption) ?_
  rotate_left
  · intro w hSw; (try dsimp only at hSw); (have q0 := E0.out _ hSw); (have q1 := E1.out _ hSw); (have q2 := E2.out _ hSw); (have q3 := E3.out _ hSw); go_simp; first | done | (with_reducible rfl)
  simp only [Act.put, List.setIfInBounds_toArray, List.set_cons_zero, List.set_cons_succ]
  refine tk_dst (i := 7) (dst := some 11) rfl rfl (by kernel_rfl) (by kernel_rfl) (by kernel_rfl) (fun _ _ _ h => h) (v := ?_) (Or.inl ⟨by rfl, ?_⟩) (by assumption) ?_
  rotate_left
  · intro w hSw; (try dsimp only at hSw); (have q0 := E0.out _ hSw); (have q1 := E1.out _ hSw); (have q2 := E2.out _ hSw); (have q3 := E3.out _ hSw); go_simp; first | done | (with_reducible rfl)
  simp only [Act.put, List.setIfInBounds_toArray, List.set_cons_zero, List.set_cons_succ]
  refine tk_dst (i := 9) (dst := some 13) rfl rfl (by kernel_rfl) (by kernel_rfl) (by kernel_rfl) (fun _ _ _ h => h) (v := ?_) (Or.inl ⟨by rfl, ?_⟩) (by assumption) ?_
  rotate_left
  · intro w hSw; (try dsimp only at hSw); (have q0 := E0.out _ hSw); (have q1 := E1.out _ hSw); (have q2 := E2.out _ hSw); (have q3 := E3.out _ hSw); go_simp; first | done | (with_reducible rfl)
  simp only [Act.put, List.setIfInBounds_toArray, List.set_cons_zero, List.set_cons_succ]
  refine tk_dst (i := 10) (dst := some 14) rfl rfl (by kernel_rfl) (by kernel_rfl) (by kernel_rfl) (fun _ _ _ h => h) (v := ?_) (Or.inl ⟨by rfl, ?_⟩) (by assumption) ?_
  rotate_left
  · intro w hSw; (try dsimp only at hSw); (have q0 := E0.out _ hSw); (have q1 := E1.out _ hSw); (have q2 := E2.out _ hSw); (have q3 := E3.out _ hSw); go_simp; first | done | (with_reducible rfl)
  simp only [Act.put, List.setIfInBounds_toArray, List.set_cons_zero, List.set_cons_succ]
  refine wpAnyH_ready (rs := [2]) (by kernel_rfl) (by simp) ?_
  refine AllReadyH.cons rfl (fun K hK => ?_) AllReadyH.nil
  go_simp
  go_wp2_with ((go_at_call 18; refine (rone_any (none) 0 0 [] 1 i _ (I0 _) Z0 (by decide) (by decide) b1 u1).mono ?_; rintro e x1 ⟨P1, p1, c1, rfl, hI1, hb1⟩))
  refine hK.out _ _ (hA1.below hb1 hA1.lt) (fun hHeld => ?_)
  clear hK K
  have hHA1 := hA1.below hb1 hA1.lt
  have hHB1 := hB1.trans (hb1.mono hB1.size)
  clear hA1 hB1 hb1
  have hL1 : p1 ≤ 1000000 := by have := hI1.1.1; simp only [List.length_append, List.length_nil] at this; omega
  refine wpAnyH_ready (rs := [5]) (by kernel_rfl) (by simp) ?_
  refine AllReadyH.cons rfl (fun K hK => ?_) AllReadyH.nil
  go_simp
  go_wp2_with ((go_at_call 18; refine (rone_any _ _ _ ([] ++ numB 1 i) 4 d _ hI1 hL1 (by decide) (by decide) b2 u4).mono ?_; rintro e x2 ⟨P2, p2, c2, rfl, hI2, hb2⟩))
  refine hK.out _ _ (hHA1.below hb2 hHA1.lt) (fun hHeld => ?_)
  clear hK K
  have hHA2 := hHA1.below hb2 hHA1.lt
  have hHB2 := hHB1.trans (hb2.mono hHB1.size)
  clear hHA1 hHB1 hb2
  have hL2 : p2 ≤ 1000000 := by have := hI2.1.1; simp only [List.length_append, List.length_nil] at this; omega
  refine wpAnyH_ready (rs := [8]) (by kernel_rfl) (by simp) ?_
  refine AllReadyH.cons rfl (fun K hK => ?_) AllReadyH.nil
  go_simp
  go_wp2_with ((go_at_call 18; refine (rone_any _ _ _ ([] ++ numB 1 i ++ numB 4 d) 5 s _ hI2 hL2 (by decide) (by decide) b3 u5).mono ?_; rintro e x3 ⟨P3, p3, c3, rfl, hI3, hb3⟩))
  refine hK.out _ _ (hHA2.below hb3 hHA2.lt) (fun hHeld => ?_)
  clear hK K
  have hHA3 := hHA2.below hb3 hHA2.lt
  have hHB3 := hHB2.trans (hb3.mono hHB2.size)
  clear hHA2 hHB2 hb3
  have hL3 : p3 ≤ 1000000 := by have := hI3.1.1; simp only [List.length_append, List.length_nil] at this; omega
  refine wpAnyH_ready (rs := [11]) (by kernel_rfl) (by simp) ?_
  refine AllReadyH.cons rfl (fun K hK => ?_) AllReadyH.nil
  go_simp
  go_wp2_with ((go_at_call 18; refine (rone_any _ _ _ ([] ++ numB 1 i ++ numB 4 d ++ numB 5 s) 8 q _ hI3 hL3 (by decide) (by decide) b4 u8).mono ?_; rintro e x4 ⟨P4, p4, c4, rfl, hI4, hb4⟩))
  refine hK.out _ _ (hHA3.below hb4 hHA3.lt) (fun hHeld => ?_)
  clear hK K
  have hHA4 := hHA3.below hb4 hHA3.lt
  have hHB4 := hHB3.trans (hb4.mono hHB3.size)
  clear hHA3 hHB3 hb4
  have hL4 : p4 ≤ 1000000 := by have := hI4.1.1; simp only [List.length_append, List.length_nil] at this; omega
  refine tk_dst (i := 12) (dst := some 3) rfl rfl (by kernel_rfl) (by kernel_rfl) (by kernel_rfl) (fun _ _ _ h => h) (v := ?_) (Or.inl ⟨by rfl, ?_⟩) (by assumption) ?_
  rotate_left
  · intro w hSw; (try dsimp only at hSw); (have q0 := E0.out _ hSw); (have q1 := E1.out _ hSw); (have q2 := E2.out _ hSw); (have q3 := E3.out _ hSw); go_simp; first | done | (with_reducible rfl)
  simp only [Act.put, List.setIfInBounds_toArray, List.set_cons_zero, List.set_cons_succ]
  refine wpAnyH_done (by kernel_rfl) ?_ _
  go_wp2_with fail
  have hA5 := hHA4.drew
  have hB5 : Below w.heap.size w x4.drew := belowN hHB4 1
  have hI5 : InRow x4.drew P4 p4 c4 ([] ++ numB 1 i ++ numB 4 d ++ numB 5 s ++ numB 8 q) := ⟨hI4.1.drew, hI4.2⟩
  clear hHA4 hHB4 hI4 hI1 hI2 hI3
  obtain ⟨n5, hn5⟩ : ∃ k, ([] ++ numB 1 i ++ numB 4 d ++ numB 5 s ++ numB 8 q ++ putS 0).length = k := ⟨_, rfl⟩
  have hq5 : n5 ≤ 10000000000000 := by rw [← hn5]; simp only [List.length_append, List.length_nil]; omega
  have HN5 := Lib.hid hn5
  clear hn5
  have hq4 : p4 ≤ 140737488355000 := by have := hL4; omega
  have hp4 : p4 ≤ 1000 := by have := hI5.1.1; simp only [List.length_append, List.length_nil] at this; omega
  refine wp_region_held_drew (S := (fun W => At W w.heap.size 26 L)) (by kernel_rfl) (hA5) (fun hHeld => ?_)
  refine tk_dst (i := 0) (dst := some 16) rfl rfl (by kernel_rfl) (by kernel_rfl) (by kernel_rfl) (fun _ _ _ h => h) (v := ?_) (Or.inl ⟨by rfl, ?_⟩) (by assumption) ?_
  rotate_left
  · intro w hSw; (try dsimp only at hSw); go_simp; first | done | (with_reducible rfl)
  simp only [Act.put, List.setIfInBounds_toArray, List.set_cons_zero, List.set_cons_succ]
  refine tk_dst (i := 2) (dst := some 18) rfl rfl (by kernel_rfl) (by kernel_rfl) (by kernel_rfl) (fun _ _ _ h => h) (v := ?_) (Or.inl ⟨by rfl, ?_⟩) (by assumption) ?_
  rotate_left
  · intro w hSw; (try dsimp only at hSw); go_simp; first | done | (with_reducible rfl)
  simp only [Act.put, List.setIfInBounds_toArray, List.set_cons_zero, List.set_cons_succ]
  refine tk_dst (i := 3) (dst := some 19) rfl rfl (by kernel_rfl) (by kernel_rfl) (by kernel_rfl) (fun _ _ _ h => h) (v := ?_) (Or.inl ⟨by rfl, ?_⟩) (by assumption) ?_
  rotate_left
  · intro w hSw; (try dsimp only at hSw); go_simp; first | done | (with_reducible rfl)
  simp only [Act.put, List.setIfInBounds_toArray, List.set_cons_zero, List.set_cons_succ]
  refine wpAnyH_ready (rs := [1]) (by kernel_rfl) (by simp) ?_
  refine AllReadyH.cons rfl (fun K hK => ?_) AllReadyH.nil
  go_simp
  go_wp2_with ((go_at_call 20; refine (rput_any P4 p4 c4 _ 0 _ hI5.1 hq4 (by decide) (by decide)).mono ?_; rintro e x5 ⟨v5, rfl, hown5, hb5⟩; obtain ⟨A5, k5, rfl, _, _, hr5⟩ := hown5.open_n n5 HN5.out))
  refine hK.out _ _ (hA5.below hb5 hA5.lt) (fun hHeld => ?_)
  clear hK K
  have hHA5 := hA5.below hb5 hA5.lt
  have hHB5 := hB5.trans (hb5.mono hB5.size)
  refine wpAnyH_ready (rs := [4]) (by kernel_rfl) (by simp) ?_
  refine AllReadyH.cons rfl (fun K hK => ?_) AllReadyH.nil
  go_simp
  go_wp2_with ((go_at_call 19; refine (rtext2_any A5 n5 k5 _ (some ⟨w.heap.size, 4, none⟩) 8 8 cl _ hr5 (HCR.out _ hHA5) hq5 (by decide)).mono ?_; rintro e x6 ⟨v6, rfl, hown6, hb6⟩))
  refine hK.out _ _ (hHA5.below hb6 hHA5.lt) (fun hHeld => ?_)
  clear hK K
  refine tk_dst (i := 5) (dst := some 2) rfl rfl (by kernel_rfl) (by kernel_rfl) (by kernel_rfl) (fun _ _ _ h => h) (v := ?_) (Or.inl ⟨by rfl, ?_⟩) (by assumption) ?_
  rotate_left
  · intro w hSw; (try dsimp only at hSw); go_simp; first | done | (with_reducible rfl)
  simp only [Act.put, List.setIfInBounds_toArray, List.set_cons_zero, List.set_cons_succ]
  refine wpAnyH_done (by kernel_rfl) ?_ _
  go_wp2_with fail
  go_ret
  exact ⟨v6, rfl, (hown6.cast HE.out.symm).base_ hHB5.size, hHB5.trans (hb6.mono hHB5.size)⟩
end Go.Proofs.Ythpcfcnkpipmnaa
