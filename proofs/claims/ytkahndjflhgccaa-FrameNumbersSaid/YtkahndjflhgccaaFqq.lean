/-
  A frame that is right, as bytes, by the document's own answer (narthexref4.One): an Ack, and every frame.
-/
import Derived.Test.YtkahndjflhgccaaFqp
import Derived.IntWalk
namespace Go.Proofs.Ytkahndjflhgccaa
set_option linter.unusedVariables false
set_option linter.unusedSimpArgs false
open Go.RowKit
structure RkAt (w : World) (TOT : List Int) (rs : RS) (L : List Value) (A : Option Addr) (n c : Nat) (bc : List Int) (j : Nat) (a b2 : Int) (wr : World) : Prop where
  own : Own wr w.heap.size 5 (.slice A n c) bc
  rd : Rd wr wr.heap.size A n bc
  len : bc.length = n
  bl : Below w.heap.size w wr
  get : rs[j]? = some (a, b2)
  tot : bc ++ putL (gapV a (rs.take j).reverse) = TOT
  fr : At wr w.heap.size 31 L
set_option maxRecDepth 100000 in
set_option maxHeartbeats 4000000 in
theorem rone_2 (P : Nat → Prop) (s o l c f q y c0 c1 c2 c3 c4 c5 c6 c7 : Int) (fin : Bool) (dA : Option Addr) (dn dc : Nat) (rA : Option Addr) (rn rc : Nat) (ds : List Int) (rs : RS) (w : World) (hf : Fits w P ⟨2, s, o, fin, l, c, f, q, y, c0, c1, c2, c3, c4, c5, c6, c7⟩ ⟨dA, dn, dc⟩ ⟨rA, rn, rc⟩ ds rs) (hr : rightB ⟨2, s, o, fin, l, c, f, q, y, c0, c1, c2, c3, c4, c5, c6, c7⟩ ds rs = true) :
    Calls Try.prog 12 #[frV ⟨2, s, o, fin, l, c, f, q, y, c0, c1, c2, c3, c4, c5, c6, c7⟩ ⟨dA, dn, dc⟩ ⟨rA, rn, rc⟩] w (VPost w.heap.size (oneS ⟨2, s, o, fin, l, c, f, q, y, c0, c1, c2, c3, c4, c5, c6, c7⟩ ds rs) w) := by
  obtain ⟨hwf, hdt, hrg⟩ := hf
  have s0 := hwf.s0
  have o0 := hwf.o0
  have l0 := hwf.l0
  have c_0 := hwf.c0
  have f0 := hwf.f0
  have q0 := hwf.q0
  have y0 := hwf.y0
  simp only at s0 o0 l0 c_0 f0 q0 y0
  rw [rightB_2 s o l c f q y c0 c1 c2 c3 c4 c5 c6 c7 fin ds rs dn hdt.rd.len s0 o0 l0 c_0 f0 q0 y0] at hr
  have y1 : y ≤ 4611686018427387903 := by simp [smL] at hr; omega
  have hrr : rrB rs = true := by simp at hr; exact hr.1
  obtain ⟨⟨h1, h16⟩, hst, hlast⟩ := rr_all rs hrr
  obtain ⟨N, hN⟩ : ∃ N, rs.length = N + 1 := ⟨rs.length - 1, by omega⟩
  have hN15 : N ≤ 15 := by omega
  obtain ⟨hrd, hnc, hcm, _⟩ := hrg
  simp only at hrd hnc hcm
  obtain ⟨hlen, hbd, hcell⟩ := hrd
  obtain rfl : rn = N + 1 := by omega
  obtain ⟨b, off, rfl, hb, hP, hc⟩ := hcell (by omega)
  have hget : ∀ (j : Nat) (x : Int × Int), rs[j]? = some x → 0 ≤ x.1 ∧ x.1 < x.2 ∧ x.2 ≤ 4611686018427387904 := fun j x hx => by
    have a1 := (hbd x (List.mem_of_getElem? hx)).1
    have a2 := (steps_get rs (-1) hst j x hx).2
    have a3 := steps_le rs (-1) hst j x hx
    exact ⟨a1, a2, by omega⟩
  have hgap : ∀ (j : Nat) (x x2 : Int × Int), rs[j]? = some x → rs[j + 1]? = some x2 → x.2 < x2.1 := fun j x x2 hx hx2 => by
    have := (steps_get rs (-1) hst (j + 1) x2 hx2).1
    rw [if_neg (by omega), Nat.add_sub_cancel, List.getD_eq_getElem?_getD, hx] at this
    exact this
  obtain ⟨x, hx⟩ : ∃ x, rs[N]? = some x := ⟨_, List.getElem?_eq_getElem (by omega)⟩
  obtain ⟨lo, hi⟩ := x
  have hA := ack_last y rs N hN (lo, hi) hx
  have hgx := hget N (lo, hi) hx
  simp only at hgx hA
  obtain ⟨hg0, hg1, hg2⟩ := hgx
  obtain ⟨TOT, hE⟩ : ∃ E, oneS ⟨2, s, o, fin, l, c, f, q, y, c0, c1, c2, c3, c4, c5, c6, c7⟩ ds rs = E := ⟨_, rfl⟩
  have HTOT := Lib.hid (show [] ++ putL [2] ++ putL [hi - 1, y, (N : Int), hi - 1 - lo] ++ putL (gapV lo (rs.take N).reverse) = TOT by rw [← hE]; unfold oneS bodyS; rw [if_pos rfl, hA, putL_app]; simp [wkS, putL])
  have htl : TOT.length ≤ 10000000 := by
    have e1 := putL_len (ackV y rs)
    have e2 := ackV_len y rs
    have e3 : (oneS ⟨2, s, o, fin, l, c, f, q, y, c0, c1, c2, c3, c4, c5, c6, c7⟩ ds rs).length = (putS (wkS ⟨2, s, o, fin, l, c, f, q, y, c0, c1, c2, c3, c4, c5, c6, c7⟩)).length + (putL (ackV y rs)).length := by unfold oneS bodyS; rw [if_pos rfl, List.length_append]
    have := putS_le (wkS ⟨2, s, o, fin, l, c, f, q, y, c0, c1, c2, c3, c4, c5, c6, c7⟩)
    rw [← hE, e3]
    omega
  rw [hE]
  clear hE
  have hb0 : Below w.heap.size w (w.alloc (.cells #[.int .i64 2, .int .u64 s, .int .u64 o, .slice dA dn dc, .bool fin, .int .u64 l, .int .u64 c, .int .u64 f, .int .u64 q, .int .u64 y, .slice (some ⟨b, off, none⟩) (N + 1) rc,
      .int .u8 c0, .int .u8 c1, .int .u8 c2, .int .u8 c3, .int .u8 c4, .int .u8 c5, .int .u8 c6, .int .u8 c7] 31)) := (Below.refl _ _).alloc (Nat.le_refl _) _
  have hA0 : At (w.alloc (.cells #[.int .i64 2, .int .u64 s, .int .u64 o, .slice dA dn dc, .bool fin, .int .u64 l, .int .u64 c, .int .u64 f, .int .u64 q, .int .u64 y, .slice (some ⟨b, off, none⟩) (N + 1) rc,
      .int .u8 c0, .int .u8 c1, .int .u8 c2, .int .u8 c3, .int .u8 c4, .int .u8 c5, .int .u8 c6, .int .u8 c7] 31)) w.heap.size 31 (frL ⟨2, s, o, fin, l, c, f, q, y, c0, c1, c2, c3, c4, c5, c6, c7⟩ ⟨dA, dn, dc⟩ ⟨some ⟨b, off, none⟩, N + 1, rc⟩) := At.new w _ _
  have hs0 : (w.alloc (.cells #[.int .i64 2, .int .u64 s, .int .u64 o, .slice dA dn dc, .bool fin, .int .u64 l, .int .u64 c, .int .u64 f, .int .u64 q, .int .u64 y, .slice (some ⟨b, off, none⟩) (N + 1) rc,
      .int .u8 c0, .int .u8 c1, .int .u8 c2, .int .u8 c3, .int .u8 c4, .int .u8 c5, .int .u8 c6, .int .u8 c7] 31)).heap.size = w.heap.size + 1 := by simp
  have h1 := rvs_new none 0 0 [] [2] #[.int .u64 2] 1 (w.alloc (.cells #[.int .i64 2, .int .u64 s, .int .u64 o, .slice dA dn dc, .bool fin, .int .u64 l, .int .u64 c, .int .u64 f, .int .u64 q, .int .u64 y, .slice (some ⟨b, off, none⟩) (N + 1) rc,
      .int .u8 c0, .int .u8 c1, .int .u8 c2, .int .u8 c3, .int .u8 c4, .int .u8 c5, .int .u8 c6, .int .u8 c7] 31)) w.heap.size (w.heap.size + 1) (by simp) (Rd.none_ _ _ _) (by decide) rfl (by intro x hx; simp at hx; omega) rfl (by decide) (by decide) (by omega)
  have HGET := Lib.hid hget
  have HGAP := Lib.hid hgap
  have HC := Lib.hid hc
  have HN := Lib.hid hN
  have HX := Lib.hid hx
  have HA0 := Lib.hid hA0
  have HB0 := Lib.hid hb0
  have HS0 := Lib.hid hs0
  have H1 := Lib.hid h1
  clear hget hgap hc hN hx hA0 hb0 hs0 h1 hA hst hrr hbd hcell hlen hlast hr hwf hdt
  unfold maxLen at hcm
  have cA : w.cell? ⟨b, off + N * 2, none⟩ = some (.int .u64 lo) := (HC.out N (lo, hi) HX.out).1
  have cB : w.cell? ⟨b, off + N * 2 + 1, none⟩ = some (.int .u64 hi) := (HC.out N (lo, hi) HX.out).2
  simp only [frV, frL]
  go_enter Try.func12, Try.ntmps12
  go_wp2_with fail
  refine H1.out.mono ?_
  rintro e w1 ⟨A1, n1, a1, rfl, hn1, hO1, hR1, hB1⟩
  have hA1 := HA0.out.below hB1 (by rw [HS0.out]; omega)
  have hB1 := HB0.out.trans (hB1.mono (by rw [HS0.out]; omega))
  have hs1 := hB1.size
  have ek : w1.cell? ⟨w.heap.size, 0, none⟩ = some (.int .i64 2) := (hA1.cell 0).trans rfl
  have ey : w1.cell? ⟨w.heap.size, 9, none⟩ = some (.int .u64 y) := (hA1.cell 9).trans rfl
  have er : w1.cell? ⟨w.heap.size, 10, none⟩ = some (.slice (some ⟨b, off, none⟩) (N + 1) rc) := (hA1.cell 10).trans rfl
  have ca : w1.cell? ⟨b, off + N * 2, none⟩ = some (.int .u64 lo) := (hB1.cell (p := ⟨b, _, none⟩) hb).trans cA
  have cb : w1.cell? ⟨b, off + N * 2 + 1, none⟩ = some (.int .u64 hi) := (hB1.cell (p := ⟨b, _, none⟩) hb).trans cB
  have hg1 := hA1.lt
  have hbl : b < w1.heap.size := by omega
  have hm1 : n1 ≤ 100000 := by
    rw [← hn1]
    have := putL_len [(2 : Int)]
    simp only [List.length_append, List.length_cons, List.length_nil] at *
    omega
  clear cA cB
  go_wp2_with fail
  have hbr : Below w1.heap.size w1 (w1.alloc (.cells #[.int .u64 lo, .int .u64 hi] 60)) := (Below.refl _ _).alloc (Nat.le_refl _) _
  refine (rvs_new A1 n1 a1 ([] ++ putL [2]) [hi - 1, y, (N : Int), hi - 1 - lo] _ 4 (w1.alloc (.cells #[.int .u64 lo, .int .u64 hi] 60)) w.heap.size (w1.heap.size + 1) (by simp) ((hR1.below hbr).more hbr.size) (by omega) rfl (by intro x hx; simp at hx; omega) rfl (by decide) (by decide) (by have := hbr.size; omega)).mono ?_
  rintro e w2 ⟨A2, n2, a2, rfl, hn2, hO2, hR2, hB2⟩
  have hB2 := hbr.trans (hB2.mono hbr.size)
  have hA2 := hA1.below hB2 hg1
  have hB2 := hB1.trans (hB2.mono hs1)
  have HI : Hid (RkAt w TOT rs (frL ⟨2, s, o, fin, l, c, f, q, y, c0, c1, c2, c3, c4, c5, c6, c7⟩ ⟨dA, dn, dc⟩ ⟨some ⟨b, off, none⟩, N + 1, rc⟩) A2 n2 a2 ([] ++ putL [2] ++ putL [hi - 1, y, (N : Int), hi - 1 - lo]) N lo hi w2) := Lib.hid ⟨hO2, hR2, hn2, hB2, HX.out, HTOT.out, hA2⟩
  clear HX HTOT hO2 hR2 hn2 hB2 hA2 hbr hO1 hR1 hA1 ek ey er ca cb
  obtain ⟨bc0, hbc0⟩ : ∃ x, [] ++ putL [2] ++ putL [hi - 1, y, (N : Int), hi - 1 - lo] = x := ⟨_, rfl⟩
  rw [hbc0] at HI
  clear hbc0
  go_wp2_with fail
  go_loopw [3, 6] (fun v i wr => ∃ (j : Nat) (A' : Option Addr) (n' c' : Nat) (bc : List Int) (a b2 : Int), v = .slice A' n' c' ∧ ((i = .int .i64 (-1) ∧ j = 0) ∨ ∃ t : Nat, j = t + 1 ∧ i = .int .i64 (t : Int)) ∧ j ≤ 15 ∧ Hid (RkAt w TOT rs (frL ⟨2, s, o, fin, l, c, f, q, y, c0, c1, c2, c3, c4, c5, c6, c7⟩ ⟨dA, dn, dc⟩ ⟨some ⟨b, off, none⟩, N + 1, rc⟩) A' n' c' bc j a b2 wr)) (fun _ i _ => (intOf i + 1).toNat)
  case atStart =>
    refine ⟨N, A2, n2, a2, _, lo, hi, rfl, ?_, hN15, HI⟩
    rcases N with _ | N
    · exact .inl ⟨rfl, rfl⟩
    · exact .inr ⟨N, rfl, by go_num⟩
  case round =>
    obtain ⟨j, A', n', c', bc, a, b2, rfl, hij, hj15, hat⟩ := hrel
    have hbs := hat.out.bl.size
    have e10 : wr.cell? ⟨w.heap.size, 10, none⟩ = some (.slice (some ⟨b, off, none⟩) (N + 1) rc) := (hat.out.fr.cell 10).trans rfl
    rcases hij with ⟨rfl, rfl⟩ | ⟨t, rfl, rfl⟩
    · have hfin : Hid (bc = TOT) := Lib.hid (by simpa [gapV, putL] using hat.out.tot)
      have HO : Hid (VPost w.heap.size TOT w (.returned (.slice A' n' c')) wr) := Lib.hid (by
        have h1 := hat.out.len
        have h2 := hat.out.own
        have h3 := hat.out.rd
        rw [hfin.out] at h1 h2 h3
        exact ⟨A', n', c', rfl, h1, h2, h3, hat.out.bl⟩)
      clear hat hfin
      go_wp2_with fail
      go_ret
      exact HO.out
    · obtain ⟨x, hx⟩ : ∃ x, rs[t]? = some x := ⟨_, List.getElem?_eq_getElem (by have := (List.getElem?_eq_some_iff.1 hat.out.get).1; omega)⟩
      obtain ⟨a', b'⟩ := x
      have htn : t < N := by have := (List.getElem?_eq_some_iff.1 hat.out.get).1; rw [HN.out] at this; omega
      have hti : (t : Int) < (N : Int) + 1 := by omega
      have hlb : b < wr.heap.size := by omega
      have hq := HGET.out t (a', b') hx
      have hq2 := HGET.out (t + 1) (a, b2) hat.out.get
      have hgp := HGAP.out t (a', b') (a, b2) hx hat.out.get
      simp only at hq hq2 hgp
      obtain ⟨q0', q1', q2'⟩ := hq
      obtain ⟨q3', q4', q5'⟩ := hq2
      have ca : wr.cell? ⟨b, off + t * 2, none⟩ = some (.int .u64 a') := (hat.out.bl.cell (p := ⟨b, _, none⟩) hb).trans (HC.out t (a', b') hx).1
      have cb : wr.cell? ⟨b, off + t * 2 + 1, none⟩ = some (.int .u64 b') := (hat.out.bl.cell (p := ⟨b, _, none⟩) hb).trans (HC.out t (a', b') hx).2
      have ct : wr.cell? ⟨b, off + (t + 1) * 2, none⟩ = some (.int .u64 a) := (hat.out.bl.cell (p := ⟨b, _, none⟩) hb).trans (HC.out (t + 1) (a, b2) hat.out.get).1
      have HGT := Lib.hid (gap_step a rs t (a', b') hx)
      have HXT := Lib.hid hx
      have hg0r := hat.out.fr.lt
      have hbl5 : n' ≤ 100000000 := by
        have h1 := hat.out.tot
        have h2 := hat.out.len
        have h3 := htl
        rw [← h1, List.length_append] at h3
        omega
      clear hx
      go_wp2_with fail
      change (Code.region _ _ _).wp _ _ _ (wr.alloc (.cells #[.int .u64 a', .int .u64 b'] 60))
      have hb0 : Below wr.heap.size wr (wr.alloc (.cells #[.int .u64 a', .int .u64 b'] 60)) := (Below.refl _ _).alloc (Nat.le_refl _) _
      have f7 := At.new wr 60 [.int .u64 a', .int .u64 b']
      have hXs : (wr.alloc (.cells #[.int .u64 a', .int .u64 b'] 60)).heap.size = wr.heap.size + 1 := by simp
      obtain ⟨X, hX⟩ : ∃ x, wr.alloc (.cells #[.int .u64 a', .int .u64 b'] 60) = x := ⟨_, rfl⟩
      have hf7 : At X wr.heap.size 60 [.int .u64 a', .int .u64 b'] := by rw [← hX]; exact f7
      rw [hX] at hb0 hXs ⊢
      clear hX f7
      have hf0 := hat.out.fr.below hb0 hg0r
      have z10 : ∀ W, Below X.heap.size X W → W.cell? ⟨w.heap.size, 10, none⟩ = some (.slice (some ⟨b, off, none⟩) (N + 1) rc) := fun W hW => (hW.cell (p := ⟨w.heap.size, _, none⟩) (by show w.heap.size < _; omega)).trans ((hb0.cell (p := ⟨w.heap.size, _, none⟩) hg0r).trans e10)
      have zt : ∀ W, Below X.heap.size X W → W.cell? ⟨b, off + (t + 1) * 2, none⟩ = some (.int .u64 a) := fun W hW => (hW.cell (p := ⟨b, _, none⟩) (by show b < _; omega)).trans ((hb0.cell (p := ⟨b, _, none⟩) hlb).trans ct)
      have z70 : ∀ W, Below X.heap.size X W → W.cell? ⟨wr.heap.size, 0, none⟩ = some (.int .u64 a') := fun W hW => (hW.cell (p := ⟨wr.heap.size, _, none⟩) (by show wr.heap.size < _; omega)).trans ((hf7.cell 0).trans rfl)
      have z71 : ∀ W, Below X.heap.size X W → W.cell? ⟨wr.heap.size, 1, none⟩ = some (.int .u64 b') := fun W hW => (hW.cell (p := ⟨wr.heap.size, _, none⟩) (by show wr.heap.size < _; omega)).trans ((hf7.cell 1).trans rfl)
      have Z10 := Lib.hid z10
      have ZT := Lib.hid zt
      have Z70 := Lib.hid z70
      have Z71 := Lib.hid z71
      have hRX : Rd X.drew X.drew.heap.size A' n' bc := ((hat.out.rd.below hb0).more hb0.size).drew
      have HRX := Lib.hid hRX
      clear z10 zt z70 z71 ca cb ct e10 hf0 hf7 hRX
      have hix : IntKind.i64.wrap ((t : Int) + 1) = ((t + 1 : Nat) : Int) := by rw [IntWalk.i64_in _ (by omega)]; omega
      have hw1 : IntKind.u64.wrap (a - b') = a - b' := IntWalk.u64_in _ (by omega)
      have hw2 : IntKind.u64.wrap (a - b' - 1) = a - b' - 1 := IntWalk.u64_in _ (by omega)
      have hw3 : IntKind.u64.wrap (b' - 1) = b' - 1 := IntWalk.u64_in _ (by omega)
      have hw4 : IntKind.u64.wrap (b' - 1 - a') = b' - 1 - a' := IntWalk.u64_in _ (by omega)
      have htj : (t + 1 : Nat) < N + 1 := by omega
      have hti2 : ((t + 1 : Nat) : Int) < ((N + 1 : Nat) : Int) := by omega
      have hti3 : (0 : Int) ≤ ((t + 1 : Nat) : Int) := by omega
      have hti4 : (0 : Int) ≤ (t : Int) + 1 := by omega
      refine wp_region_held_drew (S := (fun W => Below X.heap.size X W)) (by kernel_rfl) (belowN (Below.refl _ _) 1) (fun hHeld => ?_)
      have hbY : Below X.heap.size X X.drew := belowN (Below.refl _ _) 1
      have hRX := HRX.out
      clear HRX hHeld
      obtain ⟨Y, hY⟩ : ∃ x, X.drew = x := ⟨_, rfl⟩
      rw [hY] at hbY hRX ⊢
      clear hY
      have HRX := Lib.hid hRX
      have hYs : w.heap.size ≤ Y.heap.size := by have := hbY.size; omega
      have hHeld := hbY
      clear hRX
      refine tkp 0 (some 55) (v := ?_) rfl (Or.inl ⟨by rfl, ?_⟩) (by assumption) ?_
      rotate_left
      · intro w hSw; (try dsimp only at hSw); (have y10 := Z10.out _ hSw); (have yt := ZT.out _ hSw); (have y70 := Z70.out _ hSw); (have y71 := Z71.out _ hSw); go_simp; first | done | (with_reducible rfl)
      simp only [Act.put, List.setIfInBounds_toArray, List.set_cons_zero, List.set_cons_succ]
      refine tkp 1 (some 56) (v := ?_) rfl (Or.inl ⟨by rfl, ?_⟩) (by assumption) ?_
      rotate_left
      · intro w hSw; (try dsimp only at hSw); (have y10 := Z10.out _ hSw); (have yt := ZT.out _ hSw); (have y70 := Z70.out _ hSw); (have y71 := Z71.out _ hSw); go_simp; first | done | (with_reducible rfl)
      simp only [Act.put, List.setIfInBounds_toArray, List.set_cons_zero, List.set_cons_succ]
      refine tkp 2 (some 57) (v := ?_) rfl (Or.inl ⟨by rfl, ?_⟩) (by assumption) ?_
      rotate_left
      · intro w hSw; (try dsimp only at hSw); (have y10 := Z10.out _ hSw); (have yt := ZT.out _ hSw); (have y70 := Z70.out _ hSw); (have y71 := Z71.out _ hSw); go_simp; first | done | (with_reducible rfl)
      simp only [Act.put, List.setIfInBounds_toArray, List.set_cons_zero, List.set_cons_succ]
      refine tkp 3 (some 58) (v := ?_) rfl (Or.inl ⟨by rfl, ?_⟩) (by assumption) ?_
      rotate_left
      · intro w hSw; (try dsimp only at hSw); (have y10 := Z10.out _ hSw); (have yt := ZT.out _ hSw); (have y70 := Z70.out _ hSw); (have y71 := Z71.out _ hSw); go_simp; first | done | (with_reducible rfl)
      simp only [Act.put, List.setIfInBounds_toArray, List.set_cons_zero, List.set_cons_succ]
      refine tkp 4 (some 59) (v := ?_) rfl (Or.inl ⟨by rfl, ?_⟩) (by assumption) ?_
      rotate_left
      · intro w hSw; (try dsimp only at hSw); (have y10 := Z10.out _ hSw); (have yt := ZT.out _ hSw); (have y70 := Z70.out _ hSw); (have y71 := Z71.out _ hSw); go_simp; first | done | (with_reducible rfl)
      simp only [Act.put, List.setIfInBounds_toArray, List.set_cons_zero, List.set_cons_succ]
      refine tkp 5 (some 60) (v := ?_) rfl (Or.inl ⟨by rfl, ?_⟩) (by assumption) ?_
      rotate_left
      · intro w hSw; (try dsimp only at hSw); (have y10 := Z10.out _ hSw); (have yt := ZT.out _ hSw); (have y70 := Z70.out _ hSw); (have y71 := Z71.out _ hSw); go_simp; first | done | (with_reducible rfl)
      simp only [Act.put, List.setIfInBounds_toArray, List.set_cons_zero, List.set_cons_succ]
      refine tkp 6 (some 61) (v := ?_) rfl (Or.inl ⟨by rfl, ?_⟩) (by assumption) ?_
      rotate_left
      · intro w hSw; (try dsimp only at hSw); (have y10 := Z10.out _ hSw); (have yt := ZT.out _ hSw); (have y70 := Z70.out _ hSw); (have y71 := Z71.out _ hSw); go_simp; first | done | (with_reducible rfl)
      simp only [Act.put, List.setIfInBounds_toArray, List.set_cons_zero, List.set_cons_succ]
      refine tkp 7 (some 62) (v := ?_) rfl (Or.inl ⟨by rfl, ?_⟩) (by assumption) ?_
      rotate_left
      · intro w hSw; (try dsimp only at hSw); (have y10 := Z10.out _ hSw); (have yt := ZT.out _ hSw); (have y70 := Z70.out _ hSw); (have y71 := Z71.out _ hSw); go_simp; first | done | (with_reducible rfl)
      simp only [Act.put, List.setIfInBounds_toArray, List.set_cons_zero, List.set_cons_succ]
      refine tkp 8 (some 63) (v := ?_) rfl (Or.inl ⟨by rfl, ?_⟩) (by assumption) ?_
      rotate_left
      · intro w hSw; (try dsimp only at hSw); (have y10 := Z10.out _ hSw); (have yt := ZT.out _ hSw); (have y70 := Z70.out _ hSw); (have y71 := Z71.out _ hSw); go_simp; first | done | (with_reducible rfl)
      simp only [Act.put, List.setIfInBounds_toArray, List.set_cons_zero, List.set_cons_succ]
      refine tkp 9 (some 64) (v := ?_) rfl (Or.inl ⟨by rfl, ?_⟩) (by assumption) ?_
      rotate_left
      · intro w hSw; (try dsimp only at hSw); (have y10 := Z10.out _ hSw); (have yt := ZT.out _ hSw); (have y70 := Z70.out _ hSw); (have y71 := Z71.out _ hSw); go_simp; first | done | (with_reducible rfl)
      simp only [Act.put, List.setIfInBounds_toArray, List.set_cons_zero, List.set_cons_succ]
      refine tkp 10 (some 65) (v := ?_) rfl (Or.inl ⟨by rfl, ?_⟩) (by assumption) ?_
      rotate_left
      · intro w hSw; (try dsimp only at hSw); (have y10 := Z10.out _ hSw); (have yt := ZT.out _ hSw); (have y70 := Z70.out _ hSw); (have y71 := Z71.out _ hSw); go_simp; first | done | (with_reducible rfl)
      simp only [Act.put, List.setIfInBounds_toArray, List.set_cons_zero, List.set_cons_succ]
      refine tkp 11 (some 66) (v := ?_) rfl (Or.inl ⟨by rfl, ?_⟩) (by assumption) ?_
      rotate_left
      · intro w hSw; (try dsimp only at hSw); (have y10 := Z10.out _ hSw); (have yt := ZT.out _ hSw); (have y70 := Z70.out _ hSw); (have y71 := Z71.out _ hSw); go_simp; first | done | (with_reducible rfl)
      simp only [Act.put, List.setIfInBounds_toArray, List.set_cons_zero, List.set_cons_succ]
      refine tkp 12 (some 67) (v := ?_) rfl (Or.inl ⟨by rfl, ?_⟩) (by assumption) ?_
      rotate_left
      · intro w hSw; (try dsimp only at hSw); (have y10 := Z10.out _ hSw); (have yt := ZT.out _ hSw); (have y70 := Z70.out _ hSw); (have y71 := Z71.out _ hSw); go_simp; first | done | (with_reducible rfl)
      simp only [Act.put, List.setIfInBounds_toArray, List.set_cons_zero, List.set_cons_succ]
      refine tkp 13 (some 68) (v := ?_) rfl (Or.inl ⟨by rfl, ?_⟩) (by assumption) ?_
      rotate_left
      · intro w hSw; (try dsimp only at hSw); (have y10 := Z10.out _ hSw); (have yt := ZT.out _ hSw); (have y70 := Z70.out _ hSw); (have y71 := Z71.out _ hSw); go_simp; first | done | (with_reducible rfl)
      simp only [Act.put, List.setIfInBounds_toArray, List.set_cons_zero, List.set_cons_succ]
      refine tkp 14 (some 69) (v := ?_) rfl (Or.inl ⟨by rfl, ?_⟩) (by assumption) ?_
      rotate_left
      · intro w hSw; (try dsimp only at hSw); (have y10 := Z10.out _ hSw); (have yt := ZT.out _ hSw); (have y70 := Z70.out _ hSw); (have y71 := Z71.out _ hSw); go_simp; first | done | (with_reducible rfl)
      simp only [Act.put, List.setIfInBounds_toArray, List.set_cons_zero, List.set_cons_succ]
      refine tkp 15 (some 70) (v := ?_) rfl (Or.inl ⟨by rfl, ?_⟩) (by assumption) ?_
      rotate_left
      · intro w hSw; (try dsimp only at hSw); (have y10 := Z10.out _ hSw); (have yt := ZT.out _ hSw); (have y70 := Z70.out _ hSw); (have y71 := Z71.out _ hSw); go_simp; first | done | (with_reducible rfl)
      simp only [Act.put, List.setIfInBounds_toArray, List.set_cons_zero, List.set_cons_succ]
      refine tkp 16 (some 71) (v := ?_) rfl (Or.inl ⟨by rfl, ?_⟩) (by assumption) ?_
      rotate_left
      · intro w hSw; (try dsimp only at hSw); (have y10 := Z10.out _ hSw); (have yt := ZT.out _ hSw); (have y70 := Z70.out _ hSw); (have y71 := Z71.out _ hSw); go_simp; first | done | (with_reducible rfl)
      simp only [Act.put, List.setIfInBounds_toArray, List.set_cons_zero, List.set_cons_succ]
      refine tkp 17 (some 72) (v := ?_) rfl (Or.inl ⟨by rfl, ?_⟩) (by assumption) ?_
      rotate_left
      · intro w hSw; (try dsimp only at hSw); (have y10 := Z10.out _ hSw); (have yt := ZT.out _ hSw); (have y70 := Z70.out _ hSw); (have y71 := Z71.out _ hSw); go_simp; first | done | (with_reducible rfl)
      simp only [Act.put, List.setIfInBounds_toArray, List.set_cons_zero, List.set_cons_succ]
      refine wpAnyH_ready (rs := [18]) (by kernel_rfl) (by simp) ?_
      refine AllReadyH.cons rfl (fun K hK => ?_) AllReadyH.nil
      go_simp
      go_wp2_with (fail)
      refine hK.out _ _ (hbY.alloc hbY.size _) (fun hHeld => ?_)
      clear hK K
      refine wpAnyH_ready (rs := [19]) (by kernel_rfl) (by simp) ?_
      refine AllReadyH.cons rfl (fun K hK => ?_) AllReadyH.nil
      go_simp
      go_wp2_with ((go_at_call 35; refine (rvs_new A' n' c' bc [a - b' - 1, b' - 1 - a'] _ 2 Y w.heap.size _ rfl HRX.out (by omega) rfl (by intro x hx; simp at hx; omega) rfl (by decide) (by decide) hYs).mono ?_; rintro e w5 ⟨A5, n5, a5, rfl, hn5, hO5, hR5, hB5⟩))
      refine hK.out _ _ (hbY.trans (hB5.mono hbY.size)) (fun hHeld => ?_)
      clear hK K
      refine tkp 20 (some 3) (v := ?_) rfl (Or.inl ⟨by rfl, ?_⟩) (by assumption) ?_
      rotate_left
      · intro w hSw; (try dsimp only at hSw); (have y10 := Z10.out _ hSw); (have yt := ZT.out _ hSw); (have y70 := Z70.out _ hSw); (have y71 := Z71.out _ hSw); go_simp; first | done | (with_reducible rfl)
      simp only [Act.put, List.setIfInBounds_toArray, List.set_cons_zero, List.set_cons_succ]
      refine wpAnyH_done (by kernel_rfl) ?_ _
      have hB6 : Below X.heap.size X w5 := hbY.trans (hB5.mono hbY.size)
      have hA5 := (hat.out.fr.below hb0 hg0r).below hB6 (by omega)
      have hB7 := hat.out.bl.trans ((hb0.trans (hB6.mono hb0.size)).mono hbs)
      have HI5 : Hid (RkAt w TOT rs (frL ⟨2, s, o, fin, l, c, f, q, y, c0, c1, c2, c3, c4, c5, c6, c7⟩ ⟨dA, dn, dc⟩ ⟨some ⟨b, off, none⟩, N + 1, rc⟩) A5 n5 a5 (bc ++ putL [a - b' - 1, b' - 1 - a']) t a' b' w5) := Lib.hid ⟨hO5, hR5, hn5, hB7, HXT.out, by rw [← hat.out.tot, HGT.out, putL_app, List.append_assoc], hA5⟩
      clear hat hO5 hR5 hn5 hB7 hA5 hB6 hB5 HRX Z10 ZT Z70 Z71 HGT HXT hw1 hw2 hw3 hw4 hix hb0
      go_wp2_with fail
      go_roundw
      case rel => exact ⟨t, A5, n5, a5, _, a', b', rfl, by rcases t with _ | t; exact .inl ⟨rfl, rfl⟩; exact .inr ⟨t, rfl, by go_num⟩, by omega, HI5⟩
      case measure => simp [intOf] <;> omega
theorem rone_any (P : Nat → Prop) (m : FN) (d r : Sl) (ds : List Int) (rs : RS) (w : World) (hf : Fits w P m d r ds rs) (hr : rightB m ds rs = true) : Calls Try.prog 12 #[frV m d r] w (VPost w.heap.size (oneS m ds rs) w) := by
  obtain ⟨k, s, o, fin, l, c, f, q, y, c0, c1, c2, c3, c4, c5, c6, c7⟩ := m
  obtain ⟨dA, dn, dc⟩ := d
  obtain ⟨rA, rn, rc⟩ := r
  rcases kind_cases k with rfl | rfl | rfl | rfl | rfl | rfl | rfl | rfl | rfl | rfl | rfl | rfl | rfl | rfl | rfl | rfl | rfl | ⟨e0, e1, e30, e2, e4, e5, e6, e8, e16, e18, e20, e17, e24, e25, e26, e27, e28⟩
  · exact rone_0 P s o l c f q y c0 c1 c2 c3 c4 c5 c6 c7 fin dA dn dc rA rn rc ds rs w hf hr
  · exact rone_1 P s o l c f q y c0 c1 c2 c3 c4 c5 c6 c7 fin dA dn dc rA rn rc ds rs w hf hr
  · exact rone_30 P s o l c f q y c0 c1 c2 c3 c4 c5 c6 c7 fin dA dn dc rA rn rc ds rs w hf hr
  · exact rone_2 P s o l c f q y c0 c1 c2 c3 c4 c5 c6 c7 fin dA dn dc rA rn rc ds rs w hf hr
  · exact rone_4 P s o l c f q y c0 c1 c2 c3 c4 c5 c6 c7 fin dA dn dc rA rn rc ds rs w hf hr
  · exact rone_5 P s o l c f q y c0 c1 c2 c3 c4 c5 c6 c7 fin dA dn dc rA rn rc ds rs w hf hr
  · exact rone_6 P s o l c f q y c0 c1 c2 c3 c4 c5 c6 c7 fin dA dn dc rA rn rc ds rs w hf hr
  · have o0 := hf.wf.o0
    simp only at o0
    rcases Int.lt_or_le 0 o with h | h
    · cases hfin : fin with
      | false => subst hfin; exact rone_8_14 P s o l c f q y c0 c1 c2 c3 c4 c5 c6 c7 false dA dn dc rA rn rc ds rs w hf hr rfl h
      | true => subst hfin; exact rone_8_15 P s o l c f q y c0 c1 c2 c3 c4 c5 c6 c7 true dA dn dc rA rn rc ds rs w hf hr rfl h
    · have h : o = 0 := by omega
      cases hfin : fin with
      | false => subst hfin; exact rone_8_10 P s o l c f q y c0 c1 c2 c3 c4 c5 c6 c7 false dA dn dc rA rn rc ds rs w hf hr rfl h
      | true => subst hfin; exact rone_8_11 P s o l c f q y c0 c1 c2 c3 c4 c5 c6 c7 true dA dn dc rA rn rc ds rs w hf hr rfl h
  · exact rone_16 P s o l c f q y c0 c1 c2 c3 c4 c5 c6 c7 fin dA dn dc rA rn rc ds rs w hf hr
  · exact rone_18 P s o l c f q y c0 c1 c2 c3 c4 c5 c6 c7 fin dA dn dc rA rn rc ds rs w hf hr
  · exact rone_20 P s o l c f q y c0 c1 c2 c3 c4 c5 c6 c7 fin dA dn dc rA rn rc ds rs w hf hr
  · exact rone_17 P s o l c f q y c0 c1 c2 c3 c4 c5 c6 c7 fin dA dn dc rA rn rc ds rs w hf hr
  · exact rone_24 P s o l c f q y c0 c1 c2 c3 c4 c5 c6 c7 fin dA dn dc rA rn rc ds rs w hf hr
  · exact rone_25 P s o l c f q y c0 c1 c2 c3 c4 c5 c6 c7 fin dA dn dc rA rn rc ds rs w hf hr
  · exact rone_26 P s o l c f q y c0 c1 c2 c3 c4 c5 c6 c7 fin dA dn dc rA rn rc ds rs w hf hr
  · exact rone_27 P s o l c f q y c0 c1 c2 c3 c4 c5 c6 c7 fin dA dn dc rA rn rc ds rs w hf hr
  · exact rone_28 P s o l c f q y c0 c1 c2 c3 c4 c5 c6 c7 fin dA dn dc rA rn rc ds rs w hf hr
  · rw [rightB_k k s o l c f q y c0 c1 c2 c3 c4 c5 c6 c7 fin ds rs e0 e1 e30 e2 e4 e5 e6 e8 e16 e18 e20 e17 e24 e25 e26 e27 e28] at hr
    cases hr
end Go.Proofs.Ytkahndjflhgccaa
