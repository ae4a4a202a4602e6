/-
  An Ack's ranges as they are written (frame.writeAck).
-/
import Derived.Test.YtahalbmcijbbmaaMq16
import Derived.IntWalk
namespace Go.Proofs.Ytahalbmcijbbmaa
set_option linter.unusedVariables false
set_option linter.unusedSimpArgs false
open Go.RowKit
theorem RgP.mono_lt {w w1 : World} {P P' : Nat → Prop} {n : Nat} {A : Option Addr} {rs : RS} (h : RgP w1 P A n rs) (h0 : RgP w P A n rs) (hp : ∀ b, b < w.heap.size → P b → P' b) : RgP w1 P' A n rs :=
  ⟨h.1, h.2.1, fun hn => by
    obtain ⟨b, off, e, hb, hp', hc⟩ := h.2.2 hn
    obtain ⟨b2, off2, e2, hb2, hp2, _⟩ := h0.2.2 hn
    rw [e] at e2
    injection e2 with e2
    injection e2 with e3 e4
    exact ⟨b, off, e, hb, hp b (by omega) hp', hc⟩⟩
def agapV : Int → RS → List Int
  | _, [] => []
  | lo, (a, b) :: t => (lo - b - 1) :: (b - 1 - a) :: agapV a t
def ackV (y : Int) (rs : RS) : List Int :=
  match rs.reverse with
  | [] => []
  | (lo, hi) :: t => [hi - 1, y, (rs.length : Int) - 1, hi - 1 - lo] ++ agapV lo t
theorem steps_get : ∀ (rs : RS) (p : Int), stepsOK p rs = true → ∀ (i : Nat) (r : Int × Int), rs[i]? = some r → (if i = 0 then p else (rs.getD (i - 1) (0, 0)).2) < r.1 ∧ r.1 < r.2
  | [], p, h, i, r, hr => by simp at hr
  | (a, b) :: t, p, h, 0, r, hr => by
    simp at hr
    subst hr
    simp [stepsOK] at h
    exact ⟨by simpa using h.1.1, h.1.2⟩
  | (a, b) :: t, p, h, i + 1, r, hr => by
    simp [stepsOK] at h
    have := steps_get t b h.2 i r (by simpa using hr)
    refine ⟨?_, this.2⟩
    rw [if_neg (by omega), Nat.add_sub_cancel]
    cases i with
    | zero => simpa using this.1
    | succ j => simpa using this.1
theorem rr_all (rs : RS) (h : rrB rs = true) : (1 ≤ rs.length ∧ rs.length ≤ 16) ∧ stepsOK (-1) rs = true ∧ lastHi rs ≤ 4611686018427387904 := by
  unfold rrB at h
  simp at h
  exact ⟨⟨h.1.1.1, h.1.1.2⟩, h.1.2, h.2⟩
/-- Each range is at most the last one. -/
theorem steps_le (rs : RS) (p : Int) (h : stepsOK p rs = true) : ∀ (i : Nat) (r : Int × Int), rs[i]? = some r → r.2 ≤ lastHi rs := by
  intro i r hr
  have hi := (List.getElem?_eq_some_iff.1 hr).1
  obtain ⟨n, hn⟩ : ∃ n, rs.length = n + 1 := ⟨rs.length - 1, by omega⟩
  obtain ⟨x, hx⟩ : ∃ x, rs[n]? = some x := ⟨_, List.getElem?_eq_getElem (by omega)⟩
  rw [lastHi_get rs n hn x hx]
  have key : ∀ (j : Nat) (r' : Int × Int), rs[i + j]? = some r' → r.2 ≤ r'.2 := by
    intro j
    induction j with
    | zero => intro r' h'; rw [Nat.add_zero, hr] at h'; injection h' with h'; rw [h']; exact Int.le_refl _
    | succ j ih =>
      intro r' h'
      have hl := (List.getElem?_eq_some_iff.1 h').1
      obtain ⟨x2, hx2⟩ : ∃ x, rs[i + j]? = some x := ⟨_, List.getElem?_eq_getElem (by omega)⟩
      have h1 := ih x2 hx2
      have h2 := steps_get rs p h (i + (j + 1)) r' h'
      rw [if_neg (by omega), show i + (j + 1) - 1 = i + j by omega, List.getD_eq_getElem?_getD, hx2] at h2
      have h3 : x2.2 < r'.1 := h2.1
      omega
  have := key (n - i) x (by rw [show i + (n - i) = n by omega]; exact hx)
  exact this
theorem ack_last (y : Int) (rs : RS) (N : Nat) (hn : rs.length = N + 1) (r : Int × Int) (hr : rs[N]? = some r) : ackV y rs = [r.2 - 1, y, (N : Int), r.2 - 1 - r.1] ++ agapV r.1 (rs.take N).reverse := by
  have h1 : rs = rs.take N ++ [r] := by
    have h2 : rs.take (N + 1) = rs.take N ++ [r] := by
      obtain ⟨hk, e⟩ := List.getElem?_eq_some_iff.1 hr
      rw [List.take_succ_eq_append_getElem hk, e]
    rw [← h2, List.take_of_length_le (by omega)]
  have h2 : rs.reverse = r :: (rs.take N).reverse := by
    conv => lhs; rw [h1]
    simp
  unfold ackV
  rw [h2]
  obtain ⟨a, b⟩ := r
  rw [hn]
  simp
theorem agap_step (lo : Int) (rs : RS) (j : Nat) (r : Int × Int) (hr : rs[j]? = some r) : agapV lo (rs.take (j + 1)).reverse = [lo - r.2 - 1, r.2 - 1 - r.1] ++ agapV r.1 (rs.take j).reverse := by
  obtain ⟨hk, e⟩ := List.getElem?_eq_some_iff.1 hr
  rw [List.take_succ_eq_append_getElem hk, e, List.reverse_append]
  obtain ⟨a, b⟩ := r
  rfl
theorem putL_app (a b : List Int) : putL (a ++ b) = putL a ++ putL b := by unfold putL; exact List.flatMap_append
theorem gapV_len : ∀ (rs : RS) (lo : Int), (agapV lo rs).length = 2 * rs.length
  | [], lo => rfl
  | (a, b) :: t, lo => by simp [agapV, gapV_len t a]; omega
theorem ackV_len (y : Int) (rs : RS) : (ackV y rs).length ≤ 4 + 2 * rs.length := by
  unfold ackV
  split
  · simp
  · next lo hi t e =>
    have : rs.length = t.length + 1 := by rw [← List.length_reverse, e]; simp
    simp [gapV_len]; omega
/-- What the loop keeps. -/
structure AckAt (w : World) (M base p : Nat) (T : TypeId) (v : Value) (tot : List Int) (rs : RS) (g0 g5 : Nat) (L0 : List Value) (v' : Value) (bc : List Int) (j : Nat) (a b : Int) (wr : World) : Prop where
  st : WSx w M base p T v v' bc wr
  get : rs[j]? = some (a, b)
  tot : bc ++ putL (agapV a (rs.take j).reverse) = tot
  lo : At wr g5 99 [.int .u64 a, .int .u64 b]
  fr : At wr g0 46 L0
set_option maxRecDepth 100000 in
set_option maxHeartbeats 2000000 in
theorem wack_any (P : Nat → Prop) (base p : Nat) (T : TypeId) (v : Value) (bs : List Int) (m : FN) (d r : Sl) (rs : RS) (w : World) (h : Wtr w base p T v bs) (hl : bs.length ≤ 1000000000000) (hr : InR w (fun b => ¬ WS p v b) r rs) (hrr : rrB rs = true)
    (hy0 : 0 ≤ m.y) (hy1 : m.y ≤ 4611686018427387903) (hbase : base ≤ w.heap.size) :
    Calls Try.prog 49 #[.pointer (some ⟨p, 0, none⟩), frV m d r] w (WPost (.tuple #[]) w base p T v (bs ++ putL (ackV m.y rs))) := by
  obtain ⟨⟨h1, h16⟩, hst, hlast⟩ := rr_all rs hrr
  obtain ⟨N, hN⟩ : ∃ N, rs.length = N + 1 := ⟨rs.length - 1, by omega⟩
  have hN15 : N ≤ 15 := by omega
  obtain ⟨hrd, hnc, hcm, _⟩ := hr
  obtain ⟨A, n, c⟩ := r
  simp only at hrd hnc hcm
  obtain ⟨hlen, hbd, hcell⟩ := hrd
  obtain rfl : n = N + 1 := by omega
  obtain ⟨b, off, rfl, hb, hP, hc⟩ := hcell (by omega)
  have hget : ∀ (j : Nat) (x : Int × Int), rs[j]? = some x → 0 ≤ x.1 ∧ x.1 < x.2 ∧ x.2 ≤ 4611686018427387904 := fun j x hx => by
    have a1 := (hbd x (List.mem_of_getElem? hx)).1
    have a2 := (steps_get rs (-1) hst j x hx).2
    have a3 := steps_le rs (-1) hst j x hx
    exact ⟨a1, a2, by omega⟩
  have hgap : ∀ (j : Nat) (x x2 : Int × Int), rs[j]? = some x → rs[j + 1]? = some x2 → x.2 < x2.1 := fun j x x2 hx hx2 => by
    have := (steps_get rs (-1) hst (j + 1) x2 hx2).1
    rw [if_neg (by omega), Nat.add_sub_cancel, List.getD_eq_getElem?_getD, hx] at this
    exact this
  obtain ⟨x, hx⟩ : ∃ x, rs[N]? = some x := ⟨_, List.getElem?_eq_getElem (by omega)⟩
  obtain ⟨lo, hi⟩ := x
  have hA := ack_last m.y rs N hN (lo, hi) hx
  have hgx := hget N (lo, hi) hx
  simp only at hgx hA
  obtain ⟨hg0, hg1, hg2⟩ := hgx
  have HGET := Lib.hid hget
  have HGAP := Lib.hid hgap
  have HC := Lib.hid hc
  have HN := Lib.hid hN
  have HW := Lib.hid h
  have HA := Lib.hid hA
  have HX := Lib.hid hx
  have hW := h
  clear hget hgap hc hN hA hx hst hrr hbd hcell hlen hlast h h1 h16
  unfold maxLen at hcm
  obtain ⟨k, s, o, fin, l, cc, f, q, y, c0, c1, c2, c3, c4, c5, c6, c7⟩ := m
  obtain ⟨dA, dn, dc⟩ := d
  simp only [frV, frL]
  simp only at hy0 hy1 HA
  have hbg : b ≠ w.heap.size := by omega
  have ca : w.cell? ⟨b, off + N * 2, none⟩ = some (.int .u64 lo) := (HC.out N (lo, hi) HX.out).1
  have cb : w.cell? ⟨b, off + N * 2 + 1, none⟩ = some (.int .u64 hi) := (HC.out N (lo, hi) HX.out).2
  go_enter Try.func49, Try.ntmps49
  go_wp2_with fail
  have hM : w.heap.size ≤ w.heap.size + 1 + 1 := by omega
  have hx0 : WSx w (w.heap.size + 1 + 1) base p T v v bs ((w.alloc (.cells #[.int .i64 k, .int .u64 s, .int .u64 o, .slice dA dn dc, .bool fin, .int .u64 l, .int .u64 cc, .int .u64 f, .int .u64 q, .int .u64 y, .slice (some ⟨b, off, none⟩) (N + 1) c,
      .int .u8 c0, .int .u8 c1, .int .u8 c2, .int .u8 c3, .int .u8 c4, .int .u8 c5, .int .u8 c6, .int .u8 c7] 46)).alloc (.cells #[.int .u64 lo, .int .u64 hi] 99)) := by
    have := WSx.refl hW (((Below.refl w.heap.size w).alloc (Nat.le_refl _) (.cells #[.int .i64 k, .int .u64 s, .int .u64 o, .slice dA dn dc, .bool fin, .int .u64 l, .int .u64 cc, .int .u64 f, .int .u64 q, .int .u64 y, .slice (some ⟨b, off, none⟩) (N + 1) c,
      .int .u8 c0, .int .u8 c1, .int .u8 c2, .int .u8 c3, .int .u8 c4, .int .u8 c5, .int .u8 c6, .int .u8 c7] 46)).alloc (by simp) (.cells #[.int .u64 lo, .int .u64 hi] 99))
    simpa using this
  have hg0 : At ((w.alloc (.cells #[.int .i64 k, .int .u64 s, .int .u64 o, .slice dA dn dc, .bool fin, .int .u64 l, .int .u64 cc, .int .u64 f, .int .u64 q, .int .u64 y, .slice (some ⟨b, off, none⟩) (N + 1) c,
      .int .u8 c0, .int .u8 c1, .int .u8 c2, .int .u8 c3, .int .u8 c4, .int .u8 c5, .int .u8 c6, .int .u8 c7] 46)).alloc (.cells #[.int .u64 lo, .int .u64 hi] 99)) w.heap.size 46 [.int .i64 k, .int .u64 s, .int .u64 o, .slice dA dn dc, .bool fin, .int .u64 l, .int .u64 cc, .int .u64 f, .int .u64 q, .int .u64 y, .slice (some ⟨b, off, none⟩) (N + 1) c,
      .int .u8 c0, .int .u8 c1, .int .u8 c2, .int .u8 c3, .int .u8 c4, .int .u8 c5, .int .u8 c6, .int .u8 c7] := (At.new w _ _).alloc _
  have hg5 : At ((w.alloc (.cells #[.int .i64 k, .int .u64 s, .int .u64 o, .slice dA dn dc, .bool fin, .int .u64 l, .int .u64 cc, .int .u64 f, .int .u64 q, .int .u64 y, .slice (some ⟨b, off, none⟩) (N + 1) c,
      .int .u8 c0, .int .u8 c1, .int .u8 c2, .int .u8 c3, .int .u8 c4, .int .u8 c5, .int .u8 c6, .int .u8 c7] 46)).alloc (.cells #[.int .u64 lo, .int .u64 hi] 99)) (w.heap.size + 1) 99 [.int .u64 lo, .int .u64 hi] := At.new_ _ _ _ (by simp)
  obtain ⟨w0, hw0⟩ : ∃ w0, (w.alloc (.cells #[.int .i64 k, .int .u64 s, .int .u64 o, .slice dA dn dc, .bool fin, .int .u64 l, .int .u64 cc, .int .u64 f, .int .u64 q, .int .u64 y, .slice (some ⟨b, off, none⟩) (N + 1) c,
      .int .u8 c0, .int .u8 c1, .int .u8 c2, .int .u8 c3, .int .u8 c4, .int .u8 c5, .int .u8 c6, .int .u8 c7] 46)).alloc (.cells #[.int .u64 lo, .int .u64 hi] 99) = w0 := ⟨_, rfl⟩
  have hsz : w0.heap.size = w.heap.size + 1 + 1 := by rw [← hw0]; simp
  rw [hw0] at hx0 hg0 hg5 ⊢
  clear hw0 ca cb
  have hn0 := hW.not_new (g := w.heap.size) (Nat.le_refl _)
  have hn5 := hW.not_new (g := w.heap.size + 1) (by omega)
  have hU := UsP.new w0 (fun b => ¬ WS p v b) 22 [hi - 1, y, (N : Int), hi - 1 - lo] (by intro x hx; simp at hx; omega) _ rfl (w.heap.size + 1 + 1) hsz.symm (hx0.1.not_new (by omega))
  have hx1 := hx0.alloc (.cells #[.int .u64 (hi - 1), .int .u64 y, .int .u64 (N : Int), .int .u64 (hi - 1 - lo)] 22)
  have hg01 := hg0.alloc (.cells #[.int .u64 (hi - 1), .int .u64 y, .int .u64 (N : Int), .int .u64 (hi - 1 - lo)] 22)
  have hg51 := hg5.alloc (.cells #[.int .u64 (hi - 1), .int .u64 y, .int .u64 (N : Int), .int .u64 (hi - 1 - lo)] 22)
  refine (wvars_any base p T v bs [hi - 1, y, (N : Int), hi - 1 - lo] _ 4 4 _ hx1.1 (by omega) (by omega) (by omega) hU (by intro x hx; simp at hx; omega) (by have := hx1.2.2.2; omega)).mono ?_
  rintro e w2 hw2
  obtain ⟨v1, rfl, hx2, hk2⟩ := hx1.step hM hw2
  have hgf := hg01.kept hk2 hn0
  have hgr := hg51.kept hk2 hn5
  have HX2 := Lib.hid hx2
  have HGF := Lib.hid hgf
  have HGR := Lib.hid hgr
  have HW0 := Lib.hid hW
  clear hx0 hx1 hg0 hg5 hg01 hg51 hU hx2 hgf hgr hk2 hsz hW hw2
  have HTOT := Lib.hid (show bs ++ putL [hi - 1, y, (N : Int), hi - 1 - lo] ++ putL (agapV lo (rs.take N).reverse) = bs ++ putL (ackV y rs) by rw [HA.out, putL_app, List.append_assoc])
  have htl : (bs ++ putL (ackV y rs)).length ≤ 10000000000 * 1000 := by
    have h1 := putL_len (ackV y rs)
    have h2 := ackV_len y rs
    rw [HN.out] at h2
    rw [List.length_append]
    omega
  obtain ⟨TOT, hTOT⟩ : ∃ x, bs ++ putL (ackV y rs) = x := ⟨_, rfl⟩
  rw [hTOT] at htl HTOT
  have HTE := Lib.hid hTOT.symm
  clear hTOT
  have HI : Hid (AckAt w (w.heap.size + 1 + 1) base p T v TOT rs w.heap.size (w.heap.size + 1) [.int .i64 k, .int .u64 s, .int .u64 o, .slice dA dn dc, .bool fin, .int .u64 l, .int .u64 cc, .int .u64 f, .int .u64 q, .int .u64 y, .slice (some ⟨b, off, none⟩) (N + 1) c,
      .int .u8 c0, .int .u8 c1, .int .u8 c2, .int .u8 c3, .int .u8 c4, .int .u8 c5, .int .u8 c6, .int .u8 c7] v1 (bs ++ putL [hi - 1, y, (N : Int), hi - 1 - lo]) N lo hi w2) := Lib.hid ⟨HX2.out, HX.out, HTOT.out, HGR.out, HGF.out⟩
  clear HX HTOT HGF HGR HA
  have HX2b := HX2
  clear HX2
  have hsz2 : w.heap.size + 1 + 1 ≤ w2.heap.size := HX2b.out.2.2.2
  clear HX2b
  obtain ⟨bc0, hbc0⟩ : ∃ x, bs ++ putL [hi - 1, y, (N : Int), hi - 1 - lo] = x := ⟨_, rfl⟩
  rw [hbc0] at HI
  clear hbc0
  go_wp2_with fail
  go_loopw [6] (fun i wr => ∃ (j : Nat) (v' : Value) (bc : List Int) (a b2 : Int), ((i = .int .i64 (-1) ∧ j = 0) ∨ ∃ t : Nat, j = t + 1 ∧ i = .int .i64 (t : Int)) ∧ j ≤ 15 ∧ Hid (AckAt w (w.heap.size + 1 + 1) base p T v TOT rs w.heap.size (w.heap.size + 1) [.int .i64 k, .int .u64 s, .int .u64 o, .slice dA dn dc, .bool fin, .int .u64 l, .int .u64 cc, .int .u64 f, .int .u64 q, .int .u64 y, .slice (some ⟨b, off, none⟩) (N + 1) c,
      .int .u8 c0, .int .u8 c1, .int .u8 c2, .int .u8 c3, .int .u8 c4, .int .u8 c5, .int .u8 c6, .int .u8 c7] v' bc j a b2 wr)) (fun i _ => (intOf i + 1).toNat)
  case atStart =>
    refine ⟨N, v1, _, lo, hi, ?_, hN15, HI⟩
    rcases N with _ | N
    · exact .inl ⟨rfl, rfl⟩
    · exact .inr ⟨N, rfl, by go_num⟩
  case round =>
    obtain ⟨j, v', bc, a, b2, hij, hj15, hat⟩ := hrel
    have hst := hat.out.st
    have hbl : bc.length ≤ 10000000000000 := by
      have := hat.out.tot
      rw [← this, List.length_append] at htl
      omega
    have e10 := hat.out.fr.cell 10
    have r0 := hat.out.lo.cell 0
    have r1 := hat.out.lo.cell 1
    simp only [List.getElem?_cons_succ, List.getElem?_cons_zero] at e10 r0 r1
    have hMs := hst.2.2.2
    rcases hij with ⟨rfl, rfl⟩ | ⟨t, rfl, rfl⟩
    · have hfin : Hid (bc = TOT) := Lib.hid (by simpa [agapV, putL] using hat.out.tot)
      go_wp2_with fail
      go_end0
      have := hst.post hM (.tuple #[])
      rw [hfin.out, HTE.out] at this
      exact this
    · obtain ⟨x, hx⟩ : ∃ x, rs[t]? = some x := ⟨_, List.getElem?_eq_getElem (by have := (List.getElem?_eq_some_iff.1 hat.out.get).1; omega)⟩
      obtain ⟨a', b'⟩ := x
      have htn : t < N := by have := (List.getElem?_eq_some_iff.1 hat.out.get).1; rw [HN.out] at this; omega
      have hti : (t : Int) < (N : Int) + 1 := by omega
      have hl5 : w.heap.size + 1 < wr.heap.size := by omega
      have hl0 : w.heap.size < wr.heap.size := by omega
      have hlb : b < wr.heap.size := by omega
      have hq := HGET.out t (a', b') hx
      have hq2 := HGET.out (t + 1) (a, b2) hat.out.get
      have hgp := HGAP.out t (a', b') (a, b2) hx hat.out.get
      simp only at hq hq2 hgp
      obtain ⟨q0, q1, q2⟩ := hq
      obtain ⟨q3, q4, q5⟩ := hq2
      have ca : wr.cell? ⟨b, off + t * 2, none⟩ = some (.int .u64 a') := (hst.2.2.1.cell (p := ⟨b, _, none⟩) hb hP).trans (HC.out t (a', b') hx).1
      have cb : wr.cell? ⟨b, off + t * 2 + 1, none⟩ = some (.int .u64 b') := (hst.2.2.1.cell (p := ⟨b, _, none⟩) hb hP).trans (HC.out t (a', b') hx).2
      have HGT := Lib.hid (agap_step a rs t (a', b') hx)
      have HXT := Lib.hid hx
      have hpw := hst.1.1.lt
      clear hx
      go_wp2_with fail
      have hst1 := hst.alloc (.cells #[.int .u64 a', .int .u64 b'] 99)
      have hst2 := hst1.alloc (.cells #[.int .u64 (a - b' - 1), .int .u64 (b' - 1 - a')] 22)
      have hnew := hst1.1.not_new (g := wr.heap.size + 1) (by simp)
      have hnew7 := hst.1.not_new (g := wr.heap.size) (Nat.le_refl _)
      have hU := UsP.new (wr.alloc (.cells #[.int .u64 a', .int .u64 b'] 99)) (fun b => ¬ WS p v' b) 22 [a - b' - 1, b' - 1 - a'] (by intro x hx; simp at hx; omega) _ rfl (wr.heap.size + 1) (by simp) hnew
      have f5 := (hat.out.lo.alloc (.cells #[.int .u64 a', .int .u64 b'] 99)).alloc (.cells #[.int .u64 (a - b' - 1), .int .u64 (b' - 1 - a')] 22)
      have f0 := (hat.out.fr.alloc (.cells #[.int .u64 a', .int .u64 b'] 99)).alloc (.cells #[.int .u64 (a - b' - 1), .int .u64 (b' - 1 - a')] 22)
      have f7 := (At.new wr 99 [.int .u64 a', .int .u64 b']).alloc (.cells #[.int .u64 (a - b' - 1), .int .u64 (b' - 1 - a')] 22)
      refine (wvars_any base p T v' bc [a - b' - 1, b' - 1 - a'] _ 2 2 _ hst2.1 hbl (by omega) (by omega) hU (by intro x hx; simp at hx; omega) (by have := hst2.2.2.2; omega)).mono ?_
      rintro e w5 hw5
      obtain ⟨v2, rfl, hs5, hk5⟩ := hst2.step hM hw5
      have g5 := f5.kept hk5 (hst.apart (by omega) hn5)
      have g0 := f0.kept hk5 (hst.apart (by omega) hn0)
      have g7 := f7.kept hk5 hnew7
      have s0 := g7.cell 0
      have s1 := g7.cell 1
      have d0 := g5.cell 0
      have d1 := g5.cell 1
      have y0 := g5.frozen 0
      have y1 := g5.frozen 1
      simp only [List.getElem?_cons_succ, List.getElem?_cons_zero] at s0 s1 d0 d1
      have hFin : Hid (AckAt w (w.heap.size + 1 + 1) base p T v TOT rs w.heap.size (w.heap.size + 1) _ v2 (bc ++ putL [a - b' - 1, b' - 1 - a']) t a' b' ((w5.setCell ⟨w.heap.size + 1, 0, none⟩ (.int .u64 a')).setCell ⟨w.heap.size + 1, 1, none⟩ (.int .u64 b'))) := Lib.hid
        ⟨(hs5.cell (by omega) (by omega) hn5 0 _).cell (by omega) (by omega) hn5 1 _, HXT.out, by rw [← hat.out.tot, HGT.out, putL_app, List.append_assoc], (g5.set 0 _).set 1 _, (g0.set_other (q := ⟨w.heap.size + 1, 0, none⟩) (by simp) _).set_other (q := ⟨w.heap.size + 1, 1, none⟩) (by simp) _⟩
      clear hU f5 f0 f7 hst1 hst2 hs5 hk5 g5 g0 g7 hnew hnew7 hw5 hat hst ca cb e10 r0 r1
      go_wp2_with fail
      go_roundw
      case rel => first | exact ⟨t, v2, _, a', b', by rcases t with _ | t; exact .inl ⟨rfl, rfl⟩; exact .inr ⟨t, rfl, by go_num⟩, by omega, hFin⟩
      case measure => simp [intOf] <;> omega
end Go.Proofs.Ytahalbmcijbbmaa
