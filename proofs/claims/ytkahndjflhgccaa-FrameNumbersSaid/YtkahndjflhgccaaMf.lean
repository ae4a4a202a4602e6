/-
  How a frame's Kind is written; numbers one behind the other (frame.writtenKind, writeVars).
-/
import Derived.Test.YtkahndjflhgccaaMe
import Derived.Test.YtkahndjflhgccaaMd
import Derived.IntWalk
namespace Go.Proofs.Ytkahndjflhgccaa
section
set_option linter.unusedVariables false
set_option linter.unusedSimpArgs false
open Go.RowKit
/-- The slice value with address A and n elements reads as the numbers xs, which are small, in a block that P allows. -/
def UsP (w : World) (P : Nat → Prop) (A : Option Addr) (n : Nat) (xs : List Int) : Prop :=
  xs.length = n ∧ (∀ x ∈ xs, 0 ≤ x ∧ x < 18446744073709551616) ∧ (0 < n → ∃ b off, A = some ⟨b, off, none⟩ ∧ b < w.heap.size ∧ P b ∧ ∀ i x, xs[i]? = some x → w.cell? ⟨b, off + i, none⟩ = some (.int .u64 x))
theorem UsP.kept {S P : Nat → Prop} {w w' : World} {n : Nat} {A : Option Addr} {xs : List Int} (h : UsP w P A n xs) (k : Kept S w w') (hs : ∀ b, P b → ¬ S b) : UsP w' P A n xs := by
  refine ⟨h.1, h.2.1, fun hn => ?_⟩
  obtain ⟨b, off, e, hb, hp, hc⟩ := h.2.2 hn
  refine ⟨b, off, e, Nat.lt_of_lt_of_le hb k.size, hp, fun i r hr => ?_⟩
  rw [k.cell (p := ⟨b, _, none⟩) hb (hs b hp)]
  exact hc i r hr
theorem UsP.new (w : World) (P : Nat → Prop) (T : TypeId) (xs : List Int) (hx : ∀ x ∈ xs, 0 ≤ x ∧ x < 18446744073709551616) (cs : Array Value) (hcs : cs = (xs.map (Value.int .u64)).toArray) (g : Nat) (hg : g = w.heap.size) (hP : P g) :
    UsP (w.alloc (.cells cs T)) P (some ⟨g, 0, none⟩) xs.length xs := by
  subst hcs; subst hg
  refine ⟨rfl, hx, fun _ => ⟨_, 0, rfl, by simp, hP, fun i x hi => ?_⟩⟩
  have := (At.new w T (xs.map (Value.int .u64))).cell i
  rw [Nat.zero_add, this, List.getElem?_map, hi]; rfl
def putL (xs : List Int) : List Int := xs.flatMap putS
theorem putL_take (xs : List Int) (k : Nat) (x : Int) (h : xs[k]? = some x) : putL (xs.take (k + 1)) = putL (xs.take k) ++ putS x := by
  obtain ⟨hk, e⟩ := List.getElem?_eq_some_iff.1 h
  unfold putL
  rw [List.take_succ_eq_append_getElem hk, List.flatMap_append, e]; simp
theorem putL_len (xs : List Int) : (putL xs).length ≤ 8 * xs.length := by
  induction xs with
  | nil => simp [putL]
  | cons x t ih =>
    unfold putL at *
    rw [List.flatMap_cons, List.length_append, putS_len, List.length_cons]
    have := size_le x
    omega
set_option maxRecDepth 100000 in
set_option maxHeartbeats 1000000 in
theorem wvars_any (base p : Nat) (T : TypeId) (v : Value) (bs xs : List Int) (A : Option Addr) (n c : Nat) (w : World) (h : Wtr w base p T v bs) (hl : bs.length ≤ 10000000000000) (hn : n ≤ 10) (hnc : n ≤ c) (hr : UsP w (fun b => ¬ WS p v b) A n xs) (hx : ∀ x ∈ xs, x ≤ 4611686018427387903) (hbase : base ≤ w.heap.size) :
    Calls Try.prog 64 #[.pointer (some ⟨p, 0, none⟩), .slice A n c] w (WPost (.tuple #[]) w base p T v (bs ++ putL xs)) := by
  have HL := Lib.hid hr.1
  have HX := Lib.hid hx
  have HR := Lib.hid hr
  have HW := Lib.hid h
  clear hx hr h
  go_enter Try.func64, Try.ntmps64
  go_wp2
  go_loopw [8] (fun i wr => ∃ (k : Nat) (v' : Value), k ≤ n ∧ i = .int .i64 k ∧ Hid (WSt w base p T v v' (bs ++ putL (xs.take k)) wr)) (fun i _ => n - (intOf i).toNat)
  case atStart => exact ⟨0, v, by omega, rfl, Lib.hid (by simpa [putL] using WSt.refl HW.out)⟩
  case round =>
    obtain ⟨k, v', hk, rfl, hst⟩ := hrel
    by_cases hlt : k < n
    · obtain ⟨b, off, rfl, hb, hP, hc⟩ := HR.out.2.2 (by omega)
      obtain ⟨x, hx⟩ : ∃ x, xs[k]? = some x := ⟨_, List.getElem?_eq_getElem (by rw [HL.out]; exact hlt)⟩
      have hxm := List.mem_of_getElem? hx
      have hx0 := (HR.out.2.1 x hxm).1
      have hx1 := HX.out x hxm
      have ck : wr.cell? ⟨b, off + k, none⟩ = some (.int .u64 x) := (hst.out.2.2.cell (p := ⟨b, _, none⟩) hb hP).trans (hc k x hx)
      have hpl := putL_len (xs.take k)
      have htl := List.length_take_le k xs
      have hlen : (bs ++ putL (xs.take k)).length ≤ 100000000000000 := by rw [List.length_append]; omega
      have hbs : base ≤ wr.heap.size := Nat.le_trans hbase hst.out.2.2.size
      have HT := Lib.hid (putL_take xs k x hx)
      have hc0 : n ≤ c := hnc
      clear hc hx hpl htl
      go_wp2_with fail
      refine (wvar_yes base p T v' _ x wr hst.out.1 hlen hx0 hx1 hbs).mono ?_
      rintro e w2 hw2
      obtain ⟨v2, rfl, hst2⟩ := hst.out.step hw2
      go_wp2_with fail
      go_roundw
      case rel => exact ⟨k + 1, v2, by omega, by go_num, Lib.hid (by rw [HT.out, ← List.append_assoc]; exact hst2)⟩
      case measure => simp [intOf]; omega
    · obtain rfl : k = n := by omega
      have HT := Lib.hid (show putL (xs.take k) = putL xs by rw [List.take_of_length_le (by rw [HL.out]; exact Nat.le_refl _)])
      go_wp2_with fail
      go_end0
      have := hst.out.post (.tuple #[])
      rw [HT.out] at this
      exact this
def wkS (m : FN) : Int := if m.k = 8 then 10 + (if 0 < m.o then 4 else 0) + (if m.fin then 1 else 0) else m.k
set_option maxRecDepth 100000 in
theorem wk_any (m : FN) (d r : Sl) (w : World) (hk0 : 0 ≤ m.k) (hk1 : m.k ≤ 30) (ho : 0 ≤ m.o) : Calls Try.prog 62 #[frV m d r] w (FrPost (.int .u64 (wkS m)) w) := by
  obtain ⟨k, s, o, fin, l, c, f, q, y, c0, c1, c2, c3, c4, c5, c6, c7⟩ := m
  obtain ⟨dA, dn, dc⟩ := d
  obtain ⟨rA, rn, rc⟩ := r
  simp only [frV, frL]
  simp only at hk0 hk1 ho
  have hb : Below w.heap.size w (w.alloc (.cells #[.int .i64 k, .int .u64 s, .int .u64 o, .slice dA dn dc, .bool fin, .int .u64 l, .int .u64 c, .int .u64 f, .int .u64 q, .int .u64 y, .slice rA rn rc,
      .int .u8 c0, .int .u8 c1, .int .u8 c2, .int .u8 c3, .int .u8 c4, .int .u8 c5, .int .u8 c6, .int .u8 c7] 31)) := (Below.refl _ _).alloc (Nat.le_refl _) _
  have HB := Lib.hid hb; clear hb
  by_cases hk : k = 8
  · subst hk
    rcases Int.lt_or_le 0 o with ho1 | ho1
    · have hd : decide (0 < o) = true := by simpa using ho1
      cases fin
      · have HG := Lib.hid (show wkS ⟨8, s, o, false, l, c, f, q, y, c0, c1, c2, c3, c4, c5, c6, c7⟩ = 14 from by simp [wkS, ho1])
        go_enter Try.func62, Try.ntmps62
        go_wp2
        go_ret
        exact ⟨by rw [HG.out]; rfl, HB.out⟩
      · have HG := Lib.hid (show wkS ⟨8, s, o, true, l, c, f, q, y, c0, c1, c2, c3, c4, c5, c6, c7⟩ = 15 from by simp [wkS, ho1])
        go_enter Try.func62, Try.ntmps62
        go_wp2
        go_ret
        exact ⟨by rw [HG.out]; rfl, HB.out⟩
    · have hd : decide (0 < o) = false := by simpa using ho1
      cases fin
      · have HG := Lib.hid (show wkS ⟨8, s, o, false, l, c, f, q, y, c0, c1, c2, c3, c4, c5, c6, c7⟩ = 10 from by simp [wkS, show ¬ 0 < o by omega])
        go_enter Try.func62, Try.ntmps62
        go_wp2
        go_ret
        exact ⟨by rw [HG.out]; rfl, HB.out⟩
      · have HG := Lib.hid (show wkS ⟨8, s, o, true, l, c, f, q, y, c0, c1, c2, c3, c4, c5, c6, c7⟩ = 11 from by simp [wkS, show ¬ 0 < o by omega])
        go_enter Try.func62, Try.ntmps62
        go_wp2
        go_ret
        exact ⟨by rw [HG.out]; rfl, HB.out⟩
  · have HG := Lib.hid (show wkS ⟨k, s, o, fin, l, c, f, q, y, c0, c1, c2, c3, c4, c5, c6, c7⟩ = k from by unfold wkS; rw [if_neg hk])
    have hk' : (k != 8) = true := by simpa using hk
    go_enter Try.func62, Try.ntmps62
    go_wp2
    go_ret
    exact ⟨by rw [HG.out]; rfl, HB.out⟩
end
section
set_option linter.unusedVariables false
set_option linter.unusedSimpArgs false
open Go.RowKit
theorem RgP.mono_lt {w w1 : World} {P P' : Nat → Prop} {n : Nat} {A : Option Addr} {rs : RS} (h : RgP w1 P A n rs) (h0 : RgP w P A n rs) (hp : ∀ b, b < w.heap.size → P b → P' b) : RgP w1 P' A n rs :=
  ⟨h.1, h.2.1, fun hn => by
    obtain ⟨b, off, e, hb, hp', hc⟩ := h.2.2 hn
    obtain ⟨b2, off2, e2, hb2, hp2, _⟩ := h0.2.2 hn
    rw [e] at e2
    injection e2 with e2
    injection e2 with e3 e4
    exact ⟨b, off, e, hb, hp b (by omega) hp', hc⟩⟩
def gapV : Int → RS → List Int
  | _, [] => []
  | lo, (a, b) :: t => (lo - b - 1) :: (b - 1 - a) :: gapV a t
def ackV (y : Int) (rs : RS) : List Int :=
  match rs.reverse with
  | [] => []
  | (lo, hi) :: t => [hi - 1, y, (rs.length : Int) - 1, hi - 1 - lo] ++ gapV lo t
theorem steps_get : ∀ (rs : RS) (p : Int), stepsOK p rs = true → ∀ (i : Nat) (r : Int × Int), rs[i]? = some r → (if i = 0 then p else (rs.getD (i - 1) (0, 0)).2) < r.1 ∧ r.1 < r.2
  | [], p, h, i, r, hr => by simp at hr
  | (a, b) :: t, p, h, 0, r, hr => by
    simp at hr
    subst hr
    simp [stepsOK] at h
    exact ⟨by simpa using h.1.1, h.1.2⟩
  | (a, b) :: t, p, h, i + 1, r, hr => by
    simp [stepsOK] at h
    have := steps_get t b h.2 i r (by simpa using hr)
    refine ⟨?_, this.2⟩
    rw [if_neg (by omega), Nat.add_sub_cancel]
    cases i with
    | zero => simpa using this.1
    | succ j => simpa using this.1
theorem rr_all (rs : RS) (h : rrB rs = true) : (1 ≤ rs.length ∧ rs.length ≤ 16) ∧ stepsOK (-1) rs = true ∧ lastHi rs ≤ 4611686018427387904 := by
  unfold rrB at h
  simp at h
  exact ⟨⟨h.1.1.1, h.1.1.2⟩, h.1.2, h.2⟩
/-- Each range is at most the last one. -/
theorem steps_le (rs : RS) (p : Int) (h : stepsOK p rs = true) : ∀ (i : Nat) (r : Int × Int), rs[i]? = some r → r.2 ≤ lastHi rs := by
  intro i r hr
  have hi := (List.getElem?_eq_some_iff.1 hr).1
  obtain ⟨n, hn⟩ : ∃ n, rs.length = n + 1 := ⟨rs.length - 1, by omega⟩
  obtain ⟨x, hx⟩ : ∃ x, rs[n]? = some x := ⟨_, List.getElem?_eq_getElem (by omega)⟩
  rw [lastHi_get rs n hn x hx]
  have key : ∀ (j : Nat) (r' : Int × Int), rs[i + j]? = some r' → r.2 ≤ r'.2 := by
    intro j
    induction j with
    | zero => intro r' h'; rw [Nat.add_zero, hr] at h'; injection h' with h'; rw [h']; exact Int.le_refl _
    | succ j ih =>
      intro r' h'
      have hl := (List.getElem?_eq_some_iff.1 h').1
      obtain ⟨x2, hx2⟩ : ∃ x, rs[i + j]? = some x := ⟨_, List.getElem?_eq_getElem (by omega)⟩
      have h1 := ih x2 hx2
      have h2 := steps_get rs p h (i + (j + 1)) r' h'
      rw [if_neg (by omega), show i + (j + 1) - 1 = i + j by omega, List.getD_eq_getElem?_getD, hx2] at h2
      have h3 : x2.2 < r'.1 := h2.1
      omega
  have := key (n - i) x (by rw [show i + (n - i) = n by omega]; exact hx)
  exact this
theorem ack_last (y : Int) (rs : RS) (N : Nat) (hn : rs.length = N + 1) (r : Int × Int) (hr : rs[N]? = some r) : ackV y rs = [r.2 - 1, y, (N : Int), r.2 - 1 - r.1] ++ gapV r.1 (rs.take N).reverse := by
  have h1 : rs = rs.take N ++ [r] := by
    have h2 : rs.take (N + 1) = rs.take N ++ [r] := by
      obtain ⟨hk, e⟩ := List.getElem?_eq_some_iff.1 hr
      rw [List.take_succ_eq_append_getElem hk, e]
    rw [← h2, List.take_of_length_le (by omega)]
  have h2 : rs.reverse = r :: (rs.take N).reverse := by
    conv => lhs; rw [h1]
    simp
  unfold ackV
  rw [h2]
  obtain ⟨a, b⟩ := r
  rw [hn]
  simp
theorem gap_step (lo : Int) (rs : RS) (j : Nat) (r : Int × Int) (hr : rs[j]? = some r) : gapV lo (rs.take (j + 1)).reverse = [lo - r.2 - 1, r.2 - 1 - r.1] ++ gapV r.1 (rs.take j).reverse := by
  obtain ⟨hk, e⟩ := List.getElem?_eq_some_iff.1 hr
  rw [List.take_succ_eq_append_getElem hk, e, List.reverse_append]
  obtain ⟨a, b⟩ := r
  rfl
theorem putL_app (a b : List Int) : putL (a ++ b) = putL a ++ putL b := by unfold putL; exact List.flatMap_append
theorem gapV_len : ∀ (rs : RS) (lo : Int), (gapV lo rs).length = 2 * rs.length
  | [], lo => rfl
  | (a, b) :: t, lo => by simp [gapV, gapV_len t a]; omega
theorem ackV_len (y : Int) (rs : RS) : (ackV y rs).length ≤ 4 + 2 * rs.length := by
  unfold ackV
  split
  · simp
  · next lo hi t e =>
    have : rs.length = t.length + 1 := by rw [← List.length_reverse, e]; simp
    simp [gapV_len]; omega
/-- What the loop keeps. -/
structure AckAt (w : World) (M base p : Nat) (T : TypeId) (v : Value) (tot : List Int) (rs : RS) (g0 g5 : Nat) (L0 : List Value) (v' : Value) (bc : List Int) (j : Nat) (a b : Int) (wr : World) : Prop where
  st : WSx w M base p T v v' bc wr
  get : rs[j]? = some (a, b)
  tot : bc ++ putL (gapV a (rs.take j).reverse) = tot
  lo : At wr g5 60 [.int .u64 a, .int .u64 b]
  fr : At wr g0 31 L0
set_option maxRecDepth 100000 in
set_option maxHeartbeats 2000000 in
theorem wack_any (P : Nat → Prop) (base p : Nat) (T : TypeId) (v : Value) (bs : List Int) (m : FN) (d r : Sl) (rs : RS) (w : World) (h : Wtr w base p T v bs) (hl : bs.length ≤ 1000000000000) (hr : InR w (fun b => ¬ WS p v b) r rs) (hrr : rrB rs = true)
    (hy0 : 0 ≤ m.y) (hy1 : m.y ≤ 4611686018427387903) (hbase : base ≤ w.heap.size) :
    Calls Try.prog 63 #[.pointer (some ⟨p, 0, none⟩), frV m d r] w (WPost (.tuple #[]) w base p T v (bs ++ putL (ackV m.y rs))) := by
  obtain ⟨⟨h1, h16⟩, hst, hlast⟩ := rr_all rs hrr
  obtain ⟨N, hN⟩ : ∃ N, rs.length = N + 1 := ⟨rs.length - 1, by omega⟩
  have hN15 : N ≤ 15 := by omega
  obtain ⟨hrd, hnc, hcm, _⟩ := hr
  obtain ⟨A, n, c⟩ := r
  simp only at hrd hnc hcm
  obtain ⟨hlen, hbd, hcell⟩ := hrd
  obtain rfl : n = N + 1 := by omega
  obtain ⟨b, off, rfl, hb, hP, hc⟩ := hcell (by omega)
  have hget : ∀ (j : Nat) (x : Int × Int), rs[j]? = some x → 0 ≤ x.1 ∧ x.1 < x.2 ∧ x.2 ≤ 4611686018427387904 := fun j x hx => by
    have a1 := (hbd x (List.mem_of_getElem? hx)).1
    have a2 := (steps_get rs (-1) hst j x hx).2
    have a3 := steps_le rs (-1) hst j x hx
    exact ⟨a1, a2, by omega⟩
  have hgap : ∀ (j : Nat) (x x2 : Int × Int), rs[j]? = some x → rs[j + 1]? = some x2 → x.2 < x2.1 := fun j x x2 hx hx2 => by
    have := (steps_get rs (-1) hst (j + 1) x2 hx2).1
    rw [if_neg (by omega), Nat.add_sub_cancel, List.getD_eq_getElem?_getD, hx] at this
    exact this
  obtain ⟨x, hx⟩ : ∃ x, rs[N]? = some x := ⟨_, List.getElem?_eq_getElem (by omega)⟩
  obtain ⟨lo, hi⟩ := x
  have hA := ack_last m.y rs N hN (lo, hi) hx
  have hgx := hget N (lo, hi) hx
  simp only at hgx hA
  obtain ⟨hg0, hg1, hg2⟩ := hgx
  have HGET := Lib.hid hget
  have HGAP := Lib.hid hgap
  have HC := Lib.hid hc
  have HN := Lib.hid hN
  have HW := Lib.hid h
  have HA := Lib.hid hA
  have HX := Lib.hid hx
  have hW := h
  clear hget hgap hc hN hA hx hst hrr hbd hcell hlen hlast h h1 h16
  unfold maxLen at hcm
  obtain ⟨k, s, o, fin, l, cc, f, q, y, c0, c1, c2, c3, c4, c5, c6, c7⟩ := m
  obtain ⟨dA, dn, dc⟩ := d
  simp only [frV, frL]
  simp only at hy0 hy1 HA
  have hbg : b ≠ w.heap.size := by omega
  have ca : w.cell? ⟨b, off + N * 2, none⟩ = some (.int .u64 lo) := (HC.out N (lo, hi) HX.out).1
  have cb : w.cell? ⟨b, off + N * 2 + 1, none⟩ = some (.int .u64 hi) := (HC.out N (lo, hi) HX.out).2
  go_enter Try.func63, Try.ntmps63
  go_wp2_with fail
  have hM : w.heap.size ≤ w.heap.size + 1 + 1 := by omega
  have hx0 : WSx w (w.heap.size + 1 + 1) base p T v v bs ((w.alloc (.cells #[.int .i64 k, .int .u64 s, .int .u64 o, .slice dA dn dc, .bool fin, .int .u64 l, .int .u64 cc, .int .u64 f, .int .u64 q, .int .u64 y, .slice (some ⟨b, off, none⟩) (N + 1) c,
      .int .u8 c0, .int .u8 c1, .int .u8 c2, .int .u8 c3, .int .u8 c4, .int .u8 c5, .int .u8 c6, .int .u8 c7] 31)).alloc (.cells #[.int .u64 lo, .int .u64 hi] 60)) := by
    have := WSx.refl hW (((Below.refl w.heap.size w).alloc (Nat.le_refl _) (.cells #[.int .i64 k, .int .u64 s, .int .u64 o, .slice dA dn dc, .bool fin, .int .u64 l, .int .u64 cc, .int .u64 f, .int .u64 q, .int .u64 y, .slice (some ⟨b, off, none⟩) (N + 1) c,
      .int .u8 c0, .int .u8 c1, .int .u8 c2, .int .u8 c3, .int .u8 c4, .int .u8 c5, .int .u8 c6, .int .u8 c7] 31)).alloc (by simp) (.cells #[.int .u64 lo, .int .u64 hi] 60))
    simpa using this
  have hg0 : At ((w.alloc (.cells #[.int .i64 k, .int .u64 s, .int .u64 o, .slice dA dn dc, .bool fin, .int .u64 l, .int .u64 cc, .int .u64 f, .int .u64 q, .int .u64 y, .slice (some ⟨b, off, none⟩) (N + 1) c,
      .int .u8 c0, .int .u8 c1, .int .u8 c2, .int .u8 c3, .int .u8 c4, .int .u8 c5, .int .u8 c6, .int .u8 c7] 31)).alloc (.cells #[.int .u64 lo, .int .u64 hi] 60)) w.heap.size 31 [.int .i64 k, .int .u64 s, .int .u64 o, .slice dA dn dc, .bool fin, .int .u64 l, .int .u64 cc, .int .u64 f, .int .u64 q, .int .u64 y, .slice (some ⟨b, off, none⟩) (N + 1) c,
      .int .u8 c0, .int .u8 c1, .int .u8 c2, .int .u8 c3, .int .u8 c4, .int .u8 c5, .int .u8 c6, .int .u8 c7] := (At.new w _ _).alloc _
  have hg5 : At ((w.alloc (.cells #[.int .i64 k, .int .u64 s, .int .u64 o, .slice dA dn dc, .bool fin, .int .u64 l, .int .u64 cc, .int .u64 f, .int .u64 q, .int .u64 y, .slice (some ⟨b, off, none⟩) (N + 1) c,
      .int .u8 c0, .int .u8 c1, .int .u8 c2, .int .u8 c3, .int .u8 c4, .int .u8 c5, .int .u8 c6, .int .u8 c7] 31)).alloc (.cells #[.int .u64 lo, .int .u64 hi] 60)) (w.heap.size + 1) 60 [.int .u64 lo, .int .u64 hi] := At.new_ _ _ _ (by simp)
  obtain ⟨w0, hw0⟩ : ∃ w0, (w.alloc (.cells #[.int .i64 k, .int .u64 s, .int .u64 o, .slice dA dn dc, .bool fin, .int .u64 l, .int .u64 cc, .int .u64 f, .int .u64 q, .int .u64 y, .slice (some ⟨b, off, none⟩) (N + 1) c,
      .int .u8 c0, .int .u8 c1, .int .u8 c2, .int .u8 c3, .int .u8 c4, .int .u8 c5, .int .u8 c6, .int .u8 c7] 31)).alloc (.cells #[.int .u64 lo, .int .u64 hi] 60) = w0 := ⟨_, rfl⟩
  have hsz : w0.heap.size = w.heap.size + 1 + 1 := by rw [← hw0]; simp
  rw [hw0] at hx0 hg0 hg5 ⊢
  clear hw0 ca cb
  have hn0 := hW.not_new (g := w.heap.size) (Nat.le_refl _)
  have hn5 := hW.not_new (g := w.heap.size + 1) (by omega)
  have hU := UsP.new w0 (fun b => ¬ WS p v b) 25 [hi - 1, y, (N : Int), hi - 1 - lo] (by intro x hx; simp at hx; omega) _ rfl (w.heap.size + 1 + 1) hsz.symm (hx0.1.not_new (by omega))
  have hx1 := hx0.alloc (.cells #[.int .u64 (hi - 1), .int .u64 y, .int .u64 (N : Int), .int .u64 (hi - 1 - lo)] 25)
  have hg01 := hg0.alloc (.cells #[.int .u64 (hi - 1), .int .u64 y, .int .u64 (N : Int), .int .u64 (hi - 1 - lo)] 25)
  have hg51 := hg5.alloc (.cells #[.int .u64 (hi - 1), .int .u64 y, .int .u64 (N : Int), .int .u64 (hi - 1 - lo)] 25)
  refine (wvars_any base p T v bs [hi - 1, y, (N : Int), hi - 1 - lo] _ 4 4 _ hx1.1 (by omega) (by omega) (by omega) hU (by intro x hx; simp at hx; omega) (by have := hx1.2.2.2; omega)).mono ?_
  rintro e w2 hw2
  obtain ⟨v1, rfl, hx2, hk2⟩ := hx1.step hM hw2
  have hgf := hg01.kept hk2 hn0
  have hgr := hg51.kept hk2 hn5
  have HX2 := Lib.hid hx2
  have HGF := Lib.hid hgf
  have HGR := Lib.hid hgr
  have HW0 := Lib.hid hW
  clear hx0 hx1 hg0 hg5 hg01 hg51 hU hx2 hgf hgr hk2 hsz hW hw2
  have HTOT := Lib.hid (show bs ++ putL [hi - 1, y, (N : Int), hi - 1 - lo] ++ putL (gapV lo (rs.take N).reverse) = bs ++ putL (ackV y rs) by rw [HA.out, putL_app, List.append_assoc])
  have htl : (bs ++ putL (ackV y rs)).length ≤ 10000000000 * 1000 := by
    have h1 := putL_len (ackV y rs)
    have h2 := ackV_len y rs
    rw [HN.out] at h2
    rw [List.length_append]
    omega
  obtain ⟨TOT, hTOT⟩ : ∃ x, bs ++ putL (ackV y rs) = x := ⟨_, rfl⟩
  rw [hTOT] at htl HTOT
  have HTE := Lib.hid hTOT.symm
  clear hTOT
  have HI : Hid (AckAt w (w.heap.size + 1 + 1) base p T v TOT rs w.heap.size (w.heap.size + 1) [.int .i64 k, .int .u64 s, .int .u64 o, .slice dA dn dc, .bool fin, .int .u64 l, .int .u64 cc, .int .u64 f, .int .u64 q, .int .u64 y, .slice (some ⟨b, off, none⟩) (N + 1) c,
      .int .u8 c0, .int .u8 c1, .int .u8 c2, .int .u8 c3, .int .u8 c4, .int .u8 c5, .int .u8 c6, .int .u8 c7] v1 (bs ++ putL [hi - 1, y, (N : Int), hi - 1 - lo]) N lo hi w2) := Lib.hid ⟨HX2.out, HX.out, HTOT.out, HGR.out, HGF.out⟩
  clear HX HTOT HGF HGR HA
  have HX2b := HX2
  clear HX2
  have hsz2 : w.heap.size + 1 + 1 ≤ w2.heap.size := HX2b.out.2.2.2
  clear HX2b
  obtain ⟨bc0, hbc0⟩ : ∃ x, bs ++ putL [hi - 1, y, (N : Int), hi - 1 - lo] = x := ⟨_, rfl⟩
  rw [hbc0] at HI
  clear hbc0
  go_wp2_with fail
  go_loopw [6] (fun i wr => ∃ (j : Nat) (v' : Value) (bc : List Int) (a b2 : Int), ((i = .int .i64 (-1) ∧ j = 0) ∨ ∃ t : Nat, j = t + 1 ∧ i = .int .i64 (t : Int)) ∧ j ≤ 15 ∧ Hid (AckAt w (w.heap.size + 1 + 1) base p T v TOT rs w.heap.size (w.heap.size + 1) [.int .i64 k, .int .u64 s, .int .u64 o, .slice dA dn dc, .bool fin, .int .u64 l, .int .u64 cc, .int .u64 f, .int .u64 q, .int .u64 y, .slice (some ⟨b, off, none⟩) (N + 1) c,
      .int .u8 c0, .int .u8 c1, .int .u8 c2, .int .u8 c3, .int .u8 c4, .int .u8 c5, .int .u8 c6, .int .u8 c7] v' bc j a b2 wr)) (fun i _ => (intOf i + 1).toNat)
  case atStart =>
    refine ⟨N, v1, _, lo, hi, ?_, hN15, HI⟩
    rcases N with _ | N
    · exact .inl ⟨rfl, rfl⟩
    · exact .inr ⟨N, rfl, by go_num⟩
  case round =>
    obtain ⟨j, v', bc, a, b2, hij, hj15, hat⟩ := hrel
    have hst := hat.out.st
    have hbl : bc.length ≤ 10000000000000 := by
      have := hat.out.tot
      rw [← this, List.length_append] at htl
      omega
    have e10 := hat.out.fr.cell 10
    have r0 := hat.out.lo.cell 0
    have r1 := hat.out.lo.cell 1
    simp only [List.getElem?_cons_succ, List.getElem?_cons_zero] at e10 r0 r1
    have hMs := hst.2.2.2
    rcases hij with ⟨rfl, rfl⟩ | ⟨t, rfl, rfl⟩
    · have hfin : Hid (bc = TOT) := Lib.hid (by simpa [gapV, putL] using hat.out.tot)
      go_wp2_with fail
      go_end0
      have := hst.post hM (.tuple #[])
      rw [hfin.out, HTE.out] at this
      exact this
    · obtain ⟨x, hx⟩ : ∃ x, rs[t]? = some x := ⟨_, List.getElem?_eq_getElem (by have := (List.getElem?_eq_some_iff.1 hat.out.get).1; omega)⟩
      obtain ⟨a', b'⟩ := x
      have htn : t < N := by have := (List.getElem?_eq_some_iff.1 hat.out.get).1; rw [HN.out] at this; omega
      have hti : (t : Int) < (N : Int) + 1 := by omega
      have hl5 : w.heap.size + 1 < wr.heap.size := by omega
      have hl0 : w.heap.size < wr.heap.size := by omega
      have hlb : b < wr.heap.size := by omega
      have hq := HGET.out t (a', b') hx
      have hq2 := HGET.out (t + 1) (a, b2) hat.out.get
      have hgp := HGAP.out t (a', b') (a, b2) hx hat.out.get
      simp only at hq hq2 hgp
      obtain ⟨q0, q1, q2⟩ := hq
      obtain ⟨q3, q4, q5⟩ := hq2
      have ca : wr.cell? ⟨b, off + t * 2, none⟩ = some (.int .u64 a') := (hst.2.2.1.cell (p := ⟨b, _, none⟩) hb hP).trans (HC.out t (a', b') hx).1
      have cb : wr.cell? ⟨b, off + t * 2 + 1, none⟩ = some (.int .u64 b') := (hst.2.2.1.cell (p := ⟨b, _, none⟩) hb hP).trans (HC.out t (a', b') hx).2
      have HGT := Lib.hid (gap_step a rs t (a', b') hx)
      have HXT := Lib.hid hx
      have hpw := hst.1.1.lt
      clear hx
      go_wp2_with fail
      have hst1 := hst.alloc (.cells #[.int .u64 a', .int .u64 b'] 60)
      have hst2 := hst1.alloc (.cells #[.int .u64 (a - b' - 1), .int .u64 (b' - 1 - a')] 25)
      have hnew := hst1.1.not_new (g := wr.heap.size + 1) (by simp)
      have hnew7 := hst.1.not_new (g := wr.heap.size) (Nat.le_refl _)
      have hU := UsP.new (wr.alloc (.cells #[.int .u64 a', .int .u64 b'] 60)) (fun b => ¬ WS p v' b) 25 [a - b' - 1, b' - 1 - a'] (by intro x hx; simp at hx; omega) _ rfl (wr.heap.size + 1) (by simp) hnew
      have f5 := (hat.out.lo.alloc (.cells #[.int .u64 a', .int .u64 b'] 60)).alloc (.cells #[.int .u64 (a - b' - 1), .int .u64 (b' - 1 - a')] 25)
      have f0 := (hat.out.fr.alloc (.cells #[.int .u64 a', .int .u64 b'] 60)).alloc (.cells #[.int .u64 (a - b' - 1), .int .u64 (b' - 1 - a')] 25)
      have f7 := (At.new wr 60 [.int .u64 a', .int .u64 b']).alloc (.cells #[.int .u64 (a - b' - 1), .int .u64 (b' - 1 - a')] 25)
      refine (wvars_any base p T v' bc [a - b' - 1, b' - 1 - a'] _ 2 2 _ hst2.1 hbl (by omega) (by omega) hU (by intro x hx; simp at hx; omega) (by have := hst2.2.2.2; omega)).mono ?_
      rintro e w5 hw5
      obtain ⟨v2, rfl, hs5, hk5⟩ := hst2.step hM hw5
      have g5 := f5.kept hk5 (hst.apart (by omega) hn5)
      have g0 := f0.kept hk5 (hst.apart (by omega) hn0)
      have g7 := f7.kept hk5 hnew7
      have s0 := g7.cell 0
      have s1 := g7.cell 1
      have d0 := g5.cell 0
      have d1 := g5.cell 1
      have y0 := g5.frozen 0
      have y1 := g5.frozen 1
      simp only [List.getElem?_cons_succ, List.getElem?_cons_zero] at s0 s1 d0 d1
      have hFin : Hid (AckAt w (w.heap.size + 1 + 1) base p T v TOT rs w.heap.size (w.heap.size + 1) _ v2 (bc ++ putL [a - b' - 1, b' - 1 - a']) t a' b' ((w5.setCell ⟨w.heap.size + 1, 0, none⟩ (.int .u64 a')).setCell ⟨w.heap.size + 1, 1, none⟩ (.int .u64 b'))) := Lib.hid
        ⟨(hs5.cell (by omega) (by omega) hn5 0 _).cell (by omega) (by omega) hn5 1 _, HXT.out, by rw [← hat.out.tot, HGT.out, putL_app, List.append_assoc], (g5.set 0 _).set 1 _, (g0.set_other (q := ⟨w.heap.size + 1, 0, none⟩) (by simp) _).set_other (q := ⟨w.heap.size + 1, 1, none⟩) (by simp) _⟩
      clear hU f5 f0 f7 hst1 hst2 hs5 hk5 g5 g0 g7 hnew hnew7 hw5 hat hst ca cb e10 r0 r1
      go_wp2_with fail
      go_roundw
      case rel => first | exact ⟨t, v2, _, a', b', by rcases t with _ | t; exact .inl ⟨rfl, rfl⟩; exact .inr ⟨t, rfl, by go_num⟩, by omega, hFin⟩
      case measure => simp [intOf] <;> omega
end
section
set_option linter.unusedVariables false
set_option linter.unusedSimpArgs false
open Go.RowKit
def cidL (m : FN) : List Int := [m.c0, m.c1, m.c2, m.c3, m.c4, m.c5, m.c6, m.c7]
def bodyS (m : FN) (ds : List Int) (rs : RS) : List Int :=
  if m.k = 2 then putL (ackV m.y rs)
  else if m.k = 4 then putL [m.s, m.c, m.f]
  else if m.k = 5 then putL [m.s, m.c]
  else if m.k = 6 then putS m.o ++ textB ds
  else if m.k = 8 then (if 0 < m.o then putS m.s ++ putS m.o else putS m.s) ++ textB ds
  else if m.k = 16 then putS m.l
  else if m.k = 18 then putS m.l
  else if m.k = 20 then putS m.l
  else if m.k = 17 then putL [m.s, m.l]
  else if m.k = 24 then putL [m.q, m.l] ++ [8] ++ cidL m
  else if m.k = 25 then putS m.q
  else if m.k = 26 then cidL m
  else if m.k = 27 then cidL m
  else if m.k = 28 then putS m.c ++ textB ds
  else []
/-- A frame's bytes. -/
def oneS (m : FN) (ds : List Int) (rs : RS) : List Int := putS (wkS m) ++ bodyS m ds rs
theorem cid_rd (m : FN) (d r : Sl) {w : World} {g : Nat} (h : At w g 31 (frL m d r)) (hc : Byt (cidL m)) : Rd w w.heap.size (some ⟨g, 11, none⟩) 8 (cidL m) := by
  refine ⟨rfl, hc, fun _ => ⟨g, 11, rfl, h.lt, fun i hi => ?_⟩⟩
  rw [h.cell]
  have : i = 0 ∨ i = 1 ∨ i = 2 ∨ i = 3 ∨ i = 4 ∨ i = 5 ∨ i = 6 ∨ i = 7 := by omega
  rcases this with rfl | rfl | rfl | rfl | rfl | rfl | rfl | rfl <;> rfl
theorem wkS_bd (m : FN) (h0 : 0 ≤ m.k) (h1 : m.k ≤ 30) : 0 ≤ wkS m ∧ wkS m ≤ 30 := by
  unfold wkS; (repeat' split) <;> omega
set_option maxRecDepth 100000 in
set_option maxHeartbeats 1000000 in
theorem write_0 (base p : Nat) (T : TypeId) (v : Value) (bs : List Int) (s o l c f q y c0 c1 c2 c3 c4 c5 c6 c7 : Int) (fin : Bool) (d r : Sl) (ds : List Int) (rs : RS) (w : World) (h : Wtr w base p T v bs) (hl : bs.length ≤ 100000000000)
    (hf : Fits w (fun b => ¬ WS p v b) ⟨0, s, o, fin, l, c, f, q, y, c0, c1, c2, c3, c4, c5, c6, c7⟩ d r ds rs) (hr : rightB ⟨0, s, o, fin, l, c, f, q, y, c0, c1, c2, c3, c4, c5, c6, c7⟩ ds rs = true) (hbase : base ≤ w.heap.size) :
    Calls Try.prog 40 #[.pointer (some ⟨p, 0, none⟩), frV ⟨0, s, o, fin, l, c, f, q, y, c0, c1, c2, c3, c4, c5, c6, c7⟩ d r] w (WPost (.tuple #[]) w base p T v (bs ++ oneS ⟨0, s, o, fin, l, c, f, q, y, c0, c1, c2, c3, c4, c5, c6, c7⟩ ds rs)) := by
  obtain ⟨hwf, hdt, hrg⟩ := hf
  have hwb := wkS_bd ⟨0, s, o, fin, l, c, f, q, y, c0, c1, c2, c3, c4, c5, c6, c7⟩ (show (0 : Int) ≤ 0 from by decide) (show (0 : Int) ≤ 30 from by decide)
  have hbd : (True) := by
    simp [rightB, askN, nrB, smB, drB, FN.zero, knownB, askDs] at hr
    first | trivial | omega | exact ⟨by omega, hr.2⟩
  have hs0 := hwf.s0
  have ho0 := hwf.o0
  have hl0 := hwf.l0
  have hc0 := hwf.c0
  have hf0 := hwf.f0
  have hq0 := hwf.q0
  have hy0 := hwf.y0
  simp only at hs0 ho0 hl0 hc0 hf0 hq0 hy0
  have hcid : Byt (cidL ⟨0, s, o, fin, l, c, f, q, y, c0, c1, c2, c3, c4, c5, c6, c7⟩) := hwf.cid
  have hE : bs ++ oneS ⟨0, s, o, fin, l, c, f, q, y, c0, c1, c2, c3, c4, c5, c6, c7⟩ ds rs = bs ++ (putS (wkS ⟨0, s, o, fin, l, c, f, q, y, c0, c1, c2, c3, c4, c5, c6, c7⟩) ++ bodyS ⟨0, s, o, fin, l, c, f, q, y, c0, c1, c2, c3, c4, c5, c6, c7⟩ ds rs) := rfl
  have hbod : bodyS ⟨0, s, o, fin, l, c, f, q, y, c0, c1, c2, c3, c4, c5, c6, c7⟩ ds rs = [] := by
    simp [bodyS]
  rw [hbod] at hE
  have HE := Lib.hid hE
  clear hE hbod hr
  have hW := h
  have hB0 : Below w.heap.size w (w.alloc (.cells (frL ⟨0, s, o, fin, l, c, f, q, y, c0, c1, c2, c3, c4, c5, c6, c7⟩ d r).toArray 31)) := (Below.refl _ _).alloc (Nat.le_refl _) _
  have hA0 : At (w.alloc (.cells (frL ⟨0, s, o, fin, l, c, f, q, y, c0, c1, c2, c3, c4, c5, c6, c7⟩ d r).toArray 31)) w.heap.size 31 (frL ⟨0, s, o, fin, l, c, f, q, y, c0, c1, c2, c3, c4, c5, c6, c7⟩ d r) := At.new w _ _
  have hx0 := WSx.refl hW hB0
  have hM : w.heap.size ≤ (w.alloc (.cells (frL ⟨0, s, o, fin, l, c, f, q, y, c0, c1, c2, c3, c4, c5, c6, c7⟩ d r).toArray 31)).heap.size := hB0.size
  have hg : w.heap.size < (w.alloc (.cells (frL ⟨0, s, o, fin, l, c, f, q, y, c0, c1, c2, c3, c4, c5, c6, c7⟩ d r).toArray 31)).heap.size := hA0.lt
  have hn0 := hW.not_new (g := w.heap.size) (Nat.le_refl _)
  have hwk := wk_any ⟨0, s, o, fin, l, c, f, q, y, c0, c1, c2, c3, c4, c5, c6, c7⟩ d r
  obtain ⟨kv, hkv⟩ : ∃ x, wkS ⟨0, s, o, fin, l, c, f, q, y, c0, c1, c2, c3, c4, c5, c6, c7⟩ = x := ⟨_, rfl⟩
  rw [hkv] at hwb hwk HE
  clear hkv
  have HWK := Lib.hid (fun W => hwk W (show (0 : Int) ≤ 0 from by decide) (show (0 : Int) ≤ 30 from by decide) ho0)
  clear hwk
  have HWF := Lib.hid hwf
  have HDT := Lib.hid hdt
  have HRG := Lib.hid hrg
  have HCID := Lib.hid hcid
  clear hwf hdt hrg hcid
  obtain ⟨L, hL⟩ : ∃ L, frL ⟨0, s, o, fin, l, c, f, q, y, c0, c1, c2, c3, c4, c5, c6, c7⟩ d r = L := ⟨_, rfl⟩
  have hLl : L.length = 19 := by rw [← hL]; rfl
  have hfv : frV ⟨0, s, o, fin, l, c, f, q, y, c0, c1, c2, c3, c4, c5, c6, c7⟩ d r = .agg L.toArray := by rw [← hL]; rfl
  have hl_0 : L[0]? = some (.int .i64 0) := by rw [← hL]; rfl
  rw [hL] at hA0 hB0 hx0 hM hg
  rw [hfv] at HWK ⊢
  clear hL hfv
  have HL0 := Lib.hid hl_0
  clear hl_0
  have HLl := Lib.hid hLl
  clear hLl
  obtain ⟨dA, dn, dc⟩ := d
  obtain ⟨M, hMM⟩ : ∃ M, (w.alloc (.cells L.toArray 31)).heap.size = M := ⟨_, rfl⟩
  rw [hMM] at hx0 hM hg
  have HMM := Lib.hid hMM
  clear hMM
  go_enter Try.func40, Try.ntmps40
  go_wp2_with (first | ((with_reducible refine at_ld ?_); refine ld_fr_g _ _ (by rfl) (by rfl) hA0 HLl.out ?_) | fail)
  refine (HWK.out _).mono ?_
  rintro e w1 ⟨rfl, hb1⟩
  have hA1 := hA0.below hb1 (by rw [HMM.out]; exact hg)
  have hx1 := hx0.below hb1
  clear hA0 hx0 hb1
  have hm1 := hx1.2.2.2
  go_wp2_with fail
  refine (wvar_yes base p T v bs kv _ hx1.1 (by omega) hwb.1 (by omega) (by omega)).mono ?_
  rintro e w2 hw2
  obtain ⟨v2, rfl, hx2, hk2⟩ := hx1.step hM hw2
  have hA2 := hA1.kept hk2 (hx1.apart hg hn0)
  have hm2 := hx2.2.2.2
  clear hw2 hk2 hx1 hA1
  have e0 := (hA2.cell 0).trans HL0.out
  go_wp2_with fail
  go_end0
  have hfin := hx2.post hM (.tuple #[])
  try simp only [List.append_assoc] at hfin
  have hEE := HE.out
  try simp only [List.append_assoc] at hEE
  rw [hEE]
  simpa using hfin
set_option maxRecDepth 100000 in
set_option maxHeartbeats 1000000 in
theorem write_1 (base p : Nat) (T : TypeId) (v : Value) (bs : List Int) (s o l c f q y c0 c1 c2 c3 c4 c5 c6 c7 : Int) (fin : Bool) (d r : Sl) (ds : List Int) (rs : RS) (w : World) (h : Wtr w base p T v bs) (hl : bs.length ≤ 100000000000)
    (hf : Fits w (fun b => ¬ WS p v b) ⟨1, s, o, fin, l, c, f, q, y, c0, c1, c2, c3, c4, c5, c6, c7⟩ d r ds rs) (hr : rightB ⟨1, s, o, fin, l, c, f, q, y, c0, c1, c2, c3, c4, c5, c6, c7⟩ ds rs = true) (hbase : base ≤ w.heap.size) :
    Calls Try.prog 40 #[.pointer (some ⟨p, 0, none⟩), frV ⟨1, s, o, fin, l, c, f, q, y, c0, c1, c2, c3, c4, c5, c6, c7⟩ d r] w (WPost (.tuple #[]) w base p T v (bs ++ oneS ⟨1, s, o, fin, l, c, f, q, y, c0, c1, c2, c3, c4, c5, c6, c7⟩ ds rs)) := by
  obtain ⟨hwf, hdt, hrg⟩ := hf
  have hwb := wkS_bd ⟨1, s, o, fin, l, c, f, q, y, c0, c1, c2, c3, c4, c5, c6, c7⟩ (show (0 : Int) ≤ 1 from by decide) (show (1 : Int) ≤ 30 from by decide)
  have hbd : (True) := by
    simp [rightB, askN, nrB, smB, drB, FN.zero, knownB, askDs] at hr
    first | trivial | omega | exact ⟨by omega, hr.2⟩
  have hs0 := hwf.s0
  have ho0 := hwf.o0
  have hl0 := hwf.l0
  have hc0 := hwf.c0
  have hf0 := hwf.f0
  have hq0 := hwf.q0
  have hy0 := hwf.y0
  simp only at hs0 ho0 hl0 hc0 hf0 hq0 hy0
  have hcid : Byt (cidL ⟨1, s, o, fin, l, c, f, q, y, c0, c1, c2, c3, c4, c5, c6, c7⟩) := hwf.cid
  have hE : bs ++ oneS ⟨1, s, o, fin, l, c, f, q, y, c0, c1, c2, c3, c4, c5, c6, c7⟩ ds rs = bs ++ (putS (wkS ⟨1, s, o, fin, l, c, f, q, y, c0, c1, c2, c3, c4, c5, c6, c7⟩) ++ bodyS ⟨1, s, o, fin, l, c, f, q, y, c0, c1, c2, c3, c4, c5, c6, c7⟩ ds rs) := rfl
  have hbod : bodyS ⟨1, s, o, fin, l, c, f, q, y, c0, c1, c2, c3, c4, c5, c6, c7⟩ ds rs = [] := by
    simp [bodyS]
  rw [hbod] at hE
  have HE := Lib.hid hE
  clear hE hbod hr
  have hW := h
  have hB0 : Below w.heap.size w (w.alloc (.cells (frL ⟨1, s, o, fin, l, c, f, q, y, c0, c1, c2, c3, c4, c5, c6, c7⟩ d r).toArray 31)) := (Below.refl _ _).alloc (Nat.le_refl _) _
  have hA0 : At (w.alloc (.cells (frL ⟨1, s, o, fin, l, c, f, q, y, c0, c1, c2, c3, c4, c5, c6, c7⟩ d r).toArray 31)) w.heap.size 31 (frL ⟨1, s, o, fin, l, c, f, q, y, c0, c1, c2, c3, c4, c5, c6, c7⟩ d r) := At.new w _ _
  have hx0 := WSx.refl hW hB0
  have hM : w.heap.size ≤ (w.alloc (.cells (frL ⟨1, s, o, fin, l, c, f, q, y, c0, c1, c2, c3, c4, c5, c6, c7⟩ d r).toArray 31)).heap.size := hB0.size
  have hg : w.heap.size < (w.alloc (.cells (frL ⟨1, s, o, fin, l, c, f, q, y, c0, c1, c2, c3, c4, c5, c6, c7⟩ d r).toArray 31)).heap.size := hA0.lt
  have hn0 := hW.not_new (g := w.heap.size) (Nat.le_refl _)
  have hwk := wk_any ⟨1, s, o, fin, l, c, f, q, y, c0, c1, c2, c3, c4, c5, c6, c7⟩ d r
  obtain ⟨kv, hkv⟩ : ∃ x, wkS ⟨1, s, o, fin, l, c, f, q, y, c0, c1, c2, c3, c4, c5, c6, c7⟩ = x := ⟨_, rfl⟩
  rw [hkv] at hwb hwk HE
  clear hkv
  have HWK := Lib.hid (fun W => hwk W (show (0 : Int) ≤ 1 from by decide) (show (1 : Int) ≤ 30 from by decide) ho0)
  clear hwk
  have HWF := Lib.hid hwf
  have HDT := Lib.hid hdt
  have HRG := Lib.hid hrg
  have HCID := Lib.hid hcid
  clear hwf hdt hrg hcid
  obtain ⟨L, hL⟩ : ∃ L, frL ⟨1, s, o, fin, l, c, f, q, y, c0, c1, c2, c3, c4, c5, c6, c7⟩ d r = L := ⟨_, rfl⟩
  have hLl : L.length = 19 := by rw [← hL]; rfl
  have hfv : frV ⟨1, s, o, fin, l, c, f, q, y, c0, c1, c2, c3, c4, c5, c6, c7⟩ d r = .agg L.toArray := by rw [← hL]; rfl
  have hl_0 : L[0]? = some (.int .i64 1) := by rw [← hL]; rfl
  rw [hL] at hA0 hB0 hx0 hM hg
  rw [hfv] at HWK ⊢
  clear hL hfv
  have HL0 := Lib.hid hl_0
  clear hl_0
  have HLl := Lib.hid hLl
  clear hLl
  obtain ⟨dA, dn, dc⟩ := d
  obtain ⟨M, hMM⟩ : ∃ M, (w.alloc (.cells L.toArray 31)).heap.size = M := ⟨_, rfl⟩
  rw [hMM] at hx0 hM hg
  have HMM := Lib.hid hMM
  clear hMM
  go_enter Try.func40, Try.ntmps40
  go_wp2_with (first | ((with_reducible refine at_ld ?_); refine ld_fr_g _ _ (by rfl) (by rfl) hA0 HLl.out ?_) | fail)
  refine (HWK.out _).mono ?_
  rintro e w1 ⟨rfl, hb1⟩
  have hA1 := hA0.below hb1 (by rw [HMM.out]; exact hg)
  have hx1 := hx0.below hb1
  clear hA0 hx0 hb1
  have hm1 := hx1.2.2.2
  go_wp2_with fail
  refine (wvar_yes base p T v bs kv _ hx1.1 (by omega) hwb.1 (by omega) (by omega)).mono ?_
  rintro e w2 hw2
  obtain ⟨v2, rfl, hx2, hk2⟩ := hx1.step hM hw2
  have hA2 := hA1.kept hk2 (hx1.apart hg hn0)
  have hm2 := hx2.2.2.2
  clear hw2 hk2 hx1 hA1
  have e0 := (hA2.cell 0).trans HL0.out
  go_wp2_with fail
  go_end0
  have hfin := hx2.post hM (.tuple #[])
  try simp only [List.append_assoc] at hfin
  have hEE := HE.out
  try simp only [List.append_assoc] at hEE
  rw [hEE]
  simpa using hfin
set_option maxRecDepth 100000 in
set_option maxHeartbeats 1000000 in
theorem write_30 (base p : Nat) (T : TypeId) (v : Value) (bs : List Int) (s o l c f q y c0 c1 c2 c3 c4 c5 c6 c7 : Int) (fin : Bool) (d r : Sl) (ds : List Int) (rs : RS) (w : World) (h : Wtr w base p T v bs) (hl : bs.length ≤ 100000000000)
    (hf : Fits w (fun b => ¬ WS p v b) ⟨30, s, o, fin, l, c, f, q, y, c0, c1, c2, c3, c4, c5, c6, c7⟩ d r ds rs) (hr : rightB ⟨30, s, o, fin, l, c, f, q, y, c0, c1, c2, c3, c4, c5, c6, c7⟩ ds rs = true) (hbase : base ≤ w.heap.size) :
    Calls Try.prog 40 #[.pointer (some ⟨p, 0, none⟩), frV ⟨30, s, o, fin, l, c, f, q, y, c0, c1, c2, c3, c4, c5, c6, c7⟩ d r] w (WPost (.tuple #[]) w base p T v (bs ++ oneS ⟨30, s, o, fin, l, c, f, q, y, c0, c1, c2, c3, c4, c5, c6, c7⟩ ds rs)) := by
  obtain ⟨hwf, hdt, hrg⟩ := hf
  have hwb := wkS_bd ⟨30, s, o, fin, l, c, f, q, y, c0, c1, c2, c3, c4, c5, c6, c7⟩ (show (0 : Int) ≤ 30 from by decide) (show (30 : Int) ≤ 30 from by decide)
  have hbd : (True) := by
    simp [rightB, askN, nrB, smB, drB, FN.zero, knownB, askDs] at hr
    first | trivial | omega | exact ⟨by omega, hr.2⟩
  have hs0 := hwf.s0
  have ho0 := hwf.o0
  have hl0 := hwf.l0
  have hc0 := hwf.c0
  have hf0 := hwf.f0
  have hq0 := hwf.q0
  have hy0 := hwf.y0
  simp only at hs0 ho0 hl0 hc0 hf0 hq0 hy0
  have hcid : Byt (cidL ⟨30, s, o, fin, l, c, f, q, y, c0, c1, c2, c3, c4, c5, c6, c7⟩) := hwf.cid
  have hE : bs ++ oneS ⟨30, s, o, fin, l, c, f, q, y, c0, c1, c2, c3, c4, c5, c6, c7⟩ ds rs = bs ++ (putS (wkS ⟨30, s, o, fin, l, c, f, q, y, c0, c1, c2, c3, c4, c5, c6, c7⟩) ++ bodyS ⟨30, s, o, fin, l, c, f, q, y, c0, c1, c2, c3, c4, c5, c6, c7⟩ ds rs) := rfl
  have hbod : bodyS ⟨30, s, o, fin, l, c, f, q, y, c0, c1, c2, c3, c4, c5, c6, c7⟩ ds rs = [] := by
    simp [bodyS]
  rw [hbod] at hE
  have HE := Lib.hid hE
  clear hE hbod hr
  have hW := h
  have hB0 : Below w.heap.size w (w.alloc (.cells (frL ⟨30, s, o, fin, l, c, f, q, y, c0, c1, c2, c3, c4, c5, c6, c7⟩ d r).toArray 31)) := (Below.refl _ _).alloc (Nat.le_refl _) _
  have hA0 : At (w.alloc (.cells (frL ⟨30, s, o, fin, l, c, f, q, y, c0, c1, c2, c3, c4, c5, c6, c7⟩ d r).toArray 31)) w.heap.size 31 (frL ⟨30, s, o, fin, l, c, f, q, y, c0, c1, c2, c3, c4, c5, c6, c7⟩ d r) := At.new w _ _
  have hx0 := WSx.refl hW hB0
  have hM : w.heap.size ≤ (w.alloc (.cells (frL ⟨30, s, o, fin, l, c, f, q, y, c0, c1, c2, c3, c4, c5, c6, c7⟩ d r).toArray 31)).heap.size := hB0.size
  have hg : w.heap.size < (w.alloc (.cells (frL ⟨30, s, o, fin, l, c, f, q, y, c0, c1, c2, c3, c4, c5, c6, c7⟩ d r).toArray 31)).heap.size := hA0.lt
  have hn0 := hW.not_new (g := w.heap.size) (Nat.le_refl _)
  have hwk := wk_any ⟨30, s, o, fin, l, c, f, q, y, c0, c1, c2, c3, c4, c5, c6, c7⟩ d r
  obtain ⟨kv, hkv⟩ : ∃ x, wkS ⟨30, s, o, fin, l, c, f, q, y, c0, c1, c2, c3, c4, c5, c6, c7⟩ = x := ⟨_, rfl⟩
  rw [hkv] at hwb hwk HE
  clear hkv
  have HWK := Lib.hid (fun W => hwk W (show (0 : Int) ≤ 30 from by decide) (show (30 : Int) ≤ 30 from by decide) ho0)
  clear hwk
  have HWF := Lib.hid hwf
  have HDT := Lib.hid hdt
  have HRG := Lib.hid hrg
  have HCID := Lib.hid hcid
  clear hwf hdt hrg hcid
  obtain ⟨L, hL⟩ : ∃ L, frL ⟨30, s, o, fin, l, c, f, q, y, c0, c1, c2, c3, c4, c5, c6, c7⟩ d r = L := ⟨_, rfl⟩
  have hLl : L.length = 19 := by rw [← hL]; rfl
  have hfv : frV ⟨30, s, o, fin, l, c, f, q, y, c0, c1, c2, c3, c4, c5, c6, c7⟩ d r = .agg L.toArray := by rw [← hL]; rfl
  have hl_0 : L[0]? = some (.int .i64 30) := by rw [← hL]; rfl
  rw [hL] at hA0 hB0 hx0 hM hg
  rw [hfv] at HWK ⊢
  clear hL hfv
  have HL0 := Lib.hid hl_0
  clear hl_0
  have HLl := Lib.hid hLl
  clear hLl
  obtain ⟨dA, dn, dc⟩ := d
  obtain ⟨M, hMM⟩ : ∃ M, (w.alloc (.cells L.toArray 31)).heap.size = M := ⟨_, rfl⟩
  rw [hMM] at hx0 hM hg
  have HMM := Lib.hid hMM
  clear hMM
  go_enter Try.func40, Try.ntmps40
  go_wp2_with (first | ((with_reducible refine at_ld ?_); refine ld_fr_g _ _ (by rfl) (by rfl) hA0 HLl.out ?_) | fail)
  refine (HWK.out _).mono ?_
  rintro e w1 ⟨rfl, hb1⟩
  have hA1 := hA0.below hb1 (by rw [HMM.out]; exact hg)
  have hx1 := hx0.below hb1
  clear hA0 hx0 hb1
  have hm1 := hx1.2.2.2
  go_wp2_with fail
  refine (wvar_yes base p T v bs kv _ hx1.1 (by omega) hwb.1 (by omega) (by omega)).mono ?_
  rintro e w2 hw2
  obtain ⟨v2, rfl, hx2, hk2⟩ := hx1.step hM hw2
  have hA2 := hA1.kept hk2 (hx1.apart hg hn0)
  have hm2 := hx2.2.2.2
  clear hw2 hk2 hx1 hA1
  have e0 := (hA2.cell 0).trans HL0.out
  go_wp2_with fail
  go_end0
  have hfin := hx2.post hM (.tuple #[])
  try simp only [List.append_assoc] at hfin
  have hEE := HE.out
  try simp only [List.append_assoc] at hEE
  rw [hEE]
  simpa using hfin
set_option maxRecDepth 100000 in
set_option maxHeartbeats 1000000 in
theorem write_2 (base p : Nat) (T : TypeId) (v : Value) (bs : List Int) (s o l c f q y c0 c1 c2 c3 c4 c5 c6 c7 : Int) (fin : Bool) (d r : Sl) (ds : List Int) (rs : RS) (w : World) (h : Wtr w base p T v bs) (hl : bs.length ≤ 100000000000)
    (hf : Fits w (fun b => ¬ WS p v b) ⟨2, s, o, fin, l, c, f, q, y, c0, c1, c2, c3, c4, c5, c6, c7⟩ d r ds rs) (hr : rightB ⟨2, s, o, fin, l, c, f, q, y, c0, c1, c2, c3, c4, c5, c6, c7⟩ ds rs = true) (hbase : base ≤ w.heap.size) :
    Calls Try.prog 40 #[.pointer (some ⟨p, 0, none⟩), frV ⟨2, s, o, fin, l, c, f, q, y, c0, c1, c2, c3, c4, c5, c6, c7⟩ d r] w (WPost (.tuple #[]) w base p T v (bs ++ oneS ⟨2, s, o, fin, l, c, f, q, y, c0, c1, c2, c3, c4, c5, c6, c7⟩ ds rs)) := by
  obtain ⟨hwf, hdt, hrg⟩ := hf
  have hwb := wkS_bd ⟨2, s, o, fin, l, c, f, q, y, c0, c1, c2, c3, c4, c5, c6, c7⟩ (show (0 : Int) ≤ 2 from by decide) (show (2 : Int) ≤ 30 from by decide)
  have hbd : (y ≤ 4611686018427387903 ∧ rrB rs = true) := by
    simp [rightB, askN, nrB, smB, drB, FN.zero, knownB, askDs] at hr
    first | trivial | omega | exact ⟨by omega, hr.2⟩
  have hs0 := hwf.s0
  have ho0 := hwf.o0
  have hl0 := hwf.l0
  have hc0 := hwf.c0
  have hf0 := hwf.f0
  have hq0 := hwf.q0
  have hy0 := hwf.y0
  simp only at hs0 ho0 hl0 hc0 hf0 hq0 hy0
  have hcid : Byt (cidL ⟨2, s, o, fin, l, c, f, q, y, c0, c1, c2, c3, c4, c5, c6, c7⟩) := hwf.cid
  have hE : bs ++ oneS ⟨2, s, o, fin, l, c, f, q, y, c0, c1, c2, c3, c4, c5, c6, c7⟩ ds rs = bs ++ (putS (wkS ⟨2, s, o, fin, l, c, f, q, y, c0, c1, c2, c3, c4, c5, c6, c7⟩) ++ bodyS ⟨2, s, o, fin, l, c, f, q, y, c0, c1, c2, c3, c4, c5, c6, c7⟩ ds rs) := rfl
  have hbod : bodyS ⟨2, s, o, fin, l, c, f, q, y, c0, c1, c2, c3, c4, c5, c6, c7⟩ ds rs = putL (ackV y rs) := by
    simp [bodyS]
  rw [hbod] at hE
  have HE := Lib.hid hE
  clear hE hbod hr
  obtain ⟨hbd, hrrb⟩ := hbd
  have HRB := Lib.hid hrrb
  clear hrrb
  have hW := h
  have hB0 : Below w.heap.size w (w.alloc (.cells (frL ⟨2, s, o, fin, l, c, f, q, y, c0, c1, c2, c3, c4, c5, c6, c7⟩ d r).toArray 31)) := (Below.refl _ _).alloc (Nat.le_refl _) _
  have hA0 : At (w.alloc (.cells (frL ⟨2, s, o, fin, l, c, f, q, y, c0, c1, c2, c3, c4, c5, c6, c7⟩ d r).toArray 31)) w.heap.size 31 (frL ⟨2, s, o, fin, l, c, f, q, y, c0, c1, c2, c3, c4, c5, c6, c7⟩ d r) := At.new w _ _
  have hx0 := WSx.refl hW hB0
  have hM : w.heap.size ≤ (w.alloc (.cells (frL ⟨2, s, o, fin, l, c, f, q, y, c0, c1, c2, c3, c4, c5, c6, c7⟩ d r).toArray 31)).heap.size := hB0.size
  have hg : w.heap.size < (w.alloc (.cells (frL ⟨2, s, o, fin, l, c, f, q, y, c0, c1, c2, c3, c4, c5, c6, c7⟩ d r).toArray 31)).heap.size := hA0.lt
  have hn0 := hW.not_new (g := w.heap.size) (Nat.le_refl _)
  have hwk := wk_any ⟨2, s, o, fin, l, c, f, q, y, c0, c1, c2, c3, c4, c5, c6, c7⟩ d r
  obtain ⟨kv, hkv⟩ : ∃ x, wkS ⟨2, s, o, fin, l, c, f, q, y, c0, c1, c2, c3, c4, c5, c6, c7⟩ = x := ⟨_, rfl⟩
  rw [hkv] at hwb hwk HE
  clear hkv
  have HWK := Lib.hid (fun W => hwk W (show (0 : Int) ≤ 2 from by decide) (show (2 : Int) ≤ 30 from by decide) ho0)
  clear hwk
  have HWF := Lib.hid hwf
  have HDT := Lib.hid hdt
  have HRG := Lib.hid hrg
  have HCID := Lib.hid hcid
  clear hwf hdt hrg hcid
  obtain ⟨L, hL⟩ : ∃ L, frL ⟨2, s, o, fin, l, c, f, q, y, c0, c1, c2, c3, c4, c5, c6, c7⟩ d r = L := ⟨_, rfl⟩
  have hLl : L.length = 19 := by rw [← hL]; rfl
  have hfv : frV ⟨2, s, o, fin, l, c, f, q, y, c0, c1, c2, c3, c4, c5, c6, c7⟩ d r = .agg L.toArray := by rw [← hL]; rfl
  have hl_0 : L[0]? = some (.int .i64 2) := by rw [← hL]; rfl
  have hak := fun (v1 : Value) (b1 : List Int) (W : World) (a1 : Wtr W base p T v1 b1) (a2 : b1.length ≤ 1000000000000) (a3 : InR W (fun b => ¬ WS p v1 b) r rs) (a4 : base ≤ W.heap.size) => wack_any (fun _ => True) base p T v1 b1 ⟨2, s, o, fin, l, c, f, q, y, c0, c1, c2, c3, c4, c5, c6, c7⟩ d r rs W a1 a2 a3 HRB.out hy0 hbd a4
  rw [hL] at hA0 hB0 hx0 hM hg
  rw [hfv] at hak
  have HAK := Lib.hid hak
  clear hak
  rw [hfv] at HWK ⊢
  clear hL hfv
  have HL0 := Lib.hid hl_0
  clear hl_0
  have HLl := Lib.hid hLl
  clear hLl
  obtain ⟨dA, dn, dc⟩ := d
  obtain ⟨M, hMM⟩ : ∃ M, (w.alloc (.cells L.toArray 31)).heap.size = M := ⟨_, rfl⟩
  rw [hMM] at hx0 hM hg
  have HMM := Lib.hid hMM
  clear hMM
  go_enter Try.func40, Try.ntmps40
  go_wp2_with (first | ((with_reducible refine at_ld ?_); refine ld_fr_g _ _ (by rfl) (by rfl) hA0 HLl.out ?_) | fail)
  refine (HWK.out _).mono ?_
  rintro e w1 ⟨rfl, hb1⟩
  have hA1 := hA0.below hb1 (by rw [HMM.out]; exact hg)
  have hx1 := hx0.below hb1
  clear hA0 hx0 hb1
  have hm1 := hx1.2.2.2
  go_wp2_with fail
  refine (wvar_yes base p T v bs kv _ hx1.1 (by omega) hwb.1 (by omega) (by omega)).mono ?_
  rintro e w2 hw2
  obtain ⟨v2, rfl, hx2, hk2⟩ := hx1.step hM hw2
  have hA2 := hA1.kept hk2 (hx1.apart hg hn0)
  have hm2 := hx2.2.2.2
  clear hw2 hk2 hx1 hA1
  have e0 := (hA2.cell 0).trans HL0.out
  go_wp2_with (first | ((with_reducible refine at_ld ?_); refine ld_fr_g _ _ (by rfl) (by rfl) hA2 HLl.out ?_) | fail)
  have hri := HRG.out.kept hx2.2.2.1 (fun b hb => hb)
  have hri2 : InR w2 (fun b => ¬ WS p v2 b) r rs := ⟨hri.rd.mono_lt HRG.out.rd (fun b hb hp => hx2.apart (by omega) hp), hri.lc, hri.cm, hri.nil⟩
  refine (HAK.out v2 _ _ hx2.1 (by simp only [List.length_append, List.length_cons, List.length_nil]; have z0 := putS_le kv; omega) hri2 (by omega)).mono ?_
  rintro e w3 hw3
  obtain ⟨v3, rfl, hx3, hk3⟩ := hx2.step hM hw3
  have hA3 := hA2.kept hk3 (hx2.apart hg hn0)
  have hm3 := hx3.2.2.2
  clear hw3 hk3 hx2 hA2
  go_wp2_with fail
  go_end0
  have hfin := hx3.post hM (.tuple #[])
  try simp only [List.append_assoc] at hfin
  have hEE := HE.out
  try simp only [List.append_assoc] at hEE
  rw [hEE]
  exact hfin
set_option maxRecDepth 100000 in
set_option maxHeartbeats 1000000 in
theorem write_4 (base p : Nat) (T : TypeId) (v : Value) (bs : List Int) (s o l c f q y c0 c1 c2 c3 c4 c5 c6 c7 : Int) (fin : Bool) (d r : Sl) (ds : List Int) (rs : RS) (w : World) (h : Wtr w base p T v bs) (hl : bs.length ≤ 100000000000)
    (hf : Fits w (fun b => ¬ WS p v b) ⟨4, s, o, fin, l, c, f, q, y, c0, c1, c2, c3, c4, c5, c6, c7⟩ d r ds rs) (hr : rightB ⟨4, s, o, fin, l, c, f, q, y, c0, c1, c2, c3, c4, c5, c6, c7⟩ ds rs = true) (hbase : base ≤ w.heap.size) :
    Calls Try.prog 40 #[.pointer (some ⟨p, 0, none⟩), frV ⟨4, s, o, fin, l, c, f, q, y, c0, c1, c2, c3, c4, c5, c6, c7⟩ d r] w (WPost (.tuple #[]) w base p T v (bs ++ oneS ⟨4, s, o, fin, l, c, f, q, y, c0, c1, c2, c3, c4, c5, c6, c7⟩ ds rs)) := by
  obtain ⟨hwf, hdt, hrg⟩ := hf
  have hwb := wkS_bd ⟨4, s, o, fin, l, c, f, q, y, c0, c1, c2, c3, c4, c5, c6, c7⟩ (show (0 : Int) ≤ 4 from by decide) (show (4 : Int) ≤ 30 from by decide)
  have hbd : (s ≤ 4611686018427387903 ∧ c ≤ 4611686018427387903 ∧ f ≤ 4611686018427387903) := by
    simp [rightB, askN, nrB, smB, drB, FN.zero, knownB, askDs] at hr
    first | trivial | omega | exact ⟨by omega, hr.2⟩
  have hs0 := hwf.s0
  have ho0 := hwf.o0
  have hl0 := hwf.l0
  have hc0 := hwf.c0
  have hf0 := hwf.f0
  have hq0 := hwf.q0
  have hy0 := hwf.y0
  simp only at hs0 ho0 hl0 hc0 hf0 hq0 hy0
  have hcid : Byt (cidL ⟨4, s, o, fin, l, c, f, q, y, c0, c1, c2, c3, c4, c5, c6, c7⟩) := hwf.cid
  have hE : bs ++ oneS ⟨4, s, o, fin, l, c, f, q, y, c0, c1, c2, c3, c4, c5, c6, c7⟩ ds rs = bs ++ (putS (wkS ⟨4, s, o, fin, l, c, f, q, y, c0, c1, c2, c3, c4, c5, c6, c7⟩) ++ bodyS ⟨4, s, o, fin, l, c, f, q, y, c0, c1, c2, c3, c4, c5, c6, c7⟩ ds rs) := rfl
  have hbod : bodyS ⟨4, s, o, fin, l, c, f, q, y, c0, c1, c2, c3, c4, c5, c6, c7⟩ ds rs = putL [s, c, f] := by
    simp [bodyS]
  rw [hbod] at hE
  have HE := Lib.hid hE
  clear hE hbod hr
  have hW := h
  have hB0 : Below w.heap.size w (w.alloc (.cells (frL ⟨4, s, o, fin, l, c, f, q, y, c0, c1, c2, c3, c4, c5, c6, c7⟩ d r).toArray 31)) := (Below.refl _ _).alloc (Nat.le_refl _) _
  have hA0 : At (w.alloc (.cells (frL ⟨4, s, o, fin, l, c, f, q, y, c0, c1, c2, c3, c4, c5, c6, c7⟩ d r).toArray 31)) w.heap.size 31 (frL ⟨4, s, o, fin, l, c, f, q, y, c0, c1, c2, c3, c4, c5, c6, c7⟩ d r) := At.new w _ _
  have hx0 := WSx.refl hW hB0
  have hM : w.heap.size ≤ (w.alloc (.cells (frL ⟨4, s, o, fin, l, c, f, q, y, c0, c1, c2, c3, c4, c5, c6, c7⟩ d r).toArray 31)).heap.size := hB0.size
  have hg : w.heap.size < (w.alloc (.cells (frL ⟨4, s, o, fin, l, c, f, q, y, c0, c1, c2, c3, c4, c5, c6, c7⟩ d r).toArray 31)).heap.size := hA0.lt
  have hn0 := hW.not_new (g := w.heap.size) (Nat.le_refl _)
  have hwk := wk_any ⟨4, s, o, fin, l, c, f, q, y, c0, c1, c2, c3, c4, c5, c6, c7⟩ d r
  obtain ⟨kv, hkv⟩ : ∃ x, wkS ⟨4, s, o, fin, l, c, f, q, y, c0, c1, c2, c3, c4, c5, c6, c7⟩ = x := ⟨_, rfl⟩
  rw [hkv] at hwb hwk HE
  clear hkv
  have HWK := Lib.hid (fun W => hwk W (show (0 : Int) ≤ 4 from by decide) (show (4 : Int) ≤ 30 from by decide) ho0)
  clear hwk
  have HWF := Lib.hid hwf
  have HDT := Lib.hid hdt
  have HRG := Lib.hid hrg
  have HCID := Lib.hid hcid
  clear hwf hdt hrg hcid
  obtain ⟨L, hL⟩ : ∃ L, frL ⟨4, s, o, fin, l, c, f, q, y, c0, c1, c2, c3, c4, c5, c6, c7⟩ d r = L := ⟨_, rfl⟩
  have hLl : L.length = 19 := by rw [← hL]; rfl
  have hfv : frV ⟨4, s, o, fin, l, c, f, q, y, c0, c1, c2, c3, c4, c5, c6, c7⟩ d r = .agg L.toArray := by rw [← hL]; rfl
  have hl_0 : L[0]? = some (.int .i64 4) := by rw [← hL]; rfl
  have hl_1 : L[1]? = some (.int .u64 s) := by rw [← hL]; rfl
  have hl_6 : L[6]? = some (.int .u64 c) := by rw [← hL]; rfl
  have hl_7 : L[7]? = some (.int .u64 f) := by rw [← hL]; rfl
  rw [hL] at hA0 hB0 hx0 hM hg
  rw [hfv] at HWK ⊢
  clear hL hfv
  have HL0 := Lib.hid hl_0
  clear hl_0
  have HL1 := Lib.hid hl_1
  clear hl_1
  have HL6 := Lib.hid hl_6
  clear hl_6
  have HL7 := Lib.hid hl_7
  clear hl_7
  have HLl := Lib.hid hLl
  clear hLl
  obtain ⟨dA, dn, dc⟩ := d
  obtain ⟨M, hMM⟩ : ∃ M, (w.alloc (.cells L.toArray 31)).heap.size = M := ⟨_, rfl⟩
  rw [hMM] at hx0 hM hg
  have HMM := Lib.hid hMM
  clear hMM
  go_enter Try.func40, Try.ntmps40
  go_wp2_with (first | ((with_reducible refine at_ld ?_); refine ld_fr_g _ _ (by rfl) (by rfl) hA0 HLl.out ?_) | fail)
  refine (HWK.out _).mono ?_
  rintro e w1 ⟨rfl, hb1⟩
  have hA1 := hA0.below hb1 (by rw [HMM.out]; exact hg)
  have hx1 := hx0.below hb1
  clear hA0 hx0 hb1
  have hm1 := hx1.2.2.2
  go_wp2_with fail
  refine (wvar_yes base p T v bs kv _ hx1.1 (by omega) hwb.1 (by omega) (by omega)).mono ?_
  rintro e w2 hw2
  obtain ⟨v2, rfl, hx2, hk2⟩ := hx1.step hM hw2
  have hA2 := hA1.kept hk2 (hx1.apart hg hn0)
  have hm2 := hx2.2.2.2
  clear hw2 hk2 hx1 hA1
  have e0 := (hA2.cell 0).trans HL0.out
  have f1 := (hA2.cell 1).trans HL1.out
  have f6 := (hA2.cell 6).trans HL6.out
  have f7 := (hA2.cell 7).trans HL7.out
  go_wp2_with fail
  have hU := UsP.new w2 (fun b => ¬ WS p v2 b) 25 [s, c, f] (by intro x hx; simp at hx; omega) _ rfl w2.heap.size rfl (hx2.1.not_new (Nat.le_refl _))
  have hxa := hx2.alloc (.cells #[.int .u64 s, .int .u64 c, .int .u64 f] 25)
  have hAa := hA2.alloc (.cells #[.int .u64 s, .int .u64 c, .int .u64 f] 25)
  refine (wvars_any base p T v2 _ [s, c, f] _ 3 3 _ hxa.1 (by simp only [List.length_append, List.length_cons, List.length_nil]; have z0 := putS_le kv; omega) (by omega) (by omega) hU (by intro x hx; simp at hx; omega) (by have := hxa.2.2.2; omega)).mono ?_
  rintro e w3 hw3
  obtain ⟨v3, rfl, hx3, hk3⟩ := hxa.step hM hw3
  have hA3 := hAa.kept hk3 (hxa.apart hg hn0)
  have hm3 := hx3.2.2.2
  clear hw3 hk3 hx2 hA2 hxa hAa hU
  clear f1 f6 f7
  go_wp2_with fail
  go_end0
  have hfin := hx3.post hM (.tuple #[])
  try simp only [List.append_assoc] at hfin
  have hEE := HE.out
  try simp only [List.append_assoc] at hEE
  rw [hEE]
  exact hfin
set_option maxRecDepth 100000 in
set_option maxHeartbeats 1000000 in
theorem write_5 (base p : Nat) (T : TypeId) (v : Value) (bs : List Int) (s o l c f q y c0 c1 c2 c3 c4 c5 c6 c7 : Int) (fin : Bool) (d r : Sl) (ds : List Int) (rs : RS) (w : World) (h : Wtr w base p T v bs) (hl : bs.length ≤ 100000000000)
    (hf : Fits w (fun b => ¬ WS p v b) ⟨5, s, o, fin, l, c, f, q, y, c0, c1, c2, c3, c4, c5, c6, c7⟩ d r ds rs) (hr : rightB ⟨5, s, o, fin, l, c, f, q, y, c0, c1, c2, c3, c4, c5, c6, c7⟩ ds rs = true) (hbase : base ≤ w.heap.size) :
    Calls Try.prog 40 #[.pointer (some ⟨p, 0, none⟩), frV ⟨5, s, o, fin, l, c, f, q, y, c0, c1, c2, c3, c4, c5, c6, c7⟩ d r] w (WPost (.tuple #[]) w base p T v (bs ++ oneS ⟨5, s, o, fin, l, c, f, q, y, c0, c1, c2, c3, c4, c5, c6, c7⟩ ds rs)) := by
  obtain ⟨hwf, hdt, hrg⟩ := hf
  have hwb := wkS_bd ⟨5, s, o, fin, l, c, f, q, y, c0, c1, c2, c3, c4, c5, c6, c7⟩ (show (0 : Int) ≤ 5 from by decide) (show (5 : Int) ≤ 30 from by decide)
  have hbd : (s ≤ 4611686018427387903 ∧ c ≤ 4611686018427387903) := by
    simp [rightB, askN, nrB, smB, drB, FN.zero, knownB, askDs] at hr
    first | trivial | omega | exact ⟨by omega, hr.2⟩
  have hs0 := hwf.s0
  have ho0 := hwf.o0
  have hl0 := hwf.l0
  have hc0 := hwf.c0
  have hf0 := hwf.f0
  have hq0 := hwf.q0
  have hy0 := hwf.y0
  simp only at hs0 ho0 hl0 hc0 hf0 hq0 hy0
  have hcid : Byt (cidL ⟨5, s, o, fin, l, c, f, q, y, c0, c1, c2, c3, c4, c5, c6, c7⟩) := hwf.cid
  have hE : bs ++ oneS ⟨5, s, o, fin, l, c, f, q, y, c0, c1, c2, c3, c4, c5, c6, c7⟩ ds rs = bs ++ (putS (wkS ⟨5, s, o, fin, l, c, f, q, y, c0, c1, c2, c3, c4, c5, c6, c7⟩) ++ bodyS ⟨5, s, o, fin, l, c, f, q, y, c0, c1, c2, c3, c4, c5, c6, c7⟩ ds rs) := rfl
  have hbod : bodyS ⟨5, s, o, fin, l, c, f, q, y, c0, c1, c2, c3, c4, c5, c6, c7⟩ ds rs = putL [s, c] := by
    simp [bodyS]
  rw [hbod] at hE
  have HE := Lib.hid hE
  clear hE hbod hr
  have hW := h
  have hB0 : Below w.heap.size w (w.alloc (.cells (frL ⟨5, s, o, fin, l, c, f, q, y, c0, c1, c2, c3, c4, c5, c6, c7⟩ d r).toArray 31)) := (Below.refl _ _).alloc (Nat.le_refl _) _
  have hA0 : At (w.alloc (.cells (frL ⟨5, s, o, fin, l, c, f, q, y, c0, c1, c2, c3, c4, c5, c6, c7⟩ d r).toArray 31)) w.heap.size 31 (frL ⟨5, s, o, fin, l, c, f, q, y, c0, c1, c2, c3, c4, c5, c6, c7⟩ d r) := At.new w _ _
  have hx0 := WSx.refl hW hB0
  have hM : w.heap.size ≤ (w.alloc (.cells (frL ⟨5, s, o, fin, l, c, f, q, y, c0, c1, c2, c3, c4, c5, c6, c7⟩ d r).toArray 31)).heap.size := hB0.size
  have hg : w.heap.size < (w.alloc (.cells (frL ⟨5, s, o, fin, l, c, f, q, y, c0, c1, c2, c3, c4, c5, c6, c7⟩ d r).toArray 31)).heap.size := hA0.lt
  have hn0 := hW.not_new (g := w.heap.size) (Nat.le_refl _)
  have hwk := wk_any ⟨5, s, o, fin, l, c, f, q, y, c0, c1, c2, c3, c4, c5, c6, c7⟩ d r
  obtain ⟨kv, hkv⟩ : ∃ x, wkS ⟨5, s, o, fin, l, c, f, q, y, c0, c1, c2, c3, c4, c5, c6, c7⟩ = x := ⟨_, rfl⟩
  rw [hkv] at hwb hwk HE
  clear hkv
  have HWK := Lib.hid (fun W => hwk W (show (0 : Int) ≤ 5 from by decide) (show (5 : Int) ≤ 30 from by decide) ho0)
  clear hwk
  have HWF := Lib.hid hwf
  have HDT := Lib.hid hdt
  have HRG := Lib.hid hrg
  have HCID := Lib.hid hcid
  clear hwf hdt hrg hcid
  obtain ⟨L, hL⟩ : ∃ L, frL ⟨5, s, o, fin, l, c, f, q, y, c0, c1, c2, c3, c4, c5, c6, c7⟩ d r = L := ⟨_, rfl⟩
  have hLl : L.length = 19 := by rw [← hL]; rfl
  have hfv : frV ⟨5, s, o, fin, l, c, f, q, y, c0, c1, c2, c3, c4, c5, c6, c7⟩ d r = .agg L.toArray := by rw [← hL]; rfl
  have hl_0 : L[0]? = some (.int .i64 5) := by rw [← hL]; rfl
  have hl_1 : L[1]? = some (.int .u64 s) := by rw [← hL]; rfl
  have hl_6 : L[6]? = some (.int .u64 c) := by rw [← hL]; rfl
  rw [hL] at hA0 hB0 hx0 hM hg
  rw [hfv] at HWK ⊢
  clear hL hfv
  have HL0 := Lib.hid hl_0
  clear hl_0
  have HL1 := Lib.hid hl_1
  clear hl_1
  have HL6 := Lib.hid hl_6
  clear hl_6
  have HLl := Lib.hid hLl
  clear hLl
  obtain ⟨dA, dn, dc⟩ := d
  obtain ⟨M, hMM⟩ : ∃ M, (w.alloc (.cells L.toArray 31)).heap.size = M := ⟨_, rfl⟩
  rw [hMM] at hx0 hM hg
  have HMM := Lib.hid hMM
  clear hMM
  go_enter Try.func40, Try.ntmps40
  go_wp2_with (first | ((with_reducible refine at_ld ?_); refine ld_fr_g _ _ (by rfl) (by rfl) hA0 HLl.out ?_) | fail)
  refine (HWK.out _).mono ?_
  rintro e w1 ⟨rfl, hb1⟩
  have hA1 := hA0.below hb1 (by rw [HMM.out]; exact hg)
  have hx1 := hx0.below hb1
  clear hA0 hx0 hb1
  have hm1 := hx1.2.2.2
  go_wp2_with fail
  refine (wvar_yes base p T v bs kv _ hx1.1 (by omega) hwb.1 (by omega) (by omega)).mono ?_
  rintro e w2 hw2
  obtain ⟨v2, rfl, hx2, hk2⟩ := hx1.step hM hw2
  have hA2 := hA1.kept hk2 (hx1.apart hg hn0)
  have hm2 := hx2.2.2.2
  clear hw2 hk2 hx1 hA1
  have e0 := (hA2.cell 0).trans HL0.out
  have f1 := (hA2.cell 1).trans HL1.out
  have f6 := (hA2.cell 6).trans HL6.out
  go_wp2_with fail
  have hU := UsP.new w2 (fun b => ¬ WS p v2 b) 25 [s, c] (by intro x hx; simp at hx; omega) _ rfl w2.heap.size rfl (hx2.1.not_new (Nat.le_refl _))
  have hxa := hx2.alloc (.cells #[.int .u64 s, .int .u64 c] 25)
  have hAa := hA2.alloc (.cells #[.int .u64 s, .int .u64 c] 25)
  refine (wvars_any base p T v2 _ [s, c] _ 2 2 _ hxa.1 (by simp only [List.length_append, List.length_cons, List.length_nil]; have z0 := putS_le kv; omega) (by omega) (by omega) hU (by intro x hx; simp at hx; omega) (by have := hxa.2.2.2; omega)).mono ?_
  rintro e w3 hw3
  obtain ⟨v3, rfl, hx3, hk3⟩ := hxa.step hM hw3
  have hA3 := hAa.kept hk3 (hxa.apart hg hn0)
  have hm3 := hx3.2.2.2
  clear hw3 hk3 hx2 hA2 hxa hAa hU
  clear f1 f6
  go_wp2_with fail
  go_end0
  have hfin := hx3.post hM (.tuple #[])
  try simp only [List.append_assoc] at hfin
  have hEE := HE.out
  try simp only [List.append_assoc] at hEE
  rw [hEE]
  exact hfin
set_option maxRecDepth 100000 in
set_option maxHeartbeats 1000000 in
theorem write_6 (base p : Nat) (T : TypeId) (v : Value) (bs : List Int) (s o l c f q y c0 c1 c2 c3 c4 c5 c6 c7 : Int) (fin : Bool) (d r : Sl) (ds : List Int) (rs : RS) (w : World) (h : Wtr w base p T v bs) (hl : bs.length ≤ 100000000000)
    (hf : Fits w (fun b => ¬ WS p v b) ⟨6, s, o, fin, l, c, f, q, y, c0, c1, c2, c3, c4, c5, c6, c7⟩ d r ds rs) (hr : rightB ⟨6, s, o, fin, l, c, f, q, y, c0, c1, c2, c3, c4, c5, c6, c7⟩ ds rs = true) (hbase : base ≤ w.heap.size) :
    Calls Try.prog 40 #[.pointer (some ⟨p, 0, none⟩), frV ⟨6, s, o, fin, l, c, f, q, y, c0, c1, c2, c3, c4, c5, c6, c7⟩ d r] w (WPost (.tuple #[]) w base p T v (bs ++ oneS ⟨6, s, o, fin, l, c, f, q, y, c0, c1, c2, c3, c4, c5, c6, c7⟩ ds rs)) := by
  obtain ⟨hwf, hdt, hrg⟩ := hf
  have hwb := wkS_bd ⟨6, s, o, fin, l, c, f, q, y, c0, c1, c2, c3, c4, c5, c6, c7⟩ (show (0 : Int) ≤ 6 from by decide) (show (6 : Int) ≤ 30 from by decide)
  have hbd : (o ≤ 4611686018427387903 ∧ ds.length ≤ 512) := by
    simp [rightB, askN, nrB, smB, drB, FN.zero, knownB, askDs] at hr
    first | trivial | omega | exact ⟨by omega, hr.2⟩
  have hs0 := hwf.s0
  have ho0 := hwf.o0
  have hl0 := hwf.l0
  have hc0 := hwf.c0
  have hf0 := hwf.f0
  have hq0 := hwf.q0
  have hy0 := hwf.y0
  simp only at hs0 ho0 hl0 hc0 hf0 hq0 hy0
  have hcid : Byt (cidL ⟨6, s, o, fin, l, c, f, q, y, c0, c1, c2, c3, c4, c5, c6, c7⟩) := hwf.cid
  have hE : bs ++ oneS ⟨6, s, o, fin, l, c, f, q, y, c0, c1, c2, c3, c4, c5, c6, c7⟩ ds rs = bs ++ (putS (wkS ⟨6, s, o, fin, l, c, f, q, y, c0, c1, c2, c3, c4, c5, c6, c7⟩) ++ bodyS ⟨6, s, o, fin, l, c, f, q, y, c0, c1, c2, c3, c4, c5, c6, c7⟩ ds rs) := rfl
  have hbod : bodyS ⟨6, s, o, fin, l, c, f, q, y, c0, c1, c2, c3, c4, c5, c6, c7⟩ ds rs = putS o ++ textB ds := by
    simp [bodyS]
  rw [hbod] at hE
  have HE := Lib.hid hE
  clear hE hbod hr
  have hW := h
  have hB0 : Below w.heap.size w (w.alloc (.cells (frL ⟨6, s, o, fin, l, c, f, q, y, c0, c1, c2, c3, c4, c5, c6, c7⟩ d r).toArray 31)) := (Below.refl _ _).alloc (Nat.le_refl _) _
  have hA0 : At (w.alloc (.cells (frL ⟨6, s, o, fin, l, c, f, q, y, c0, c1, c2, c3, c4, c5, c6, c7⟩ d r).toArray 31)) w.heap.size 31 (frL ⟨6, s, o, fin, l, c, f, q, y, c0, c1, c2, c3, c4, c5, c6, c7⟩ d r) := At.new w _ _
  have hx0 := WSx.refl hW hB0
  have hM : w.heap.size ≤ (w.alloc (.cells (frL ⟨6, s, o, fin, l, c, f, q, y, c0, c1, c2, c3, c4, c5, c6, c7⟩ d r).toArray 31)).heap.size := hB0.size
  have hg : w.heap.size < (w.alloc (.cells (frL ⟨6, s, o, fin, l, c, f, q, y, c0, c1, c2, c3, c4, c5, c6, c7⟩ d r).toArray 31)).heap.size := hA0.lt
  have hn0 := hW.not_new (g := w.heap.size) (Nat.le_refl _)
  have hwk := wk_any ⟨6, s, o, fin, l, c, f, q, y, c0, c1, c2, c3, c4, c5, c6, c7⟩ d r
  obtain ⟨kv, hkv⟩ : ∃ x, wkS ⟨6, s, o, fin, l, c, f, q, y, c0, c1, c2, c3, c4, c5, c6, c7⟩ = x := ⟨_, rfl⟩
  rw [hkv] at hwb hwk HE
  clear hkv
  have HWK := Lib.hid (fun W => hwk W (show (0 : Int) ≤ 6 from by decide) (show (6 : Int) ≤ 30 from by decide) ho0)
  clear hwk
  have HWF := Lib.hid hwf
  have HDT := Lib.hid hdt
  have HRG := Lib.hid hrg
  have HCID := Lib.hid hcid
  clear hwf hdt hrg hcid
  obtain ⟨L, hL⟩ : ∃ L, frL ⟨6, s, o, fin, l, c, f, q, y, c0, c1, c2, c3, c4, c5, c6, c7⟩ d r = L := ⟨_, rfl⟩
  have hLl : L.length = 19 := by rw [← hL]; rfl
  have hfv : frV ⟨6, s, o, fin, l, c, f, q, y, c0, c1, c2, c3, c4, c5, c6, c7⟩ d r = .agg L.toArray := by rw [← hL]; rfl
  have hl_0 : L[0]? = some (.int .i64 6) := by rw [← hL]; rfl
  have hl_2 : L[2]? = some (.int .u64 o) := by rw [← hL]; rfl
  have hl_3 : L[3]? = some (.slice d.A d.n d.c) := by rw [← hL]; rfl
  rw [hL] at hA0 hB0 hx0 hM hg
  rw [hfv] at HWK ⊢
  clear hL hfv
  have HL0 := Lib.hid hl_0
  clear hl_0
  have HL2 := Lib.hid hl_2
  clear hl_2
  have HL3 := Lib.hid hl_3
  clear hl_3
  have HLl := Lib.hid hLl
  clear hLl
  obtain ⟨dA, dn, dc⟩ := d
  obtain ⟨M, hMM⟩ : ∃ M, (w.alloc (.cells L.toArray 31)).heap.size = M := ⟨_, rfl⟩
  rw [hMM] at hx0 hM hg
  have HMM := Lib.hid hMM
  clear hMM
  have hdc := HDT.out.cm
  have hdl := HDT.out.lc
  have hdn := HDT.out.rd.len
  simp only at hdc hdl hdn
  unfold maxLen at hdc
  have hdn' : dn ≤ 512 := by omega
  have HDN := Lib.hid hdn
  clear hdn
  go_enter Try.func40, Try.ntmps40
  go_wp2_with (first | ((with_reducible refine at_ld ?_); refine ld_fr_g _ _ (by rfl) (by rfl) hA0 HLl.out ?_) | fail)
  refine (HWK.out _).mono ?_
  rintro e w1 ⟨rfl, hb1⟩
  have hA1 := hA0.below hb1 (by rw [HMM.out]; exact hg)
  have hx1 := hx0.below hb1
  clear hA0 hx0 hb1
  have hm1 := hx1.2.2.2
  go_wp2_with fail
  refine (wvar_yes base p T v bs kv _ hx1.1 (by omega) hwb.1 (by omega) (by omega)).mono ?_
  rintro e w2 hw2
  obtain ⟨v2, rfl, hx2, hk2⟩ := hx1.step hM hw2
  have hA2 := hA1.kept hk2 (hx1.apart hg hn0)
  have hm2 := hx2.2.2.2
  clear hw2 hk2 hx1 hA1
  have e0 := (hA2.cell 0).trans HL0.out
  have f2 := (hA2.cell 2).trans HL2.out
  go_wp2_with fail
  refine (wvar_yes base p T v2 _ o _ hx2.1 (by simp only [List.length_append, List.length_cons, List.length_nil]; have z0 := putS_le kv; omega) ho0 (by omega) (by omega)).mono ?_
  rintro e w3 hw3
  obtain ⟨v3, rfl, hx3, hk3⟩ := hx2.step hM hw3
  have hA3 := hA2.kept hk3 (hx2.apart hg hn0)
  have hm3 := hx3.2.2.2
  clear hw3 hk3 hx2 hA2
  clear f2
  have f3 := (hA3.cell 3).trans HL3.out
  go_wp2_with fail
  have hrw := hx3.row hM HDT.out
  refine (wtext_any base p T v3 _ dA dn dc ds _ hx3.1 (by simp only [List.length_append, List.length_cons, List.length_nil]; have z0 := putS_le kv; have z1 := putS_le o; omega) (by omega) hrw.1 hrw.2 (by omega)).mono ?_
  rintro e w4 hw4
  obtain ⟨v4, rfl, hx4, hk4⟩ := hx3.step hM hw4
  have hA4 := hA3.kept hk4 (hx3.apart hg hn0)
  have hm4 := hx4.2.2.2
  clear hw4 hk4 hx3 hA3
  clear f3
  go_wp2_with fail
  go_end0
  have hfin := hx4.post hM (.tuple #[])
  try simp only [List.append_assoc] at hfin
  have hEE := HE.out
  try simp only [List.append_assoc] at hEE
  rw [hEE]
  exact hfin
set_option maxRecDepth 100000 in
set_option maxHeartbeats 1000000 in
theorem write_8p (base p : Nat) (T : TypeId) (v : Value) (bs : List Int) (s o l c f q y c0 c1 c2 c3 c4 c5 c6 c7 : Int) (fin : Bool) (d r : Sl) (ds : List Int) (rs : RS) (w : World) (h : Wtr w base p T v bs) (hl : bs.length ≤ 100000000000)
    (hf : Fits w (fun b => ¬ WS p v b) ⟨8, s, o, fin, l, c, f, q, y, c0, c1, c2, c3, c4, c5, c6, c7⟩ d r ds rs) (hr : rightB ⟨8, s, o, fin, l, c, f, q, y, c0, c1, c2, c3, c4, c5, c6, c7⟩ ds rs = true) (hof : 0 < o) (hbase : base ≤ w.heap.size) :
    Calls Try.prog 40 #[.pointer (some ⟨p, 0, none⟩), frV ⟨8, s, o, fin, l, c, f, q, y, c0, c1, c2, c3, c4, c5, c6, c7⟩ d r] w (WPost (.tuple #[]) w base p T v (bs ++ oneS ⟨8, s, o, fin, l, c, f, q, y, c0, c1, c2, c3, c4, c5, c6, c7⟩ ds rs)) := by
  obtain ⟨hwf, hdt, hrg⟩ := hf
  have hwb := wkS_bd ⟨8, s, o, fin, l, c, f, q, y, c0, c1, c2, c3, c4, c5, c6, c7⟩ (show (0 : Int) ≤ 8 from by decide) (show (8 : Int) ≤ 30 from by decide)
  have hbd : (s ≤ 4611686018427387903 ∧ o ≤ 4611686018427387903 ∧ ds.length ≤ 512) := by
    simp [rightB, askN, nrB, smB, drB, FN.zero, knownB, askDs] at hr
    first | trivial | omega | exact ⟨by omega, hr.2⟩
  have hs0 := hwf.s0
  have ho0 := hwf.o0
  have hl0 := hwf.l0
  have hc0 := hwf.c0
  have hf0 := hwf.f0
  have hq0 := hwf.q0
  have hy0 := hwf.y0
  simp only at hs0 ho0 hl0 hc0 hf0 hq0 hy0
  have hcid : Byt (cidL ⟨8, s, o, fin, l, c, f, q, y, c0, c1, c2, c3, c4, c5, c6, c7⟩) := hwf.cid
  have hE : bs ++ oneS ⟨8, s, o, fin, l, c, f, q, y, c0, c1, c2, c3, c4, c5, c6, c7⟩ ds rs = bs ++ (putS (wkS ⟨8, s, o, fin, l, c, f, q, y, c0, c1, c2, c3, c4, c5, c6, c7⟩) ++ bodyS ⟨8, s, o, fin, l, c, f, q, y, c0, c1, c2, c3, c4, c5, c6, c7⟩ ds rs) := rfl
  have hbod : bodyS ⟨8, s, o, fin, l, c, f, q, y, c0, c1, c2, c3, c4, c5, c6, c7⟩ ds rs = putS s ++ putS o ++ textB ds := by
    simp [bodyS, hof]
  rw [hbod] at hE
  have HE := Lib.hid hE
  clear hE hbod hr
  have hof' : decide (0 < o) = true := by simpa using hof
  have hW := h
  have hB0 : Below w.heap.size w (w.alloc (.cells (frL ⟨8, s, o, fin, l, c, f, q, y, c0, c1, c2, c3, c4, c5, c6, c7⟩ d r).toArray 31)) := (Below.refl _ _).alloc (Nat.le_refl _) _
  have hA0 : At (w.alloc (.cells (frL ⟨8, s, o, fin, l, c, f, q, y, c0, c1, c2, c3, c4, c5, c6, c7⟩ d r).toArray 31)) w.heap.size 31 (frL ⟨8, s, o, fin, l, c, f, q, y, c0, c1, c2, c3, c4, c5, c6, c7⟩ d r) := At.new w _ _
  have hx0 := WSx.refl hW hB0
  have hM : w.heap.size ≤ (w.alloc (.cells (frL ⟨8, s, o, fin, l, c, f, q, y, c0, c1, c2, c3, c4, c5, c6, c7⟩ d r).toArray 31)).heap.size := hB0.size
  have hg : w.heap.size < (w.alloc (.cells (frL ⟨8, s, o, fin, l, c, f, q, y, c0, c1, c2, c3, c4, c5, c6, c7⟩ d r).toArray 31)).heap.size := hA0.lt
  have hn0 := hW.not_new (g := w.heap.size) (Nat.le_refl _)
  have hwk := wk_any ⟨8, s, o, fin, l, c, f, q, y, c0, c1, c2, c3, c4, c5, c6, c7⟩ d r
  obtain ⟨kv, hkv⟩ : ∃ x, wkS ⟨8, s, o, fin, l, c, f, q, y, c0, c1, c2, c3, c4, c5, c6, c7⟩ = x := ⟨_, rfl⟩
  rw [hkv] at hwb hwk HE
  clear hkv
  have HWK := Lib.hid (fun W => hwk W (show (0 : Int) ≤ 8 from by decide) (show (8 : Int) ≤ 30 from by decide) ho0)
  clear hwk
  have HWF := Lib.hid hwf
  have HDT := Lib.hid hdt
  have HRG := Lib.hid hrg
  have HCID := Lib.hid hcid
  clear hwf hdt hrg hcid
  obtain ⟨L, hL⟩ : ∃ L, frL ⟨8, s, o, fin, l, c, f, q, y, c0, c1, c2, c3, c4, c5, c6, c7⟩ d r = L := ⟨_, rfl⟩
  have hLl : L.length = 19 := by rw [← hL]; rfl
  have hfv : frV ⟨8, s, o, fin, l, c, f, q, y, c0, c1, c2, c3, c4, c5, c6, c7⟩ d r = .agg L.toArray := by rw [← hL]; rfl
  have hl_0 : L[0]? = some (.int .i64 8) := by rw [← hL]; rfl
  have hl_1 : L[1]? = some (.int .u64 s) := by rw [← hL]; rfl
  have hl_2 : L[2]? = some (.int .u64 o) := by rw [← hL]; rfl
  have hl_3 : L[3]? = some (.slice d.A d.n d.c) := by rw [← hL]; rfl
  rw [hL] at hA0 hB0 hx0 hM hg
  rw [hfv] at HWK ⊢
  clear hL hfv
  have HL0 := Lib.hid hl_0
  clear hl_0
  have HL1 := Lib.hid hl_1
  clear hl_1
  have HL2 := Lib.hid hl_2
  clear hl_2
  have HL3 := Lib.hid hl_3
  clear hl_3
  have HLl := Lib.hid hLl
  clear hLl
  obtain ⟨dA, dn, dc⟩ := d
  obtain ⟨M, hMM⟩ : ∃ M, (w.alloc (.cells L.toArray 31)).heap.size = M := ⟨_, rfl⟩
  rw [hMM] at hx0 hM hg
  have HMM := Lib.hid hMM
  clear hMM
  have hdc := HDT.out.cm
  have hdl := HDT.out.lc
  have hdn := HDT.out.rd.len
  simp only at hdc hdl hdn
  unfold maxLen at hdc
  have hdn' : dn ≤ 512 := by omega
  have HDN := Lib.hid hdn
  clear hdn
  go_enter Try.func40, Try.ntmps40
  go_wp2_with (first | ((with_reducible refine at_ld ?_); refine ld_fr_g _ _ (by rfl) (by rfl) hA0 HLl.out ?_) | fail)
  refine (HWK.out _).mono ?_
  rintro e w1 ⟨rfl, hb1⟩
  have hA1 := hA0.below hb1 (by rw [HMM.out]; exact hg)
  have hx1 := hx0.below hb1
  clear hA0 hx0 hb1
  have hm1 := hx1.2.2.2
  go_wp2_with fail
  refine (wvar_yes base p T v bs kv _ hx1.1 (by omega) hwb.1 (by omega) (by omega)).mono ?_
  rintro e w2 hw2
  obtain ⟨v2, rfl, hx2, hk2⟩ := hx1.step hM hw2
  have hA2 := hA1.kept hk2 (hx1.apart hg hn0)
  have hm2 := hx2.2.2.2
  clear hw2 hk2 hx1 hA1
  have e0 := (hA2.cell 0).trans HL0.out
  have f1 := (hA2.cell 1).trans HL1.out
  have f2 := (hA2.cell 2).trans HL2.out
  go_wp2_with fail
  refine (wvar_yes base p T v2 _ s _ hx2.1 (by simp only [List.length_append, List.length_cons, List.length_nil]; have z0 := putS_le kv; omega) hs0 (by omega) (by omega)).mono ?_
  rintro e w3 hw3
  obtain ⟨v3, rfl, hx3, hk3⟩ := hx2.step hM hw3
  have hA3 := hA2.kept hk3 (hx2.apart hg hn0)
  have hm3 := hx3.2.2.2
  clear hw3 hk3 hx2 hA2
  clear f1 f2
  have f2 := (hA3.cell 2).trans HL2.out
  go_wp2_with fail
  refine (wvar_yes base p T v3 _ o _ hx3.1 (by simp only [List.length_append, List.length_cons, List.length_nil]; have z0 := putS_le kv; have z1 := putS_le s; omega) ho0 (by omega) (by omega)).mono ?_
  rintro e w4 hw4
  obtain ⟨v4, rfl, hx4, hk4⟩ := hx3.step hM hw4
  have hA4 := hA3.kept hk4 (hx3.apart hg hn0)
  have hm4 := hx4.2.2.2
  clear hw4 hk4 hx3 hA3
  clear f2
  have f2 := (hA4.cell 2).trans HL2.out
  have f3 := (hA4.cell 3).trans HL3.out
  go_wp2_with fail
  have hrw := hx4.row hM HDT.out
  refine (wtext_any base p T v4 _ dA dn dc ds _ hx4.1 (by simp only [List.length_append, List.length_cons, List.length_nil]; have z0 := putS_le kv; have z1 := putS_le s; have z2 := putS_le o; omega) (by omega) hrw.1 hrw.2 (by omega)).mono ?_
  rintro e w5 hw5
  obtain ⟨v5, rfl, hx5, hk5⟩ := hx4.step hM hw5
  have hA5 := hA4.kept hk5 (hx4.apart hg hn0)
  have hm5 := hx5.2.2.2
  clear hw5 hk5 hx4 hA4
  clear f2 f3
  go_wp2_with fail
  go_end0
  have hfin := hx5.post hM (.tuple #[])
  try simp only [List.append_assoc] at hfin
  have hEE := HE.out
  try simp only [List.append_assoc] at hEE
  rw [hEE]
  exact hfin
set_option maxRecDepth 100000 in
set_option maxHeartbeats 1000000 in
theorem write_8z (base p : Nat) (T : TypeId) (v : Value) (bs : List Int) (s o l c f q y c0 c1 c2 c3 c4 c5 c6 c7 : Int) (fin : Bool) (d r : Sl) (ds : List Int) (rs : RS) (w : World) (h : Wtr w base p T v bs) (hl : bs.length ≤ 100000000000)
    (hf : Fits w (fun b => ¬ WS p v b) ⟨8, s, o, fin, l, c, f, q, y, c0, c1, c2, c3, c4, c5, c6, c7⟩ d r ds rs) (hr : rightB ⟨8, s, o, fin, l, c, f, q, y, c0, c1, c2, c3, c4, c5, c6, c7⟩ ds rs = true) (hof : o ≤ 0) (hbase : base ≤ w.heap.size) :
    Calls Try.prog 40 #[.pointer (some ⟨p, 0, none⟩), frV ⟨8, s, o, fin, l, c, f, q, y, c0, c1, c2, c3, c4, c5, c6, c7⟩ d r] w (WPost (.tuple #[]) w base p T v (bs ++ oneS ⟨8, s, o, fin, l, c, f, q, y, c0, c1, c2, c3, c4, c5, c6, c7⟩ ds rs)) := by
  obtain ⟨hwf, hdt, hrg⟩ := hf
  have hwb := wkS_bd ⟨8, s, o, fin, l, c, f, q, y, c0, c1, c2, c3, c4, c5, c6, c7⟩ (show (0 : Int) ≤ 8 from by decide) (show (8 : Int) ≤ 30 from by decide)
  have hbd : (s ≤ 4611686018427387903 ∧ o ≤ 4611686018427387903 ∧ ds.length ≤ 512) := by
    simp [rightB, askN, nrB, smB, drB, FN.zero, knownB, askDs] at hr
    first | trivial | omega | exact ⟨by omega, hr.2⟩
  have hs0 := hwf.s0
  have ho0 := hwf.o0
  have hl0 := hwf.l0
  have hc0 := hwf.c0
  have hf0 := hwf.f0
  have hq0 := hwf.q0
  have hy0 := hwf.y0
  simp only at hs0 ho0 hl0 hc0 hf0 hq0 hy0
  have hcid : Byt (cidL ⟨8, s, o, fin, l, c, f, q, y, c0, c1, c2, c3, c4, c5, c6, c7⟩) := hwf.cid
  have hE : bs ++ oneS ⟨8, s, o, fin, l, c, f, q, y, c0, c1, c2, c3, c4, c5, c6, c7⟩ ds rs = bs ++ (putS (wkS ⟨8, s, o, fin, l, c, f, q, y, c0, c1, c2, c3, c4, c5, c6, c7⟩) ++ bodyS ⟨8, s, o, fin, l, c, f, q, y, c0, c1, c2, c3, c4, c5, c6, c7⟩ ds rs) := rfl
  have hbod : bodyS ⟨8, s, o, fin, l, c, f, q, y, c0, c1, c2, c3, c4, c5, c6, c7⟩ ds rs = putS s ++ textB ds := by
    simp [bodyS, show ¬ 0 < o by omega]
  rw [hbod] at hE
  have HE := Lib.hid hE
  clear hE hbod hr
  have hof' : decide (0 < o) = false := by simp; omega
  have hW := h
  have hB0 : Below w.heap.size w (w.alloc (.cells (frL ⟨8, s, o, fin, l, c, f, q, y, c0, c1, c2, c3, c4, c5, c6, c7⟩ d r).toArray 31)) := (Below.refl _ _).alloc (Nat.le_refl _) _
  have hA0 : At (w.alloc (.cells (frL ⟨8, s, o, fin, l, c, f, q, y, c0, c1, c2, c3, c4, c5, c6, c7⟩ d r).toArray 31)) w.heap.size 31 (frL ⟨8, s, o, fin, l, c, f, q, y, c0, c1, c2, c3, c4, c5, c6, c7⟩ d r) := At.new w _ _
  have hx0 := WSx.refl hW hB0
  have hM : w.heap.size ≤ (w.alloc (.cells (frL ⟨8, s, o, fin, l, c, f, q, y, c0, c1, c2, c3, c4, c5, c6, c7⟩ d r).toArray 31)).heap.size := hB0.size
  have hg : w.heap.size < (w.alloc (.cells (frL ⟨8, s, o, fin, l, c, f, q, y, c0, c1, c2, c3, c4, c5, c6, c7⟩ d r).toArray 31)).heap.size := hA0.lt
  have hn0 := hW.not_new (g := w.heap.size) (Nat.le_refl _)
  have hwk := wk_any ⟨8, s, o, fin, l, c, f, q, y, c0, c1, c2, c3, c4, c5, c6, c7⟩ d r
  obtain ⟨kv, hkv⟩ : ∃ x, wkS ⟨8, s, o, fin, l, c, f, q, y, c0, c1, c2, c3, c4, c5, c6, c7⟩ = x := ⟨_, rfl⟩
  rw [hkv] at hwb hwk HE
  clear hkv
  have HWK := Lib.hid (fun W => hwk W (show (0 : Int) ≤ 8 from by decide) (show (8 : Int) ≤ 30 from by decide) ho0)
  clear hwk
  have HWF := Lib.hid hwf
  have HDT := Lib.hid hdt
  have HRG := Lib.hid hrg
  have HCID := Lib.hid hcid
  clear hwf hdt hrg hcid
  obtain ⟨L, hL⟩ : ∃ L, frL ⟨8, s, o, fin, l, c, f, q, y, c0, c1, c2, c3, c4, c5, c6, c7⟩ d r = L := ⟨_, rfl⟩
  have hLl : L.length = 19 := by rw [← hL]; rfl
  have hfv : frV ⟨8, s, o, fin, l, c, f, q, y, c0, c1, c2, c3, c4, c5, c6, c7⟩ d r = .agg L.toArray := by rw [← hL]; rfl
  have hl_0 : L[0]? = some (.int .i64 8) := by rw [← hL]; rfl
  have hl_1 : L[1]? = some (.int .u64 s) := by rw [← hL]; rfl
  have hl_2 : L[2]? = some (.int .u64 o) := by rw [← hL]; rfl
  have hl_3 : L[3]? = some (.slice d.A d.n d.c) := by rw [← hL]; rfl
  rw [hL] at hA0 hB0 hx0 hM hg
  rw [hfv] at HWK ⊢
  clear hL hfv
  have HL0 := Lib.hid hl_0
  clear hl_0
  have HL1 := Lib.hid hl_1
  clear hl_1
  have HL2 := Lib.hid hl_2
  clear hl_2
  have HL3 := Lib.hid hl_3
  clear hl_3
  have HLl := Lib.hid hLl
  clear hLl
  obtain ⟨dA, dn, dc⟩ := d
  obtain ⟨M, hMM⟩ : ∃ M, (w.alloc (.cells L.toArray 31)).heap.size = M := ⟨_, rfl⟩
  rw [hMM] at hx0 hM hg
  have HMM := Lib.hid hMM
  clear hMM
  have hdc := HDT.out.cm
  have hdl := HDT.out.lc
  have hdn := HDT.out.rd.len
  simp only at hdc hdl hdn
  unfold maxLen at hdc
  have hdn' : dn ≤ 512 := by omega
  have HDN := Lib.hid hdn
  clear hdn
  go_enter Try.func40, Try.ntmps40
  go_wp2_with (first | ((with_reducible refine at_ld ?_); refine ld_fr_g _ _ (by rfl) (by rfl) hA0 HLl.out ?_) | fail)
  refine (HWK.out _).mono ?_
  rintro e w1 ⟨rfl, hb1⟩
  have hA1 := hA0.below hb1 (by rw [HMM.out]; exact hg)
  have hx1 := hx0.below hb1
  clear hA0 hx0 hb1
  have hm1 := hx1.2.2.2
  go_wp2_with fail
  refine (wvar_yes base p T v bs kv _ hx1.1 (by omega) hwb.1 (by omega) (by omega)).mono ?_
  rintro e w2 hw2
  obtain ⟨v2, rfl, hx2, hk2⟩ := hx1.step hM hw2
  have hA2 := hA1.kept hk2 (hx1.apart hg hn0)
  have hm2 := hx2.2.2.2
  clear hw2 hk2 hx1 hA1
  have e0 := (hA2.cell 0).trans HL0.out
  have f1 := (hA2.cell 1).trans HL1.out
  have f2 := (hA2.cell 2).trans HL2.out
  go_wp2_with fail
  refine (wvar_yes base p T v2 _ s _ hx2.1 (by simp only [List.length_append, List.length_cons, List.length_nil]; have z0 := putS_le kv; omega) hs0 (by omega) (by omega)).mono ?_
  rintro e w3 hw3
  obtain ⟨v3, rfl, hx3, hk3⟩ := hx2.step hM hw3
  have hA3 := hA2.kept hk3 (hx2.apart hg hn0)
  have hm3 := hx3.2.2.2
  clear hw3 hk3 hx2 hA2
  clear f1 f2
  have f2 := (hA3.cell 2).trans HL2.out
  have f3 := (hA3.cell 3).trans HL3.out
  go_wp2_with fail
  have hrw := hx3.row hM HDT.out
  refine (wtext_any base p T v3 _ dA dn dc ds _ hx3.1 (by simp only [List.length_append, List.length_cons, List.length_nil]; have z0 := putS_le kv; have z1 := putS_le s; omega) (by omega) hrw.1 hrw.2 (by omega)).mono ?_
  rintro e w4 hw4
  obtain ⟨v4, rfl, hx4, hk4⟩ := hx3.step hM hw4
  have hA4 := hA3.kept hk4 (hx3.apart hg hn0)
  have hm4 := hx4.2.2.2
  clear hw4 hk4 hx3 hA3
  clear f2 f3
  go_wp2_with fail
  go_end0
  have hfin := hx4.post hM (.tuple #[])
  try simp only [List.append_assoc] at hfin
  have hEE := HE.out
  try simp only [List.append_assoc] at hEE
  rw [hEE]
  exact hfin
set_option maxRecDepth 100000 in
set_option maxHeartbeats 1000000 in
theorem write_16 (base p : Nat) (T : TypeId) (v : Value) (bs : List Int) (s o l c f q y c0 c1 c2 c3 c4 c5 c6 c7 : Int) (fin : Bool) (d r : Sl) (ds : List Int) (rs : RS) (w : World) (h : Wtr w base p T v bs) (hl : bs.length ≤ 100000000000)
    (hf : Fits w (fun b => ¬ WS p v b) ⟨16, s, o, fin, l, c, f, q, y, c0, c1, c2, c3, c4, c5, c6, c7⟩ d r ds rs) (hr : rightB ⟨16, s, o, fin, l, c, f, q, y, c0, c1, c2, c3, c4, c5, c6, c7⟩ ds rs = true) (hbase : base ≤ w.heap.size) :
    Calls Try.prog 40 #[.pointer (some ⟨p, 0, none⟩), frV ⟨16, s, o, fin, l, c, f, q, y, c0, c1, c2, c3, c4, c5, c6, c7⟩ d r] w (WPost (.tuple #[]) w base p T v (bs ++ oneS ⟨16, s, o, fin, l, c, f, q, y, c0, c1, c2, c3, c4, c5, c6, c7⟩ ds rs)) := by
  obtain ⟨hwf, hdt, hrg⟩ := hf
  have hwb := wkS_bd ⟨16, s, o, fin, l, c, f, q, y, c0, c1, c2, c3, c4, c5, c6, c7⟩ (show (0 : Int) ≤ 16 from by decide) (show (16 : Int) ≤ 30 from by decide)
  have hbd : (l ≤ 4611686018427387903) := by
    simp [rightB, askN, nrB, smB, drB, FN.zero, knownB, askDs] at hr
    first | trivial | omega | exact ⟨by omega, hr.2⟩
  have hs0 := hwf.s0
  have ho0 := hwf.o0
  have hl0 := hwf.l0
  have hc0 := hwf.c0
  have hf0 := hwf.f0
  have hq0 := hwf.q0
  have hy0 := hwf.y0
  simp only at hs0 ho0 hl0 hc0 hf0 hq0 hy0
  have hcid : Byt (cidL ⟨16, s, o, fin, l, c, f, q, y, c0, c1, c2, c3, c4, c5, c6, c7⟩) := hwf.cid
  have hE : bs ++ oneS ⟨16, s, o, fin, l, c, f, q, y, c0, c1, c2, c3, c4, c5, c6, c7⟩ ds rs = bs ++ (putS (wkS ⟨16, s, o, fin, l, c, f, q, y, c0, c1, c2, c3, c4, c5, c6, c7⟩) ++ bodyS ⟨16, s, o, fin, l, c, f, q, y, c0, c1, c2, c3, c4, c5, c6, c7⟩ ds rs) := rfl
  have hbod : bodyS ⟨16, s, o, fin, l, c, f, q, y, c0, c1, c2, c3, c4, c5, c6, c7⟩ ds rs = putS l := by
    simp [bodyS]
  rw [hbod] at hE
  have HE := Lib.hid hE
  clear hE hbod hr
  have hW := h
  have hB0 : Below w.heap.size w (w.alloc (.cells (frL ⟨16, s, o, fin, l, c, f, q, y, c0, c1, c2, c3, c4, c5, c6, c7⟩ d r).toArray 31)) := (Below.refl _ _).alloc (Nat.le_refl _) _
  have hA0 : At (w.alloc (.cells (frL ⟨16, s, o, fin, l, c, f, q, y, c0, c1, c2, c3, c4, c5, c6, c7⟩ d r).toArray 31)) w.heap.size 31 (frL ⟨16, s, o, fin, l, c, f, q, y, c0, c1, c2, c3, c4, c5, c6, c7⟩ d r) := At.new w _ _
  have hx0 := WSx.refl hW hB0
  have hM : w.heap.size ≤ (w.alloc (.cells (frL ⟨16, s, o, fin, l, c, f, q, y, c0, c1, c2, c3, c4, c5, c6, c7⟩ d r).toArray 31)).heap.size := hB0.size
  have hg : w.heap.size < (w.alloc (.cells (frL ⟨16, s, o, fin, l, c, f, q, y, c0, c1, c2, c3, c4, c5, c6, c7⟩ d r).toArray 31)).heap.size := hA0.lt
  have hn0 := hW.not_new (g := w.heap.size) (Nat.le_refl _)
  have hwk := wk_any ⟨16, s, o, fin, l, c, f, q, y, c0, c1, c2, c3, c4, c5, c6, c7⟩ d r
  obtain ⟨kv, hkv⟩ : ∃ x, wkS ⟨16, s, o, fin, l, c, f, q, y, c0, c1, c2, c3, c4, c5, c6, c7⟩ = x := ⟨_, rfl⟩
  rw [hkv] at hwb hwk HE
  clear hkv
  have HWK := Lib.hid (fun W => hwk W (show (0 : Int) ≤ 16 from by decide) (show (16 : Int) ≤ 30 from by decide) ho0)
  clear hwk
  have HWF := Lib.hid hwf
  have HDT := Lib.hid hdt
  have HRG := Lib.hid hrg
  have HCID := Lib.hid hcid
  clear hwf hdt hrg hcid
  obtain ⟨L, hL⟩ : ∃ L, frL ⟨16, s, o, fin, l, c, f, q, y, c0, c1, c2, c3, c4, c5, c6, c7⟩ d r = L := ⟨_, rfl⟩
  have hLl : L.length = 19 := by rw [← hL]; rfl
  have hfv : frV ⟨16, s, o, fin, l, c, f, q, y, c0, c1, c2, c3, c4, c5, c6, c7⟩ d r = .agg L.toArray := by rw [← hL]; rfl
  have hl_0 : L[0]? = some (.int .i64 16) := by rw [← hL]; rfl
  have hl_5 : L[5]? = some (.int .u64 l) := by rw [← hL]; rfl
  rw [hL] at hA0 hB0 hx0 hM hg
  rw [hfv] at HWK ⊢
  clear hL hfv
  have HL0 := Lib.hid hl_0
  clear hl_0
  have HL5 := Lib.hid hl_5
  clear hl_5
  have HLl := Lib.hid hLl
  clear hLl
  obtain ⟨dA, dn, dc⟩ := d
  obtain ⟨M, hMM⟩ : ∃ M, (w.alloc (.cells L.toArray 31)).heap.size = M := ⟨_, rfl⟩
  rw [hMM] at hx0 hM hg
  have HMM := Lib.hid hMM
  clear hMM
  go_enter Try.func40, Try.ntmps40
  go_wp2_with (first | ((with_reducible refine at_ld ?_); refine ld_fr_g _ _ (by rfl) (by rfl) hA0 HLl.out ?_) | fail)
  refine (HWK.out _).mono ?_
  rintro e w1 ⟨rfl, hb1⟩
  have hA1 := hA0.below hb1 (by rw [HMM.out]; exact hg)
  have hx1 := hx0.below hb1
  clear hA0 hx0 hb1
  have hm1 := hx1.2.2.2
  go_wp2_with fail
  refine (wvar_yes base p T v bs kv _ hx1.1 (by omega) hwb.1 (by omega) (by omega)).mono ?_
  rintro e w2 hw2
  obtain ⟨v2, rfl, hx2, hk2⟩ := hx1.step hM hw2
  have hA2 := hA1.kept hk2 (hx1.apart hg hn0)
  have hm2 := hx2.2.2.2
  clear hw2 hk2 hx1 hA1
  have e0 := (hA2.cell 0).trans HL0.out
  have f5 := (hA2.cell 5).trans HL5.out
  go_wp2_with fail
  refine (wvar_yes base p T v2 _ l _ hx2.1 (by simp only [List.length_append, List.length_cons, List.length_nil]; have z0 := putS_le kv; omega) hl0 (by omega) (by omega)).mono ?_
  rintro e w3 hw3
  obtain ⟨v3, rfl, hx3, hk3⟩ := hx2.step hM hw3
  have hA3 := hA2.kept hk3 (hx2.apart hg hn0)
  have hm3 := hx3.2.2.2
  clear hw3 hk3 hx2 hA2
  clear f5
  go_wp2_with fail
  go_end0
  have hfin := hx3.post hM (.tuple #[])
  try simp only [List.append_assoc] at hfin
  have hEE := HE.out
  try simp only [List.append_assoc] at hEE
  rw [hEE]
  exact hfin
set_option maxRecDepth 100000 in
set_option maxHeartbeats 1000000 in
theorem write_18 (base p : Nat) (T : TypeId) (v : Value) (bs : List Int) (s o l c f q y c0 c1 c2 c3 c4 c5 c6 c7 : Int) (fin : Bool) (d r : Sl) (ds : List Int) (rs : RS) (w : World) (h : Wtr w base p T v bs) (hl : bs.length ≤ 100000000000)
    (hf : Fits w (fun b => ¬ WS p v b) ⟨18, s, o, fin, l, c, f, q, y, c0, c1, c2, c3, c4, c5, c6, c7⟩ d r ds rs) (hr : rightB ⟨18, s, o, fin, l, c, f, q, y, c0, c1, c2, c3, c4, c5, c6, c7⟩ ds rs = true) (hbase : base ≤ w.heap.size) :
    Calls Try.prog 40 #[.pointer (some ⟨p, 0, none⟩), frV ⟨18, s, o, fin, l, c, f, q, y, c0, c1, c2, c3, c4, c5, c6, c7⟩ d r] w (WPost (.tuple #[]) w base p T v (bs ++ oneS ⟨18, s, o, fin, l, c, f, q, y, c0, c1, c2, c3, c4, c5, c6, c7⟩ ds rs)) := by
  obtain ⟨hwf, hdt, hrg⟩ := hf
  have hwb := wkS_bd ⟨18, s, o, fin, l, c, f, q, y, c0, c1, c2, c3, c4, c5, c6, c7⟩ (show (0 : Int) ≤ 18 from by decide) (show (18 : Int) ≤ 30 from by decide)
  have hbd : (l ≤ 4611686018427387903) := by
    simp [rightB, askN, nrB, smB, drB, FN.zero, knownB, askDs] at hr
    first | trivial | omega | exact ⟨by omega, hr.2⟩
  have hs0 := hwf.s0
  have ho0 := hwf.o0
  have hl0 := hwf.l0
  have hc0 := hwf.c0
  have hf0 := hwf.f0
  have hq0 := hwf.q0
  have hy0 := hwf.y0
  simp only at hs0 ho0 hl0 hc0 hf0 hq0 hy0
  have hcid : Byt (cidL ⟨18, s, o, fin, l, c, f, q, y, c0, c1, c2, c3, c4, c5, c6, c7⟩) := hwf.cid
  have hE : bs ++ oneS ⟨18, s, o, fin, l, c, f, q, y, c0, c1, c2, c3, c4, c5, c6, c7⟩ ds rs = bs ++ (putS (wkS ⟨18, s, o, fin, l, c, f, q, y, c0, c1, c2, c3, c4, c5, c6, c7⟩) ++ bodyS ⟨18, s, o, fin, l, c, f, q, y, c0, c1, c2, c3, c4, c5, c6, c7⟩ ds rs) := rfl
  have hbod : bodyS ⟨18, s, o, fin, l, c, f, q, y, c0, c1, c2, c3, c4, c5, c6, c7⟩ ds rs = putS l := by
    simp [bodyS]
  rw [hbod] at hE
  have HE := Lib.hid hE
  clear hE hbod hr
  have hW := h
  have hB0 : Below w.heap.size w (w.alloc (.cells (frL ⟨18, s, o, fin, l, c, f, q, y, c0, c1, c2, c3, c4, c5, c6, c7⟩ d r).toArray 31)) := (Below.refl _ _).alloc (Nat.le_refl _) _
  have hA0 : At (w.alloc (.cells (frL ⟨18, s, o, fin, l, c, f, q, y, c0, c1, c2, c3, c4, c5, c6, c7⟩ d r).toArray 31)) w.heap.size 31 (frL ⟨18, s, o, fin, l, c, f, q, y, c0, c1, c2, c3, c4, c5, c6, c7⟩ d r) := At.new w _ _
  have hx0 := WSx.refl hW hB0
  have hM : w.heap.size ≤ (w.alloc (.cells (frL ⟨18, s, o, fin, l, c, f, q, y, c0, c1, c2, c3, c4, c5, c6, c7⟩ d r).toArray 31)).heap.size := hB0.size
  have hg : w.heap.size < (w.alloc (.cells (frL ⟨18, s, o, fin, l, c, f, q, y, c0, c1, c2, c3, c4, c5, c6, c7⟩ d r).toArray 31)).heap.size := hA0.lt
  have hn0 := hW.not_new (g := w.heap.size) (Nat.le_refl _)
  have hwk := wk_any ⟨18, s, o, fin, l, c, f, q, y, c0, c1, c2, c3, c4, c5, c6, c7⟩ d r
  obtain ⟨kv, hkv⟩ : ∃ x, wkS ⟨18, s, o, fin, l, c, f, q, y, c0, c1, c2, c3, c4, c5, c6, c7⟩ = x := ⟨_, rfl⟩
  rw [hkv] at hwb hwk HE
  clear hkv
  have HWK := Lib.hid (fun W => hwk W (show (0 : Int) ≤ 18 from by decide) (show (18 : Int) ≤ 30 from by decide) ho0)
  clear hwk
  have HWF := Lib.hid hwf
  have HDT := Lib.hid hdt
  have HRG := Lib.hid hrg
  have HCID := Lib.hid hcid
  clear hwf hdt hrg hcid
  obtain ⟨L, hL⟩ : ∃ L, frL ⟨18, s, o, fin, l, c, f, q, y, c0, c1, c2, c3, c4, c5, c6, c7⟩ d r = L := ⟨_, rfl⟩
  have hLl : L.length = 19 := by rw [← hL]; rfl
  have hfv : frV ⟨18, s, o, fin, l, c, f, q, y, c0, c1, c2, c3, c4, c5, c6, c7⟩ d r = .agg L.toArray := by rw [← hL]; rfl
  have hl_0 : L[0]? = some (.int .i64 18) := by rw [← hL]; rfl
  have hl_5 : L[5]? = some (.int .u64 l) := by rw [← hL]; rfl
  rw [hL] at hA0 hB0 hx0 hM hg
  rw [hfv] at HWK ⊢
  clear hL hfv
  have HL0 := Lib.hid hl_0
  clear hl_0
  have HL5 := Lib.hid hl_5
  clear hl_5
  have HLl := Lib.hid hLl
  clear hLl
  obtain ⟨dA, dn, dc⟩ := d
  obtain ⟨M, hMM⟩ : ∃ M, (w.alloc (.cells L.toArray 31)).heap.size = M := ⟨_, rfl⟩
  rw [hMM] at hx0 hM hg
  have HMM := Lib.hid hMM
  clear hMM
  go_enter Try.func40, Try.ntmps40
  go_wp2_with (first | ((with_reducible refine at_ld ?_); refine ld_fr_g _ _ (by rfl) (by rfl) hA0 HLl.out ?_) | fail)
  refine (HWK.out _).mono ?_
  rintro e w1 ⟨rfl, hb1⟩
  have hA1 := hA0.below hb1 (by rw [HMM.out]; exact hg)
  have hx1 := hx0.below hb1
  clear hA0 hx0 hb1
  have hm1 := hx1.2.2.2
  go_wp2_with fail
  refine (wvar_yes base p T v bs kv _ hx1.1 (by omega) hwb.1 (by omega) (by omega)).mono ?_
  rintro e w2 hw2
  obtain ⟨v2, rfl, hx2, hk2⟩ := hx1.step hM hw2
  have hA2 := hA1.kept hk2 (hx1.apart hg hn0)
  have hm2 := hx2.2.2.2
  clear hw2 hk2 hx1 hA1
  have e0 := (hA2.cell 0).trans HL0.out
  have f5 := (hA2.cell 5).trans HL5.out
  go_wp2_with fail
  refine (wvar_yes base p T v2 _ l _ hx2.1 (by simp only [List.length_append, List.length_cons, List.length_nil]; have z0 := putS_le kv; omega) hl0 (by omega) (by omega)).mono ?_
  rintro e w3 hw3
  obtain ⟨v3, rfl, hx3, hk3⟩ := hx2.step hM hw3
  have hA3 := hA2.kept hk3 (hx2.apart hg hn0)
  have hm3 := hx3.2.2.2
  clear hw3 hk3 hx2 hA2
  clear f5
  go_wp2_with fail
  go_end0
  have hfin := hx3.post hM (.tuple #[])
  try simp only [List.append_assoc] at hfin
  have hEE := HE.out
  try simp only [List.append_assoc] at hEE
  rw [hEE]
  exact hfin
set_option maxRecDepth 100000 in
set_option maxHeartbeats 1000000 in
theorem write_20 (base p : Nat) (T : TypeId) (v : Value) (bs : List Int) (s o l c f q y c0 c1 c2 c3 c4 c5 c6 c7 : Int) (fin : Bool) (d r : Sl) (ds : List Int) (rs : RS) (w : World) (h : Wtr w base p T v bs) (hl : bs.length ≤ 100000000000)
    (hf : Fits w (fun b => ¬ WS p v b) ⟨20, s, o, fin, l, c, f, q, y, c0, c1, c2, c3, c4, c5, c6, c7⟩ d r ds rs) (hr : rightB ⟨20, s, o, fin, l, c, f, q, y, c0, c1, c2, c3, c4, c5, c6, c7⟩ ds rs = true) (hbase : base ≤ w.heap.size) :
    Calls Try.prog 40 #[.pointer (some ⟨p, 0, none⟩), frV ⟨20, s, o, fin, l, c, f, q, y, c0, c1, c2, c3, c4, c5, c6, c7⟩ d r] w (WPost (.tuple #[]) w base p T v (bs ++ oneS ⟨20, s, o, fin, l, c, f, q, y, c0, c1, c2, c3, c4, c5, c6, c7⟩ ds rs)) := by
  obtain ⟨hwf, hdt, hrg⟩ := hf
  have hwb := wkS_bd ⟨20, s, o, fin, l, c, f, q, y, c0, c1, c2, c3, c4, c5, c6, c7⟩ (show (0 : Int) ≤ 20 from by decide) (show (20 : Int) ≤ 30 from by decide)
  have hbd : (l ≤ 4611686018427387903) := by
    simp [rightB, askN, nrB, smB, drB, FN.zero, knownB, askDs] at hr
    first | trivial | omega | exact ⟨by omega, hr.2⟩
  have hs0 := hwf.s0
  have ho0 := hwf.o0
  have hl0 := hwf.l0
  have hc0 := hwf.c0
  have hf0 := hwf.f0
  have hq0 := hwf.q0
  have hy0 := hwf.y0
  simp only at hs0 ho0 hl0 hc0 hf0 hq0 hy0
  have hcid : Byt (cidL ⟨20, s, o, fin, l, c, f, q, y, c0, c1, c2, c3, c4, c5, c6, c7⟩) := hwf.cid
  have hE : bs ++ oneS ⟨20, s, o, fin, l, c, f, q, y, c0, c1, c2, c3, c4, c5, c6, c7⟩ ds rs = bs ++ (putS (wkS ⟨20, s, o, fin, l, c, f, q, y, c0, c1, c2, c3, c4, c5, c6, c7⟩) ++ bodyS ⟨20, s, o, fin, l, c, f, q, y, c0, c1, c2, c3, c4, c5, c6, c7⟩ ds rs) := rfl
  have hbod : bodyS ⟨20, s, o, fin, l, c, f, q, y, c0, c1, c2, c3, c4, c5, c6, c7⟩ ds rs = putS l := by
    simp [bodyS]
  rw [hbod] at hE
  have HE := Lib.hid hE
  clear hE hbod hr
  have hW := h
  have hB0 : Below w.heap.size w (w.alloc (.cells (frL ⟨20, s, o, fin, l, c, f, q, y, c0, c1, c2, c3, c4, c5, c6, c7⟩ d r).toArray 31)) := (Below.refl _ _).alloc (Nat.le_refl _) _
  have hA0 : At (w.alloc (.cells (frL ⟨20, s, o, fin, l, c, f, q, y, c0, c1, c2, c3, c4, c5, c6, c7⟩ d r).toArray 31)) w.heap.size 31 (frL ⟨20, s, o, fin, l, c, f, q, y, c0, c1, c2, c3, c4, c5, c6, c7⟩ d r) := At.new w _ _
  have hx0 := WSx.refl hW hB0
  have hM : w.heap.size ≤ (w.alloc (.cells (frL ⟨20, s, o, fin, l, c, f, q, y, c0, c1, c2, c3, c4, c5, c6, c7⟩ d r).toArray 31)).heap.size := hB0.size
  have hg : w.heap.size < (w.alloc (.cells (frL ⟨20, s, o, fin, l, c, f, q, y, c0, c1, c2, c3, c4, c5, c6, c7⟩ d r).toArray 31)).heap.size := hA0.lt
  have hn0 := hW.not_new (g := w.heap.size) (Nat.le_refl _)
  have hwk := wk_any ⟨20, s, o, fin, l, c, f, q, y, c0, c1, c2, c3, c4, c5, c6, c7⟩ d r
  obtain ⟨kv, hkv⟩ : ∃ x, wkS ⟨20, s, o, fin, l, c, f, q, y, c0, c1, c2, c3, c4, c5, c6, c7⟩ = x := ⟨_, rfl⟩
  rw [hkv] at hwb hwk HE
  clear hkv
  have HWK := Lib.hid (fun W => hwk W (show (0 : Int) ≤ 20 from by decide) (show (20 : Int) ≤ 30 from by decide) ho0)
  clear hwk
  have HWF := Lib.hid hwf
  have HDT := Lib.hid hdt
  have HRG := Lib.hid hrg
  have HCID := Lib.hid hcid
  clear hwf hdt hrg hcid
  obtain ⟨L, hL⟩ : ∃ L, frL ⟨20, s, o, fin, l, c, f, q, y, c0, c1, c2, c3, c4, c5, c6, c7⟩ d r = L := ⟨_, rfl⟩
  have hLl : L.length = 19 := by rw [← hL]; rfl
  have hfv : frV ⟨20, s, o, fin, l, c, f, q, y, c0, c1, c2, c3, c4, c5, c6, c7⟩ d r = .agg L.toArray := by rw [← hL]; rfl
  have hl_0 : L[0]? = some (.int .i64 20) := by rw [← hL]; rfl
  have hl_5 : L[5]? = some (.int .u64 l) := by rw [← hL]; rfl
  rw [hL] at hA0 hB0 hx0 hM hg
  rw [hfv] at HWK ⊢
  clear hL hfv
  have HL0 := Lib.hid hl_0
  clear hl_0
  have HL5 := Lib.hid hl_5
  clear hl_5
  have HLl := Lib.hid hLl
  clear hLl
  obtain ⟨dA, dn, dc⟩ := d
  obtain ⟨M, hMM⟩ : ∃ M, (w.alloc (.cells L.toArray 31)).heap.size = M := ⟨_, rfl⟩
  rw [hMM] at hx0 hM hg
  have HMM := Lib.hid hMM
  clear hMM
  go_enter Try.func40, Try.ntmps40
  go_wp2_with (first | ((with_reducible refine at_ld ?_); refine ld_fr_g _ _ (by rfl) (by rfl) hA0 HLl.out ?_) | fail)
  refine (HWK.out _).mono ?_
  rintro e w1 ⟨rfl, hb1⟩
  have hA1 := hA0.below hb1 (by rw [HMM.out]; exact hg)
  have hx1 := hx0.below hb1
  clear hA0 hx0 hb1
  have hm1 := hx1.2.2.2
  go_wp2_with fail
  refine (wvar_yes base p T v bs kv _ hx1.1 (by omega) hwb.1 (by omega) (by omega)).mono ?_
  rintro e w2 hw2
  obtain ⟨v2, rfl, hx2, hk2⟩ := hx1.step hM hw2
  have hA2 := hA1.kept hk2 (hx1.apart hg hn0)
  have hm2 := hx2.2.2.2
  clear hw2 hk2 hx1 hA1
  have e0 := (hA2.cell 0).trans HL0.out
  have f5 := (hA2.cell 5).trans HL5.out
  go_wp2_with fail
  refine (wvar_yes base p T v2 _ l _ hx2.1 (by simp only [List.length_append, List.length_cons, List.length_nil]; have z0 := putS_le kv; omega) hl0 (by omega) (by omega)).mono ?_
  rintro e w3 hw3
  obtain ⟨v3, rfl, hx3, hk3⟩ := hx2.step hM hw3
  have hA3 := hA2.kept hk3 (hx2.apart hg hn0)
  have hm3 := hx3.2.2.2
  clear hw3 hk3 hx2 hA2
  clear f5
  go_wp2_with fail
  go_end0
  have hfin := hx3.post hM (.tuple #[])
  try simp only [List.append_assoc] at hfin
  have hEE := HE.out
  try simp only [List.append_assoc] at hEE
  rw [hEE]
  exact hfin
set_option maxRecDepth 100000 in
set_option maxHeartbeats 1000000 in
theorem write_17 (base p : Nat) (T : TypeId) (v : Value) (bs : List Int) (s o l c f q y c0 c1 c2 c3 c4 c5 c6 c7 : Int) (fin : Bool) (d r : Sl) (ds : List Int) (rs : RS) (w : World) (h : Wtr w base p T v bs) (hl : bs.length ≤ 100000000000)
    (hf : Fits w (fun b => ¬ WS p v b) ⟨17, s, o, fin, l, c, f, q, y, c0, c1, c2, c3, c4, c5, c6, c7⟩ d r ds rs) (hr : rightB ⟨17, s, o, fin, l, c, f, q, y, c0, c1, c2, c3, c4, c5, c6, c7⟩ ds rs = true) (hbase : base ≤ w.heap.size) :
    Calls Try.prog 40 #[.pointer (some ⟨p, 0, none⟩), frV ⟨17, s, o, fin, l, c, f, q, y, c0, c1, c2, c3, c4, c5, c6, c7⟩ d r] w (WPost (.tuple #[]) w base p T v (bs ++ oneS ⟨17, s, o, fin, l, c, f, q, y, c0, c1, c2, c3, c4, c5, c6, c7⟩ ds rs)) := by
  obtain ⟨hwf, hdt, hrg⟩ := hf
  have hwb := wkS_bd ⟨17, s, o, fin, l, c, f, q, y, c0, c1, c2, c3, c4, c5, c6, c7⟩ (show (0 : Int) ≤ 17 from by decide) (show (17 : Int) ≤ 30 from by decide)
  have hbd : (s ≤ 4611686018427387903 ∧ l ≤ 4611686018427387903) := by
    simp [rightB, askN, nrB, smB, drB, FN.zero, knownB, askDs] at hr
    first | trivial | omega | exact ⟨by omega, hr.2⟩
  have hs0 := hwf.s0
  have ho0 := hwf.o0
  have hl0 := hwf.l0
  have hc0 := hwf.c0
  have hf0 := hwf.f0
  have hq0 := hwf.q0
  have hy0 := hwf.y0
  simp only at hs0 ho0 hl0 hc0 hf0 hq0 hy0
  have hcid : Byt (cidL ⟨17, s, o, fin, l, c, f, q, y, c0, c1, c2, c3, c4, c5, c6, c7⟩) := hwf.cid
  have hE : bs ++ oneS ⟨17, s, o, fin, l, c, f, q, y, c0, c1, c2, c3, c4, c5, c6, c7⟩ ds rs = bs ++ (putS (wkS ⟨17, s, o, fin, l, c, f, q, y, c0, c1, c2, c3, c4, c5, c6, c7⟩) ++ bodyS ⟨17, s, o, fin, l, c, f, q, y, c0, c1, c2, c3, c4, c5, c6, c7⟩ ds rs) := rfl
  have hbod : bodyS ⟨17, s, o, fin, l, c, f, q, y, c0, c1, c2, c3, c4, c5, c6, c7⟩ ds rs = putL [s, l] := by
    simp [bodyS]
  rw [hbod] at hE
  have HE := Lib.hid hE
  clear hE hbod hr
  have hW := h
  have hB0 : Below w.heap.size w (w.alloc (.cells (frL ⟨17, s, o, fin, l, c, f, q, y, c0, c1, c2, c3, c4, c5, c6, c7⟩ d r).toArray 31)) := (Below.refl _ _).alloc (Nat.le_refl _) _
  have hA0 : At (w.alloc (.cells (frL ⟨17, s, o, fin, l, c, f, q, y, c0, c1, c2, c3, c4, c5, c6, c7⟩ d r).toArray 31)) w.heap.size 31 (frL ⟨17, s, o, fin, l, c, f, q, y, c0, c1, c2, c3, c4, c5, c6, c7⟩ d r) := At.new w _ _
  have hx0 := WSx.refl hW hB0
  have hM : w.heap.size ≤ (w.alloc (.cells (frL ⟨17, s, o, fin, l, c, f, q, y, c0, c1, c2, c3, c4, c5, c6, c7⟩ d r).toArray 31)).heap.size := hB0.size
  have hg : w.heap.size < (w.alloc (.cells (frL ⟨17, s, o, fin, l, c, f, q, y, c0, c1, c2, c3, c4, c5, c6, c7⟩ d r).toArray 31)).heap.size := hA0.lt
  have hn0 := hW.not_new (g := w.heap.size) (Nat.le_refl _)
  have hwk := wk_any ⟨17, s, o, fin, l, c, f, q, y, c0, c1, c2, c3, c4, c5, c6, c7⟩ d r
  obtain ⟨kv, hkv⟩ : ∃ x, wkS ⟨17, s, o, fin, l, c, f, q, y, c0, c1, c2, c3, c4, c5, c6, c7⟩ = x := ⟨_, rfl⟩
  rw [hkv] at hwb hwk HE
  clear hkv
  have HWK := Lib.hid (fun W => hwk W (show (0 : Int) ≤ 17 from by decide) (show (17 : Int) ≤ 30 from by decide) ho0)
  clear hwk
  have HWF := Lib.hid hwf
  have HDT := Lib.hid hdt
  have HRG := Lib.hid hrg
  have HCID := Lib.hid hcid
  clear hwf hdt hrg hcid
  obtain ⟨L, hL⟩ : ∃ L, frL ⟨17, s, o, fin, l, c, f, q, y, c0, c1, c2, c3, c4, c5, c6, c7⟩ d r = L := ⟨_, rfl⟩
  have hLl : L.length = 19 := by rw [← hL]; rfl
  have hfv : frV ⟨17, s, o, fin, l, c, f, q, y, c0, c1, c2, c3, c4, c5, c6, c7⟩ d r = .agg L.toArray := by rw [← hL]; rfl
  have hl_0 : L[0]? = some (.int .i64 17) := by rw [← hL]; rfl
  have hl_1 : L[1]? = some (.int .u64 s) := by rw [← hL]; rfl
  have hl_5 : L[5]? = some (.int .u64 l) := by rw [← hL]; rfl
  rw [hL] at hA0 hB0 hx0 hM hg
  rw [hfv] at HWK ⊢
  clear hL hfv
  have HL0 := Lib.hid hl_0
  clear hl_0
  have HL1 := Lib.hid hl_1
  clear hl_1
  have HL5 := Lib.hid hl_5
  clear hl_5
  have HLl := Lib.hid hLl
  clear hLl
  obtain ⟨dA, dn, dc⟩ := d
  obtain ⟨M, hMM⟩ : ∃ M, (w.alloc (.cells L.toArray 31)).heap.size = M := ⟨_, rfl⟩
  rw [hMM] at hx0 hM hg
  have HMM := Lib.hid hMM
  clear hMM
  go_enter Try.func40, Try.ntmps40
  go_wp2_with (first | ((with_reducible refine at_ld ?_); refine ld_fr_g _ _ (by rfl) (by rfl) hA0 HLl.out ?_) | fail)
  refine (HWK.out _).mono ?_
  rintro e w1 ⟨rfl, hb1⟩
  have hA1 := hA0.below hb1 (by rw [HMM.out]; exact hg)
  have hx1 := hx0.below hb1
  clear hA0 hx0 hb1
  have hm1 := hx1.2.2.2
  go_wp2_with fail
  refine (wvar_yes base p T v bs kv _ hx1.1 (by omega) hwb.1 (by omega) (by omega)).mono ?_
  rintro e w2 hw2
  obtain ⟨v2, rfl, hx2, hk2⟩ := hx1.step hM hw2
  have hA2 := hA1.kept hk2 (hx1.apart hg hn0)
  have hm2 := hx2.2.2.2
  clear hw2 hk2 hx1 hA1
  have e0 := (hA2.cell 0).trans HL0.out
  have f1 := (hA2.cell 1).trans HL1.out
  have f5 := (hA2.cell 5).trans HL5.out
  go_wp2_with fail
  have hU := UsP.new w2 (fun b => ¬ WS p v2 b) 25 [s, l] (by intro x hx; simp at hx; omega) _ rfl w2.heap.size rfl (hx2.1.not_new (Nat.le_refl _))
  have hxa := hx2.alloc (.cells #[.int .u64 s, .int .u64 l] 25)
  have hAa := hA2.alloc (.cells #[.int .u64 s, .int .u64 l] 25)
  refine (wvars_any base p T v2 _ [s, l] _ 2 2 _ hxa.1 (by simp only [List.length_append, List.length_cons, List.length_nil]; have z0 := putS_le kv; omega) (by omega) (by omega) hU (by intro x hx; simp at hx; omega) (by have := hxa.2.2.2; omega)).mono ?_
  rintro e w3 hw3
  obtain ⟨v3, rfl, hx3, hk3⟩ := hxa.step hM hw3
  have hA3 := hAa.kept hk3 (hxa.apart hg hn0)
  have hm3 := hx3.2.2.2
  clear hw3 hk3 hx2 hA2 hxa hAa hU
  clear f1 f5
  go_wp2_with fail
  go_end0
  have hfin := hx3.post hM (.tuple #[])
  try simp only [List.append_assoc] at hfin
  have hEE := HE.out
  try simp only [List.append_assoc] at hEE
  rw [hEE]
  exact hfin
set_option maxRecDepth 100000 in
set_option maxHeartbeats 1000000 in
theorem write_24 (base p : Nat) (T : TypeId) (v : Value) (bs : List Int) (s o l c f q y c0 c1 c2 c3 c4 c5 c6 c7 : Int) (fin : Bool) (d r : Sl) (ds : List Int) (rs : RS) (w : World) (h : Wtr w base p T v bs) (hl : bs.length ≤ 100000000000)
    (hf : Fits w (fun b => ¬ WS p v b) ⟨24, s, o, fin, l, c, f, q, y, c0, c1, c2, c3, c4, c5, c6, c7⟩ d r ds rs) (hr : rightB ⟨24, s, o, fin, l, c, f, q, y, c0, c1, c2, c3, c4, c5, c6, c7⟩ ds rs = true) (hbase : base ≤ w.heap.size) :
    Calls Try.prog 40 #[.pointer (some ⟨p, 0, none⟩), frV ⟨24, s, o, fin, l, c, f, q, y, c0, c1, c2, c3, c4, c5, c6, c7⟩ d r] w (WPost (.tuple #[]) w base p T v (bs ++ oneS ⟨24, s, o, fin, l, c, f, q, y, c0, c1, c2, c3, c4, c5, c6, c7⟩ ds rs)) := by
  obtain ⟨hwf, hdt, hrg⟩ := hf
  have hwb := wkS_bd ⟨24, s, o, fin, l, c, f, q, y, c0, c1, c2, c3, c4, c5, c6, c7⟩ (show (0 : Int) ≤ 24 from by decide) (show (24 : Int) ≤ 30 from by decide)
  have hbd : (q ≤ 4611686018427387903 ∧ l ≤ 4611686018427387903) := by
    simp [rightB, askN, nrB, smB, drB, FN.zero, knownB, askDs] at hr
    first | trivial | omega | exact ⟨by omega, hr.2⟩
  have hs0 := hwf.s0
  have ho0 := hwf.o0
  have hl0 := hwf.l0
  have hc0 := hwf.c0
  have hf0 := hwf.f0
  have hq0 := hwf.q0
  have hy0 := hwf.y0
  simp only at hs0 ho0 hl0 hc0 hf0 hq0 hy0
  have hcid : Byt (cidL ⟨24, s, o, fin, l, c, f, q, y, c0, c1, c2, c3, c4, c5, c6, c7⟩) := hwf.cid
  have hE : bs ++ oneS ⟨24, s, o, fin, l, c, f, q, y, c0, c1, c2, c3, c4, c5, c6, c7⟩ ds rs = bs ++ (putS (wkS ⟨24, s, o, fin, l, c, f, q, y, c0, c1, c2, c3, c4, c5, c6, c7⟩) ++ bodyS ⟨24, s, o, fin, l, c, f, q, y, c0, c1, c2, c3, c4, c5, c6, c7⟩ ds rs) := rfl
  have hbod : bodyS ⟨24, s, o, fin, l, c, f, q, y, c0, c1, c2, c3, c4, c5, c6, c7⟩ ds rs = putL [q, l] ++ [8] ++ cidL ⟨24, s, o, fin, l, c, f, q, y, c0, c1, c2, c3, c4, c5, c6, c7⟩ := by
    simp [bodyS]
  rw [hbod] at hE
  have HE := Lib.hid hE
  clear hE hbod hr
  have hW := h
  have hB0 : Below w.heap.size w (w.alloc (.cells (frL ⟨24, s, o, fin, l, c, f, q, y, c0, c1, c2, c3, c4, c5, c6, c7⟩ d r).toArray 31)) := (Below.refl _ _).alloc (Nat.le_refl _) _
  have hA0 : At (w.alloc (.cells (frL ⟨24, s, o, fin, l, c, f, q, y, c0, c1, c2, c3, c4, c5, c6, c7⟩ d r).toArray 31)) w.heap.size 31 (frL ⟨24, s, o, fin, l, c, f, q, y, c0, c1, c2, c3, c4, c5, c6, c7⟩ d r) := At.new w _ _
  have hx0 := WSx.refl hW hB0
  have hM : w.heap.size ≤ (w.alloc (.cells (frL ⟨24, s, o, fin, l, c, f, q, y, c0, c1, c2, c3, c4, c5, c6, c7⟩ d r).toArray 31)).heap.size := hB0.size
  have hg : w.heap.size < (w.alloc (.cells (frL ⟨24, s, o, fin, l, c, f, q, y, c0, c1, c2, c3, c4, c5, c6, c7⟩ d r).toArray 31)).heap.size := hA0.lt
  have hn0 := hW.not_new (g := w.heap.size) (Nat.le_refl _)
  have hwk := wk_any ⟨24, s, o, fin, l, c, f, q, y, c0, c1, c2, c3, c4, c5, c6, c7⟩ d r
  obtain ⟨kv, hkv⟩ : ∃ x, wkS ⟨24, s, o, fin, l, c, f, q, y, c0, c1, c2, c3, c4, c5, c6, c7⟩ = x := ⟨_, rfl⟩
  rw [hkv] at hwb hwk HE
  clear hkv
  have HWK := Lib.hid (fun W => hwk W (show (0 : Int) ≤ 24 from by decide) (show (24 : Int) ≤ 30 from by decide) ho0)
  clear hwk
  have HWF := Lib.hid hwf
  have HDT := Lib.hid hdt
  have HRG := Lib.hid hrg
  have HCID := Lib.hid hcid
  clear hwf hdt hrg hcid
  obtain ⟨L, hL⟩ : ∃ L, frL ⟨24, s, o, fin, l, c, f, q, y, c0, c1, c2, c3, c4, c5, c6, c7⟩ d r = L := ⟨_, rfl⟩
  have hLl : L.length = 19 := by rw [← hL]; rfl
  have hfv : frV ⟨24, s, o, fin, l, c, f, q, y, c0, c1, c2, c3, c4, c5, c6, c7⟩ d r = .agg L.toArray := by rw [← hL]; rfl
  have hl_0 : L[0]? = some (.int .i64 24) := by rw [← hL]; rfl
  have hl_5 : L[5]? = some (.int .u64 l) := by rw [← hL]; rfl
  have hl_8 : L[8]? = some (.int .u64 q) := by rw [← hL]; rfl
  have hcr : ∀ W : World, At W w.heap.size 31 L → Rd W W.heap.size (some ⟨w.heap.size, 11, none⟩) 8 (cidL ⟨24, s, o, fin, l, c, f, q, y, c0, c1, c2, c3, c4, c5, c6, c7⟩) := fun W hW => cid_rd ⟨24, s, o, fin, l, c, f, q, y, c0, c1, c2, c3, c4, c5, c6, c7⟩ d r (by rw [hL]; exact hW) HCID.out
  have HCR := Lib.hid hcr
  clear hcr
  rw [hL] at hA0 hB0 hx0 hM hg
  rw [hfv] at HWK ⊢
  clear hL hfv
  have HL0 := Lib.hid hl_0
  clear hl_0
  have HL5 := Lib.hid hl_5
  clear hl_5
  have HL8 := Lib.hid hl_8
  clear hl_8
  have HLl := Lib.hid hLl
  clear hLl
  obtain ⟨dA, dn, dc⟩ := d
  obtain ⟨M, hMM⟩ : ∃ M, (w.alloc (.cells L.toArray 31)).heap.size = M := ⟨_, rfl⟩
  rw [hMM] at hx0 hM hg
  have HMM := Lib.hid hMM
  clear hMM
  go_enter Try.func40, Try.ntmps40
  go_wp2_with (first | ((with_reducible refine at_ld ?_); refine ld_fr_g _ _ (by rfl) (by rfl) hA0 HLl.out ?_) | fail)
  refine (HWK.out _).mono ?_
  rintro e w1 ⟨rfl, hb1⟩
  have hA1 := hA0.below hb1 (by rw [HMM.out]; exact hg)
  have hx1 := hx0.below hb1
  clear hA0 hx0 hb1
  have hm1 := hx1.2.2.2
  go_wp2_with fail
  refine (wvar_yes base p T v bs kv _ hx1.1 (by omega) hwb.1 (by omega) (by omega)).mono ?_
  rintro e w2 hw2
  obtain ⟨v2, rfl, hx2, hk2⟩ := hx1.step hM hw2
  have hA2 := hA1.kept hk2 (hx1.apart hg hn0)
  have hm2 := hx2.2.2.2
  clear hw2 hk2 hx1 hA1
  have e0 := (hA2.cell 0).trans HL0.out
  have f5 := (hA2.cell 5).trans HL5.out
  have f8 := (hA2.cell 8).trans HL8.out
  go_wp2_with fail
  have hU := UsP.new w2 (fun b => ¬ WS p v2 b) 25 [q, l] (by intro x hx; simp at hx; omega) _ rfl w2.heap.size rfl (hx2.1.not_new (Nat.le_refl _))
  have hxa := hx2.alloc (.cells #[.int .u64 q, .int .u64 l] 25)
  have hAa := hA2.alloc (.cells #[.int .u64 q, .int .u64 l] 25)
  refine (wvars_any base p T v2 _ [q, l] _ 2 2 _ hxa.1 (by simp only [List.length_append, List.length_cons, List.length_nil]; have z0 := putS_le kv; omega) (by omega) (by omega) hU (by intro x hx; simp at hx; omega) (by have := hxa.2.2.2; omega)).mono ?_
  rintro e w3 hw3
  obtain ⟨v3, rfl, hx3, hk3⟩ := hxa.step hM hw3
  have hA3 := hAa.kept hk3 (hxa.apart hg hn0)
  have hm3 := hx3.2.2.2
  clear hw3 hk3 hx2 hA2 hxa hAa hU
  clear f5 f8
  go_wp2_with fail
  refine (wbyte_any base p T v3 _ 8 _ hx3.1 (by simp only [List.length_append, List.length_cons, List.length_nil]; have z0 := putS_le kv; have z1 := putL_len [q, l]; simp only [List.length_cons, List.length_nil] at z1; omega) (by omega) (by omega) (by omega)).mono ?_
  rintro e w4 hw4
  obtain ⟨v4, rfl, hx4, hk4⟩ := hx3.step hM hw4
  have hA4 := hA3.kept hk4 (hx3.apart hg hn0)
  have hm4 := hx4.2.2.2
  clear hw4 hk4 hx3 hA3
  go_wp2_with fail
  refine (wraw_any base p T v4 _ (some ⟨w.heap.size, 11, none⟩) 8 8 (cidL ⟨24, s, o, fin, l, c, f, q, y, c0, c1, c2, c3, c4, c5, c6, c7⟩) _ hx4.1 (by simp only [List.length_append, List.length_cons, List.length_nil]; have z0 := putS_le kv; have z1 := putL_len [q, l]; simp only [List.length_cons, List.length_nil] at z1; omega) (HCR.out _ hA4) (by omega)).mono ?_
  rintro e w5 hw5
  obtain ⟨v5, rfl, hx5, hk5⟩ := hx4.step hM hw5
  have hA5 := hA4.kept hk5 (hx4.apart hg hn0)
  have hm5 := hx5.2.2.2
  clear hw5 hk5 hx4 hA4
  go_wp2_with fail
  go_end0
  have hfin := hx5.post hM (.tuple #[])
  try simp only [List.append_assoc] at hfin
  have hEE := HE.out
  try simp only [List.append_assoc] at hEE
  rw [hEE]
  exact hfin
set_option maxRecDepth 100000 in
set_option maxHeartbeats 1000000 in
theorem write_25 (base p : Nat) (T : TypeId) (v : Value) (bs : List Int) (s o l c f q y c0 c1 c2 c3 c4 c5 c6 c7 : Int) (fin : Bool) (d r : Sl) (ds : List Int) (rs : RS) (w : World) (h : Wtr w base p T v bs) (hl : bs.length ≤ 100000000000)
    (hf : Fits w (fun b => ¬ WS p v b) ⟨25, s, o, fin, l, c, f, q, y, c0, c1, c2, c3, c4, c5, c6, c7⟩ d r ds rs) (hr : rightB ⟨25, s, o, fin, l, c, f, q, y, c0, c1, c2, c3, c4, c5, c6, c7⟩ ds rs = true) (hbase : base ≤ w.heap.size) :
    Calls Try.prog 40 #[.pointer (some ⟨p, 0, none⟩), frV ⟨25, s, o, fin, l, c, f, q, y, c0, c1, c2, c3, c4, c5, c6, c7⟩ d r] w (WPost (.tuple #[]) w base p T v (bs ++ oneS ⟨25, s, o, fin, l, c, f, q, y, c0, c1, c2, c3, c4, c5, c6, c7⟩ ds rs)) := by
  obtain ⟨hwf, hdt, hrg⟩ := hf
  have hwb := wkS_bd ⟨25, s, o, fin, l, c, f, q, y, c0, c1, c2, c3, c4, c5, c6, c7⟩ (show (0 : Int) ≤ 25 from by decide) (show (25 : Int) ≤ 30 from by decide)
  have hbd : (q ≤ 4611686018427387903) := by
    simp [rightB, askN, nrB, smB, drB, FN.zero, knownB, askDs] at hr
    first | trivial | omega | exact ⟨by omega, hr.2⟩
  have hs0 := hwf.s0
  have ho0 := hwf.o0
  have hl0 := hwf.l0
  have hc0 := hwf.c0
  have hf0 := hwf.f0
  have hq0 := hwf.q0
  have hy0 := hwf.y0
  simp only at hs0 ho0 hl0 hc0 hf0 hq0 hy0
  have hcid : Byt (cidL ⟨25, s, o, fin, l, c, f, q, y, c0, c1, c2, c3, c4, c5, c6, c7⟩) := hwf.cid
  have hE : bs ++ oneS ⟨25, s, o, fin, l, c, f, q, y, c0, c1, c2, c3, c4, c5, c6, c7⟩ ds rs = bs ++ (putS (wkS ⟨25, s, o, fin, l, c, f, q, y, c0, c1, c2, c3, c4, c5, c6, c7⟩) ++ bodyS ⟨25, s, o, fin, l, c, f, q, y, c0, c1, c2, c3, c4, c5, c6, c7⟩ ds rs) := rfl
  have hbod : bodyS ⟨25, s, o, fin, l, c, f, q, y, c0, c1, c2, c3, c4, c5, c6, c7⟩ ds rs = putS q := by
    simp [bodyS]
  rw [hbod] at hE
  have HE := Lib.hid hE
  clear hE hbod hr
  have hW := h
  have hB0 : Below w.heap.size w (w.alloc (.cells (frL ⟨25, s, o, fin, l, c, f, q, y, c0, c1, c2, c3, c4, c5, c6, c7⟩ d r).toArray 31)) := (Below.refl _ _).alloc (Nat.le_refl _) _
  have hA0 : At (w.alloc (.cells (frL ⟨25, s, o, fin, l, c, f, q, y, c0, c1, c2, c3, c4, c5, c6, c7⟩ d r).toArray 31)) w.heap.size 31 (frL ⟨25, s, o, fin, l, c, f, q, y, c0, c1, c2, c3, c4, c5, c6, c7⟩ d r) := At.new w _ _
  have hx0 := WSx.refl hW hB0
  have hM : w.heap.size ≤ (w.alloc (.cells (frL ⟨25, s, o, fin, l, c, f, q, y, c0, c1, c2, c3, c4, c5, c6, c7⟩ d r).toArray 31)).heap.size := hB0.size
  have hg : w.heap.size < (w.alloc (.cells (frL ⟨25, s, o, fin, l, c, f, q, y, c0, c1, c2, c3, c4, c5, c6, c7⟩ d r).toArray 31)).heap.size := hA0.lt
  have hn0 := hW.not_new (g := w.heap.size) (Nat.le_refl _)
  have hwk := wk_any ⟨25, s, o, fin, l, c, f, q, y, c0, c1, c2, c3, c4, c5, c6, c7⟩ d r
  obtain ⟨kv, hkv⟩ : ∃ x, wkS ⟨25, s, o, fin, l, c, f, q, y, c0, c1, c2, c3, c4, c5, c6, c7⟩ = x := ⟨_, rfl⟩
  rw [hkv] at hwb hwk HE
  clear hkv
  have HWK := Lib.hid (fun W => hwk W (show (0 : Int) ≤ 25 from by decide) (show (25 : Int) ≤ 30 from by decide) ho0)
  clear hwk
  have HWF := Lib.hid hwf
  have HDT := Lib.hid hdt
  have HRG := Lib.hid hrg
  have HCID := Lib.hid hcid
  clear hwf hdt hrg hcid
  obtain ⟨L, hL⟩ : ∃ L, frL ⟨25, s, o, fin, l, c, f, q, y, c0, c1, c2, c3, c4, c5, c6, c7⟩ d r = L := ⟨_, rfl⟩
  have hLl : L.length = 19 := by rw [← hL]; rfl
  have hfv : frV ⟨25, s, o, fin, l, c, f, q, y, c0, c1, c2, c3, c4, c5, c6, c7⟩ d r = .agg L.toArray := by rw [← hL]; rfl
  have hl_0 : L[0]? = some (.int .i64 25) := by rw [← hL]; rfl
  have hl_8 : L[8]? = some (.int .u64 q) := by rw [← hL]; rfl
  rw [hL] at hA0 hB0 hx0 hM hg
  rw [hfv] at HWK ⊢
  clear hL hfv
  have HL0 := Lib.hid hl_0
  clear hl_0
  have HL8 := Lib.hid hl_8
  clear hl_8
  have HLl := Lib.hid hLl
  clear hLl
  obtain ⟨dA, dn, dc⟩ := d
  obtain ⟨M, hMM⟩ : ∃ M, (w.alloc (.cells L.toArray 31)).heap.size = M := ⟨_, rfl⟩
  rw [hMM] at hx0 hM hg
  have HMM := Lib.hid hMM
  clear hMM
  go_enter Try.func40, Try.ntmps40
  go_wp2_with (first | ((with_reducible refine at_ld ?_); refine ld_fr_g _ _ (by rfl) (by rfl) hA0 HLl.out ?_) | fail)
  refine (HWK.out _).mono ?_
  rintro e w1 ⟨rfl, hb1⟩
  have hA1 := hA0.below hb1 (by rw [HMM.out]; exact hg)
  have hx1 := hx0.below hb1
  clear hA0 hx0 hb1
  have hm1 := hx1.2.2.2
  go_wp2_with fail
  refine (wvar_yes base p T v bs kv _ hx1.1 (by omega) hwb.1 (by omega) (by omega)).mono ?_
  rintro e w2 hw2
  obtain ⟨v2, rfl, hx2, hk2⟩ := hx1.step hM hw2
  have hA2 := hA1.kept hk2 (hx1.apart hg hn0)
  have hm2 := hx2.2.2.2
  clear hw2 hk2 hx1 hA1
  have e0 := (hA2.cell 0).trans HL0.out
  have f8 := (hA2.cell 8).trans HL8.out
  go_wp2_with fail
  refine (wvar_yes base p T v2 _ q _ hx2.1 (by simp only [List.length_append, List.length_cons, List.length_nil]; have z0 := putS_le kv; omega) hq0 (by omega) (by omega)).mono ?_
  rintro e w3 hw3
  obtain ⟨v3, rfl, hx3, hk3⟩ := hx2.step hM hw3
  have hA3 := hA2.kept hk3 (hx2.apart hg hn0)
  have hm3 := hx3.2.2.2
  clear hw3 hk3 hx2 hA2
  clear f8
  go_wp2_with fail
  go_end0
  have hfin := hx3.post hM (.tuple #[])
  try simp only [List.append_assoc] at hfin
  have hEE := HE.out
  try simp only [List.append_assoc] at hEE
  rw [hEE]
  exact hfin
set_option maxRecDepth 100000 in
set_option maxHeartbeats 1000000 in
theorem write_26 (base p : Nat) (T : TypeId) (v : Value) (bs : List Int) (s o l c f q y c0 c1 c2 c3 c4 c5 c6 c7 : Int) (fin : Bool) (d r : Sl) (ds : List Int) (rs : RS) (w : World) (h : Wtr w base p T v bs) (hl : bs.length ≤ 100000000000)
    (hf : Fits w (fun b => ¬ WS p v b) ⟨26, s, o, fin, l, c, f, q, y, c0, c1, c2, c3, c4, c5, c6, c7⟩ d r ds rs) (hr : rightB ⟨26, s, o, fin, l, c, f, q, y, c0, c1, c2, c3, c4, c5, c6, c7⟩ ds rs = true) (hbase : base ≤ w.heap.size) :
    Calls Try.prog 40 #[.pointer (some ⟨p, 0, none⟩), frV ⟨26, s, o, fin, l, c, f, q, y, c0, c1, c2, c3, c4, c5, c6, c7⟩ d r] w (WPost (.tuple #[]) w base p T v (bs ++ oneS ⟨26, s, o, fin, l, c, f, q, y, c0, c1, c2, c3, c4, c5, c6, c7⟩ ds rs)) := by
  obtain ⟨hwf, hdt, hrg⟩ := hf
  have hwb := wkS_bd ⟨26, s, o, fin, l, c, f, q, y, c0, c1, c2, c3, c4, c5, c6, c7⟩ (show (0 : Int) ≤ 26 from by decide) (show (26 : Int) ≤ 30 from by decide)
  have hbd : (True) := by
    simp [rightB, askN, nrB, smB, drB, FN.zero, knownB, askDs] at hr
    first | trivial | omega | exact ⟨by omega, hr.2⟩
  have hs0 := hwf.s0
  have ho0 := hwf.o0
  have hl0 := hwf.l0
  have hc0 := hwf.c0
  have hf0 := hwf.f0
  have hq0 := hwf.q0
  have hy0 := hwf.y0
  simp only at hs0 ho0 hl0 hc0 hf0 hq0 hy0
  have hcid : Byt (cidL ⟨26, s, o, fin, l, c, f, q, y, c0, c1, c2, c3, c4, c5, c6, c7⟩) := hwf.cid
  have hE : bs ++ oneS ⟨26, s, o, fin, l, c, f, q, y, c0, c1, c2, c3, c4, c5, c6, c7⟩ ds rs = bs ++ (putS (wkS ⟨26, s, o, fin, l, c, f, q, y, c0, c1, c2, c3, c4, c5, c6, c7⟩) ++ bodyS ⟨26, s, o, fin, l, c, f, q, y, c0, c1, c2, c3, c4, c5, c6, c7⟩ ds rs) := rfl
  have hbod : bodyS ⟨26, s, o, fin, l, c, f, q, y, c0, c1, c2, c3, c4, c5, c6, c7⟩ ds rs = cidL ⟨26, s, o, fin, l, c, f, q, y, c0, c1, c2, c3, c4, c5, c6, c7⟩ := by
    simp [bodyS]
  rw [hbod] at hE
  have HE := Lib.hid hE
  clear hE hbod hr
  have hW := h
  have hB0 : Below w.heap.size w (w.alloc (.cells (frL ⟨26, s, o, fin, l, c, f, q, y, c0, c1, c2, c3, c4, c5, c6, c7⟩ d r).toArray 31)) := (Below.refl _ _).alloc (Nat.le_refl _) _
  have hA0 : At (w.alloc (.cells (frL ⟨26, s, o, fin, l, c, f, q, y, c0, c1, c2, c3, c4, c5, c6, c7⟩ d r).toArray 31)) w.heap.size 31 (frL ⟨26, s, o, fin, l, c, f, q, y, c0, c1, c2, c3, c4, c5, c6, c7⟩ d r) := At.new w _ _
  have hx0 := WSx.refl hW hB0
  have hM : w.heap.size ≤ (w.alloc (.cells (frL ⟨26, s, o, fin, l, c, f, q, y, c0, c1, c2, c3, c4, c5, c6, c7⟩ d r).toArray 31)).heap.size := hB0.size
  have hg : w.heap.size < (w.alloc (.cells (frL ⟨26, s, o, fin, l, c, f, q, y, c0, c1, c2, c3, c4, c5, c6, c7⟩ d r).toArray 31)).heap.size := hA0.lt
  have hn0 := hW.not_new (g := w.heap.size) (Nat.le_refl _)
  have hwk := wk_any ⟨26, s, o, fin, l, c, f, q, y, c0, c1, c2, c3, c4, c5, c6, c7⟩ d r
  obtain ⟨kv, hkv⟩ : ∃ x, wkS ⟨26, s, o, fin, l, c, f, q, y, c0, c1, c2, c3, c4, c5, c6, c7⟩ = x := ⟨_, rfl⟩
  rw [hkv] at hwb hwk HE
  clear hkv
  have HWK := Lib.hid (fun W => hwk W (show (0 : Int) ≤ 26 from by decide) (show (26 : Int) ≤ 30 from by decide) ho0)
  clear hwk
  have HWF := Lib.hid hwf
  have HDT := Lib.hid hdt
  have HRG := Lib.hid hrg
  have HCID := Lib.hid hcid
  clear hwf hdt hrg hcid
  obtain ⟨L, hL⟩ : ∃ L, frL ⟨26, s, o, fin, l, c, f, q, y, c0, c1, c2, c3, c4, c5, c6, c7⟩ d r = L := ⟨_, rfl⟩
  have hLl : L.length = 19 := by rw [← hL]; rfl
  have hfv : frV ⟨26, s, o, fin, l, c, f, q, y, c0, c1, c2, c3, c4, c5, c6, c7⟩ d r = .agg L.toArray := by rw [← hL]; rfl
  have hl_0 : L[0]? = some (.int .i64 26) := by rw [← hL]; rfl
  have hcr : ∀ W : World, At W w.heap.size 31 L → Rd W W.heap.size (some ⟨w.heap.size, 11, none⟩) 8 (cidL ⟨26, s, o, fin, l, c, f, q, y, c0, c1, c2, c3, c4, c5, c6, c7⟩) := fun W hW => cid_rd ⟨26, s, o, fin, l, c, f, q, y, c0, c1, c2, c3, c4, c5, c6, c7⟩ d r (by rw [hL]; exact hW) HCID.out
  have HCR := Lib.hid hcr
  clear hcr
  rw [hL] at hA0 hB0 hx0 hM hg
  rw [hfv] at HWK ⊢
  clear hL hfv
  have HL0 := Lib.hid hl_0
  clear hl_0
  have HLl := Lib.hid hLl
  clear hLl
  obtain ⟨dA, dn, dc⟩ := d
  obtain ⟨M, hMM⟩ : ∃ M, (w.alloc (.cells L.toArray 31)).heap.size = M := ⟨_, rfl⟩
  rw [hMM] at hx0 hM hg
  have HMM := Lib.hid hMM
  clear hMM
  go_enter Try.func40, Try.ntmps40
  go_wp2_with (first | ((with_reducible refine at_ld ?_); refine ld_fr_g _ _ (by rfl) (by rfl) hA0 HLl.out ?_) | fail)
  refine (HWK.out _).mono ?_
  rintro e w1 ⟨rfl, hb1⟩
  have hA1 := hA0.below hb1 (by rw [HMM.out]; exact hg)
  have hx1 := hx0.below hb1
  clear hA0 hx0 hb1
  have hm1 := hx1.2.2.2
  go_wp2_with fail
  refine (wvar_yes base p T v bs kv _ hx1.1 (by omega) hwb.1 (by omega) (by omega)).mono ?_
  rintro e w2 hw2
  obtain ⟨v2, rfl, hx2, hk2⟩ := hx1.step hM hw2
  have hA2 := hA1.kept hk2 (hx1.apart hg hn0)
  have hm2 := hx2.2.2.2
  clear hw2 hk2 hx1 hA1
  have e0 := (hA2.cell 0).trans HL0.out
  go_wp2_with fail
  refine (wraw_any base p T v2 _ (some ⟨w.heap.size, 11, none⟩) 8 8 (cidL ⟨26, s, o, fin, l, c, f, q, y, c0, c1, c2, c3, c4, c5, c6, c7⟩) _ hx2.1 (by simp only [List.length_append, List.length_cons, List.length_nil]; have z0 := putS_le kv; omega) (HCR.out _ hA2) (by omega)).mono ?_
  rintro e w3 hw3
  obtain ⟨v3, rfl, hx3, hk3⟩ := hx2.step hM hw3
  have hA3 := hA2.kept hk3 (hx2.apart hg hn0)
  have hm3 := hx3.2.2.2
  clear hw3 hk3 hx2 hA2
  go_wp2_with fail
  go_end0
  have hfin := hx3.post hM (.tuple #[])
  try simp only [List.append_assoc] at hfin
  have hEE := HE.out
  try simp only [List.append_assoc] at hEE
  rw [hEE]
  exact hfin
set_option maxRecDepth 100000 in
set_option maxHeartbeats 1000000 in
theorem write_27 (base p : Nat) (T : TypeId) (v : Value) (bs : List Int) (s o l c f q y c0 c1 c2 c3 c4 c5 c6 c7 : Int) (fin : Bool) (d r : Sl) (ds : List Int) (rs : RS) (w : World) (h : Wtr w base p T v bs) (hl : bs.length ≤ 100000000000)
    (hf : Fits w (fun b => ¬ WS p v b) ⟨27, s, o, fin, l, c, f, q, y, c0, c1, c2, c3, c4, c5, c6, c7⟩ d r ds rs) (hr : rightB ⟨27, s, o, fin, l, c, f, q, y, c0, c1, c2, c3, c4, c5, c6, c7⟩ ds rs = true) (hbase : base ≤ w.heap.size) :
    Calls Try.prog 40 #[.pointer (some ⟨p, 0, none⟩), frV ⟨27, s, o, fin, l, c, f, q, y, c0, c1, c2, c3, c4, c5, c6, c7⟩ d r] w (WPost (.tuple #[]) w base p T v (bs ++ oneS ⟨27, s, o, fin, l, c, f, q, y, c0, c1, c2, c3, c4, c5, c6, c7⟩ ds rs)) := by
  obtain ⟨hwf, hdt, hrg⟩ := hf
  have hwb := wkS_bd ⟨27, s, o, fin, l, c, f, q, y, c0, c1, c2, c3, c4, c5, c6, c7⟩ (show (0 : Int) ≤ 27 from by decide) (show (27 : Int) ≤ 30 from by decide)
  have hbd : (True) := by
    simp [rightB, askN, nrB, smB, drB, FN.zero, knownB, askDs] at hr
    first | trivial | omega | exact ⟨by omega, hr.2⟩
  have hs0 := hwf.s0
  have ho0 := hwf.o0
  have hl0 := hwf.l0
  have hc0 := hwf.c0
  have hf0 := hwf.f0
  have hq0 := hwf.q0
  have hy0 := hwf.y0
  simp only at hs0 ho0 hl0 hc0 hf0 hq0 hy0
  have hcid : Byt (cidL ⟨27, s, o, fin, l, c, f, q, y, c0, c1, c2, c3, c4, c5, c6, c7⟩) := hwf.cid
  have hE : bs ++ oneS ⟨27, s, o, fin, l, c, f, q, y, c0, c1, c2, c3, c4, c5, c6, c7⟩ ds rs = bs ++ (putS (wkS ⟨27, s, o, fin, l, c, f, q, y, c0, c1, c2, c3, c4, c5, c6, c7⟩) ++ bodyS ⟨27, s, o, fin, l, c, f, q, y, c0, c1, c2, c3, c4, c5, c6, c7⟩ ds rs) := rfl
  have hbod : bodyS ⟨27, s, o, fin, l, c, f, q, y, c0, c1, c2, c3, c4, c5, c6, c7⟩ ds rs = cidL ⟨27, s, o, fin, l, c, f, q, y, c0, c1, c2, c3, c4, c5, c6, c7⟩ := by
    simp [bodyS]
  rw [hbod] at hE
  have HE := Lib.hid hE
  clear hE hbod hr
  have hW := h
  have hB0 : Below w.heap.size w (w.alloc (.cells (frL ⟨27, s, o, fin, l, c, f, q, y, c0, c1, c2, c3, c4, c5, c6, c7⟩ d r).toArray 31)) := (Below.refl _ _).alloc (Nat.le_refl _) _
  have hA0 : At (w.alloc (.cells (frL ⟨27, s, o, fin, l, c, f, q, y, c0, c1, c2, c3, c4, c5, c6, c7⟩ d r).toArray 31)) w.heap.size 31 (frL ⟨27, s, o, fin, l, c, f, q, y, c0, c1, c2, c3, c4, c5, c6, c7⟩ d r) := At.new w _ _
  have hx0 := WSx.refl hW hB0
  have hM : w.heap.size ≤ (w.alloc (.cells (frL ⟨27, s, o, fin, l, c, f, q, y, c0, c1, c2, c3, c4, c5, c6, c7⟩ d r).toArray 31)).heap.size := hB0.size
  have hg : w.heap.size < (w.alloc (.cells (frL ⟨27, s, o, fin, l, c, f, q, y, c0, c1, c2, c3, c4, c5, c6, c7⟩ d r).toArray 31)).heap.size := hA0.lt
  have hn0 := hW.not_new (g := w.heap.size) (Nat.le_refl _)
  have hwk := wk_any ⟨27, s, o, fin, l, c, f, q, y, c0, c1, c2, c3, c4, c5, c6, c7⟩ d r
  obtain ⟨kv, hkv⟩ : ∃ x, wkS ⟨27, s, o, fin, l, c, f, q, y, c0, c1, c2, c3, c4, c5, c6, c7⟩ = x := ⟨_, rfl⟩
  rw [hkv] at hwb hwk HE
  clear hkv
  have HWK := Lib.hid (fun W => hwk W (show (0 : Int) ≤ 27 from by decide) (show (27 : Int) ≤ 30 from by decide) ho0)
  clear hwk
  have HWF := Lib.hid hwf
  have HDT := Lib.hid hdt
  have HRG := Lib.hid hrg
  have HCID := Lib.hid hcid
  clear hwf hdt hrg hcid
  obtain ⟨L, hL⟩ : ∃ L, frL ⟨27, s, o, fin, l, c, f, q, y, c0, c1, c2, c3, c4, c5, c6, c7⟩ d r = L := ⟨_, rfl⟩
  have hLl : L.length = 19 := by rw [← hL]; rfl
  have hfv : frV ⟨27, s, o, fin, l, c, f, q, y, c0, c1, c2, c3, c4, c5, c6, c7⟩ d r = .agg L.toArray := by rw [← hL]; rfl
  have hl_0 : L[0]? = some (.int .i64 27) := by rw [← hL]; rfl
  have hcr : ∀ W : World, At W w.heap.size 31 L → Rd W W.heap.size (some ⟨w.heap.size, 11, none⟩) 8 (cidL ⟨27, s, o, fin, l, c, f, q, y, c0, c1, c2, c3, c4, c5, c6, c7⟩) := fun W hW => cid_rd ⟨27, s, o, fin, l, c, f, q, y, c0, c1, c2, c3, c4, c5, c6, c7⟩ d r (by rw [hL]; exact hW) HCID.out
  have HCR := Lib.hid hcr
  clear hcr
  rw [hL] at hA0 hB0 hx0 hM hg
  rw [hfv] at HWK ⊢
  clear hL hfv
  have HL0 := Lib.hid hl_0
  clear hl_0
  have HLl := Lib.hid hLl
  clear hLl
  obtain ⟨dA, dn, dc⟩ := d
  obtain ⟨M, hMM⟩ : ∃ M, (w.alloc (.cells L.toArray 31)).heap.size = M := ⟨_, rfl⟩
  rw [hMM] at hx0 hM hg
  have HMM := Lib.hid hMM
  clear hMM
  go_enter Try.func40, Try.ntmps40
  go_wp2_with (first | ((with_reducible refine at_ld ?_); refine ld_fr_g _ _ (by rfl) (by rfl) hA0 HLl.out ?_) | fail)
  refine (HWK.out _).mono ?_
  rintro e w1 ⟨rfl, hb1⟩
  have hA1 := hA0.below hb1 (by rw [HMM.out]; exact hg)
  have hx1 := hx0.below hb1
  clear hA0 hx0 hb1
  have hm1 := hx1.2.2.2
  go_wp2_with fail
  refine (wvar_yes base p T v bs kv _ hx1.1 (by omega) hwb.1 (by omega) (by omega)).mono ?_
  rintro e w2 hw2
  obtain ⟨v2, rfl, hx2, hk2⟩ := hx1.step hM hw2
  have hA2 := hA1.kept hk2 (hx1.apart hg hn0)
  have hm2 := hx2.2.2.2
  clear hw2 hk2 hx1 hA1
  have e0 := (hA2.cell 0).trans HL0.out
  go_wp2_with fail
  refine (wraw_any base p T v2 _ (some ⟨w.heap.size, 11, none⟩) 8 8 (cidL ⟨27, s, o, fin, l, c, f, q, y, c0, c1, c2, c3, c4, c5, c6, c7⟩) _ hx2.1 (by simp only [List.length_append, List.length_cons, List.length_nil]; have z0 := putS_le kv; omega) (HCR.out _ hA2) (by omega)).mono ?_
  rintro e w3 hw3
  obtain ⟨v3, rfl, hx3, hk3⟩ := hx2.step hM hw3
  have hA3 := hA2.kept hk3 (hx2.apart hg hn0)
  have hm3 := hx3.2.2.2
  clear hw3 hk3 hx2 hA2
  go_wp2_with fail
  go_end0
  have hfin := hx3.post hM (.tuple #[])
  try simp only [List.append_assoc] at hfin
  have hEE := HE.out
  try simp only [List.append_assoc] at hEE
  rw [hEE]
  exact hfin
set_option maxRecDepth 100000 in
set_option maxHeartbeats 1000000 in
theorem write_28 (base p : Nat) (T : TypeId) (v : Value) (bs : List Int) (s o l c f q y c0 c1 c2 c3 c4 c5 c6 c7 : Int) (fin : Bool) (d r : Sl) (ds : List Int) (rs : RS) (w : World) (h : Wtr w base p T v bs) (hl : bs.length ≤ 100000000000)
    (hf : Fits w (fun b => ¬ WS p v b) ⟨28, s, o, fin, l, c, f, q, y, c0, c1, c2, c3, c4, c5, c6, c7⟩ d r ds rs) (hr : rightB ⟨28, s, o, fin, l, c, f, q, y, c0, c1, c2, c3, c4, c5, c6, c7⟩ ds rs = true) (hbase : base ≤ w.heap.size) :
    Calls Try.prog 40 #[.pointer (some ⟨p, 0, none⟩), frV ⟨28, s, o, fin, l, c, f, q, y, c0, c1, c2, c3, c4, c5, c6, c7⟩ d r] w (WPost (.tuple #[]) w base p T v (bs ++ oneS ⟨28, s, o, fin, l, c, f, q, y, c0, c1, c2, c3, c4, c5, c6, c7⟩ ds rs)) := by
  obtain ⟨hwf, hdt, hrg⟩ := hf
  have hwb := wkS_bd ⟨28, s, o, fin, l, c, f, q, y, c0, c1, c2, c3, c4, c5, c6, c7⟩ (show (0 : Int) ≤ 28 from by decide) (show (28 : Int) ≤ 30 from by decide)
  have hbd : (c ≤ 4611686018427387903 ∧ ds.length ≤ 512) := by
    simp [rightB, askN, nrB, smB, drB, FN.zero, knownB, askDs] at hr
    first | trivial | omega | exact ⟨by omega, hr.2⟩
  have hs0 := hwf.s0
  have ho0 := hwf.o0
  have hl0 := hwf.l0
  have hc0 := hwf.c0
  have hf0 := hwf.f0
  have hq0 := hwf.q0
  have hy0 := hwf.y0
  simp only at hs0 ho0 hl0 hc0 hf0 hq0 hy0
  have hcid : Byt (cidL ⟨28, s, o, fin, l, c, f, q, y, c0, c1, c2, c3, c4, c5, c6, c7⟩) := hwf.cid
  have hE : bs ++ oneS ⟨28, s, o, fin, l, c, f, q, y, c0, c1, c2, c3, c4, c5, c6, c7⟩ ds rs = bs ++ (putS (wkS ⟨28, s, o, fin, l, c, f, q, y, c0, c1, c2, c3, c4, c5, c6, c7⟩) ++ bodyS ⟨28, s, o, fin, l, c, f, q, y, c0, c1, c2, c3, c4, c5, c6, c7⟩ ds rs) := rfl
  have hbod : bodyS ⟨28, s, o, fin, l, c, f, q, y, c0, c1, c2, c3, c4, c5, c6, c7⟩ ds rs = putS c ++ textB ds := by
    simp [bodyS]
  rw [hbod] at hE
  have HE := Lib.hid hE
  clear hE hbod hr
  have hW := h
  have hB0 : Below w.heap.size w (w.alloc (.cells (frL ⟨28, s, o, fin, l, c, f, q, y, c0, c1, c2, c3, c4, c5, c6, c7⟩ d r).toArray 31)) := (Below.refl _ _).alloc (Nat.le_refl _) _
  have hA0 : At (w.alloc (.cells (frL ⟨28, s, o, fin, l, c, f, q, y, c0, c1, c2, c3, c4, c5, c6, c7⟩ d r).toArray 31)) w.heap.size 31 (frL ⟨28, s, o, fin, l, c, f, q, y, c0, c1, c2, c3, c4, c5, c6, c7⟩ d r) := At.new w _ _
  have hx0 := WSx.refl hW hB0
  have hM : w.heap.size ≤ (w.alloc (.cells (frL ⟨28, s, o, fin, l, c, f, q, y, c0, c1, c2, c3, c4, c5, c6, c7⟩ d r).toArray 31)).heap.size := hB0.size
  have hg : w.heap.size < (w.alloc (.cells (frL ⟨28, s, o, fin, l, c, f, q, y, c0, c1, c2, c3, c4, c5, c6, c7⟩ d r).toArray 31)).heap.size := hA0.lt
  have hn0 := hW.not_new (g := w.heap.size) (Nat.le_refl _)
  have hwk := wk_any ⟨28, s, o, fin, l, c, f, q, y, c0, c1, c2, c3, c4, c5, c6, c7⟩ d r
  obtain ⟨kv, hkv⟩ : ∃ x, wkS ⟨28, s, o, fin, l, c, f, q, y, c0, c1, c2, c3, c4, c5, c6, c7⟩ = x := ⟨_, rfl⟩
  rw [hkv] at hwb hwk HE
  clear hkv
  have HWK := Lib.hid (fun W => hwk W (show (0 : Int) ≤ 28 from by decide) (show (28 : Int) ≤ 30 from by decide) ho0)
  clear hwk
  have HWF := Lib.hid hwf
  have HDT := Lib.hid hdt
  have HRG := Lib.hid hrg
  have HCID := Lib.hid hcid
  clear hwf hdt hrg hcid
  obtain ⟨L, hL⟩ : ∃ L, frL ⟨28, s, o, fin, l, c, f, q, y, c0, c1, c2, c3, c4, c5, c6, c7⟩ d r = L := ⟨_, rfl⟩
  have hLl : L.length = 19 := by rw [← hL]; rfl
  have hfv : frV ⟨28, s, o, fin, l, c, f, q, y, c0, c1, c2, c3, c4, c5, c6, c7⟩ d r = .agg L.toArray := by rw [← hL]; rfl
  have hl_0 : L[0]? = some (.int .i64 28) := by rw [← hL]; rfl
  have hl_3 : L[3]? = some (.slice d.A d.n d.c) := by rw [← hL]; rfl
  have hl_6 : L[6]? = some (.int .u64 c) := by rw [← hL]; rfl
  rw [hL] at hA0 hB0 hx0 hM hg
  rw [hfv] at HWK ⊢
  clear hL hfv
  have HL0 := Lib.hid hl_0
  clear hl_0
  have HL3 := Lib.hid hl_3
  clear hl_3
  have HL6 := Lib.hid hl_6
  clear hl_6
  have HLl := Lib.hid hLl
  clear hLl
  obtain ⟨dA, dn, dc⟩ := d
  obtain ⟨M, hMM⟩ : ∃ M, (w.alloc (.cells L.toArray 31)).heap.size = M := ⟨_, rfl⟩
  rw [hMM] at hx0 hM hg
  have HMM := Lib.hid hMM
  clear hMM
  have hdc := HDT.out.cm
  have hdl := HDT.out.lc
  have hdn := HDT.out.rd.len
  simp only at hdc hdl hdn
  unfold maxLen at hdc
  have hdn' : dn ≤ 512 := by omega
  have HDN := Lib.hid hdn
  clear hdn
  go_enter Try.func40, Try.ntmps40
  go_wp2_with (first | ((with_reducible refine at_ld ?_); refine ld_fr_g _ _ (by rfl) (by rfl) hA0 HLl.out ?_) | fail)
  refine (HWK.out _).mono ?_
  rintro e w1 ⟨rfl, hb1⟩
  have hA1 := hA0.below hb1 (by rw [HMM.out]; exact hg)
  have hx1 := hx0.below hb1
  clear hA0 hx0 hb1
  have hm1 := hx1.2.2.2
  go_wp2_with fail
  refine (wvar_yes base p T v bs kv _ hx1.1 (by omega) hwb.1 (by omega) (by omega)).mono ?_
  rintro e w2 hw2
  obtain ⟨v2, rfl, hx2, hk2⟩ := hx1.step hM hw2
  have hA2 := hA1.kept hk2 (hx1.apart hg hn0)
  have hm2 := hx2.2.2.2
  clear hw2 hk2 hx1 hA1
  have e0 := (hA2.cell 0).trans HL0.out
  have f6 := (hA2.cell 6).trans HL6.out
  go_wp2_with fail
  refine (wvar_yes base p T v2 _ c _ hx2.1 (by simp only [List.length_append, List.length_cons, List.length_nil]; have z0 := putS_le kv; omega) hc0 (by omega) (by omega)).mono ?_
  rintro e w3 hw3
  obtain ⟨v3, rfl, hx3, hk3⟩ := hx2.step hM hw3
  have hA3 := hA2.kept hk3 (hx2.apart hg hn0)
  have hm3 := hx3.2.2.2
  clear hw3 hk3 hx2 hA2
  clear f6
  have f3 := (hA3.cell 3).trans HL3.out
  go_wp2_with fail
  have hrw := hx3.row hM HDT.out
  refine (wtext_any base p T v3 _ dA dn dc ds _ hx3.1 (by simp only [List.length_append, List.length_cons, List.length_nil]; have z0 := putS_le kv; have z1 := putS_le c; omega) (by omega) hrw.1 hrw.2 (by omega)).mono ?_
  rintro e w4 hw4
  obtain ⟨v4, rfl, hx4, hk4⟩ := hx3.step hM hw4
  have hA4 := hA3.kept hk4 (hx3.apart hg hn0)
  have hm4 := hx4.2.2.2
  clear hw4 hk4 hx3 hA3
  clear f3
  go_wp2_with fail
  go_end0
  have hfin := hx4.post hM (.tuple #[])
  try simp only [List.append_assoc] at hfin
  have hEE := HE.out
  try simp only [List.append_assoc] at hEE
  rw [hEE]
  exact hfin
theorem write_any (base p : Nat) (T : TypeId) (v : Value) (bs : List Int) (m : FN) (d r : Sl) (ds : List Int) (rs : RS) (w : World) (h : Wtr w base p T v bs) (hl : bs.length ≤ 100000000000)
    (hf : Fits w (fun b => ¬ WS p v b) m d r ds rs) (hr : rightB m ds rs = true) (hbase : base ≤ w.heap.size) :
    Calls Try.prog 40 #[.pointer (some ⟨p, 0, none⟩), frV m d r] w (WPost (.tuple #[]) w base p T v (bs ++ oneS m ds rs)) := by
  obtain ⟨k, s, o, fin, l, c, f, q, y, c0, c1, c2, c3, c4, c5, c6, c7⟩ := m
  rcases kind_cases k with rfl | rfl | rfl | rfl | rfl | rfl | rfl | rfl | rfl | rfl | rfl | rfl | rfl | rfl | rfl | rfl | rfl | hk
  · exact write_0 base p T v bs s o l c f q y c0 c1 c2 c3 c4 c5 c6 c7 fin d r ds rs w h hl hf hr hbase
  · exact write_1 base p T v bs s o l c f q y c0 c1 c2 c3 c4 c5 c6 c7 fin d r ds rs w h hl hf hr hbase
  · exact write_30 base p T v bs s o l c f q y c0 c1 c2 c3 c4 c5 c6 c7 fin d r ds rs w h hl hf hr hbase
  · exact write_2 base p T v bs s o l c f q y c0 c1 c2 c3 c4 c5 c6 c7 fin d r ds rs w h hl hf hr hbase
  · exact write_4 base p T v bs s o l c f q y c0 c1 c2 c3 c4 c5 c6 c7 fin d r ds rs w h hl hf hr hbase
  · exact write_5 base p T v bs s o l c f q y c0 c1 c2 c3 c4 c5 c6 c7 fin d r ds rs w h hl hf hr hbase
  · exact write_6 base p T v bs s o l c f q y c0 c1 c2 c3 c4 c5 c6 c7 fin d r ds rs w h hl hf hr hbase
  · rcases Int.lt_or_le 0 o with ho | ho
    · exact write_8p base p T v bs s o l c f q y c0 c1 c2 c3 c4 c5 c6 c7 fin d r ds rs w h hl hf hr ho hbase
    · exact write_8z base p T v bs s o l c f q y c0 c1 c2 c3 c4 c5 c6 c7 fin d r ds rs w h hl hf hr ho hbase
  · exact write_16 base p T v bs s o l c f q y c0 c1 c2 c3 c4 c5 c6 c7 fin d r ds rs w h hl hf hr hbase
  · exact write_18 base p T v bs s o l c f q y c0 c1 c2 c3 c4 c5 c6 c7 fin d r ds rs w h hl hf hr hbase
  · exact write_20 base p T v bs s o l c f q y c0 c1 c2 c3 c4 c5 c6 c7 fin d r ds rs w h hl hf hr hbase
  · exact write_17 base p T v bs s o l c f q y c0 c1 c2 c3 c4 c5 c6 c7 fin d r ds rs w h hl hf hr hbase
  · exact write_24 base p T v bs s o l c f q y c0 c1 c2 c3 c4 c5 c6 c7 fin d r ds rs w h hl hf hr hbase
  · exact write_25 base p T v bs s o l c f q y c0 c1 c2 c3 c4 c5 c6 c7 fin d r ds rs w h hl hf hr hbase
  · exact write_26 base p T v bs s o l c f q y c0 c1 c2 c3 c4 c5 c6 c7 fin d r ds rs w h hl hf hr hbase
  · exact write_27 base p T v bs s o l c f q y c0 c1 c2 c3 c4 c5 c6 c7 fin d r ds rs w h hl hf hr hbase
  · exact write_28 base p T v bs s o l c f q y c0 c1 c2 c3 c4 c5 c6 c7 fin d r ds rs w h hl hf hr hbase
  · exfalso
    obtain ⟨e0, e1, e30, e2, e4, e5, e6, e8, e16, e18, e20, e17, e24, e25, e26, e27, e28⟩ := hk
    simp [rightB, knownB, e0, e1, e30, e2, e4, e5, e6, e8, e16, e18, e20, e17, e24, e25, e26, e27, e28] at hr
end
section
set_option linter.unusedVariables false
set_option linter.unusedSimpArgs false
open Go.RowKit
/-- A frame's value and what it reads as. -/
structure FR where
  m : FN
  d : Sl
  r : Sl
  ds : List Int
  rs : RS
/-- The slice value with address A and n elements reads as the frames L, in blocks that P allows. -/
def FrsP (w : World) (P : Nat → Prop) (A : Option Addr) (n : Nat) (L : List FR) : Prop :=
  L.length = n ∧ (0 < n → ∃ b off, A = some ⟨b, off, none⟩ ∧ b < w.heap.size ∧ P b ∧ ∀ (i : Nat) (x : FR), L[i]? = some x → w.rangeAt b (off + i * 19) (frL x.m x.d x.r)) ∧ ∀ x ∈ L, Fits w P x.m x.d x.r x.ds x.rs
theorem rangeAt_kept {S : Nat → Prop} {w w' : World} {b o : Nat} {cs : List Value} (h : w.rangeAt b o cs) (k : Kept S w w') (hb : b < w.heap.size) (hs : ¬ S b) : w'.rangeAt b o cs := fun j v hv => (k.cell (p := ⟨b, _, none⟩) hb hs).trans (h j v hv)
theorem FrsP.kept {S P : Nat → Prop} {w w' : World} {A : Option Addr} {n : Nat} {L : List FR} (h : FrsP w P A n L) (k : Kept S w w') (hs : ∀ b, P b → ¬ S b) : FrsP w' P A n L := by
  refine ⟨h.1, fun hn => ?_, fun x hx => (h.2.2 x hx).kept k hs⟩
  obtain ⟨b, off, e, hb, hp, hc⟩ := h.2.1 hn
  exact ⟨b, off, e, Nat.lt_of_lt_of_le hb k.size, hp, fun i x hx => rangeAt_kept (hc i x hx) k hb (hs b hp)⟩
theorem FrsP.mono {P P' : Nat → Prop} {w : World} {A : Option Addr} {n : Nat} {L : List FR} (h : FrsP w P A n L) (hp : ∀ b, b < w.heap.size → P b → P' b) : FrsP w P' A n L := by
  refine ⟨h.1, fun hn => ?_, fun x hx => (h.2.2 x hx).mono hp⟩
  obtain ⟨b, off, e, hb, hp', hc⟩ := h.2.1 hn
  exact ⟨b, off, e, hb, hp b hb hp', hc⟩
theorem FrsP.below {P : Nat → Prop} {w w' : World} {A : Option Addr} {n : Nat} {L : List FR} (h : FrsP w P A n L) (k : Below w.heap.size w w') : FrsP w' P A n L := h.kept (Kept.of_below k (fun _ => False)) (fun _ _ h => h)
theorem ack_bound (y : Int) (rs : RS) (h : rs.length ≤ 16) : (putL (ackV y rs)).length ≤ 288 := by
  have h1 := putL_len (ackV y rs)
  have h2 := ackV_len y rs
  omega
theorem body_bound (m : FN) (ds : List Int) (rs : RS) (hr : rs.length ≤ 16 ∨ m.k ≠ 2) (hd : ds.length ≤ 512 ∨ (m.k ≠ 6 ∧ m.k ≠ 8 ∧ m.k ≠ 28)) : (bodyS m ds rs).length ≤ 800 := by
  have t := textB_le ds
  have po := putS_le m.o
  have ps := putS_le m.s
  have pl := putS_le m.l
  have pq := putS_le m.q
  have pc := putS_le m.c
  have l3 := putL_len [m.s, m.c, m.f]
  have l2 := putL_len [m.s, m.c]
  have l2b := putL_len [m.s, m.l]
  have l2c := putL_len [m.q, m.l]
  have hc : (cidL m).length = 8 := rfl
  simp only [List.length_cons, List.length_nil] at l3 l2 l2b l2c
  unfold bodyS
  by_cases h2 : m.k = 2
  · rw [if_pos h2]
    have := ack_bound m.y rs (by omega)
    omega
  by_cases h4 : m.k = 4
  · rw [if_neg h2, if_pos h4]; omega
  by_cases h5 : m.k = 5
  · rw [if_neg h2, if_neg h4, if_pos h5]; omega
  by_cases h6 : m.k = 6
  · rw [if_neg h2, if_neg h4, if_neg h5, if_pos h6, List.length_append]; omega
  by_cases h8 : m.k = 8
  · rw [if_neg h2, if_neg h4, if_neg h5, if_neg h6, if_pos h8]
    split <;> simp only [List.length_append] <;> omega
  rw [if_neg h2, if_neg h4, if_neg h5, if_neg h6, if_neg h8]
  (repeat' split) <;> (try simp only [List.length_append, List.length_cons, List.length_nil]) <;> omega
theorem right_bound (m : FN) (ds : List Int) (rs : RS) (h : rightB m ds rs = true) : (rs.length ≤ 16 ∨ m.k ≠ 2) ∧ (ds.length ≤ 512 ∨ (m.k ≠ 6 ∧ m.k ≠ 8 ∧ m.k ≠ 28)) := by
  unfold rightB at h
  simp only [Bool.and_eq_true] at h
  obtain ⟨⟨⟨h1, h2⟩, h3⟩, h4⟩ := h
  refine ⟨?_, ?_⟩
  · by_cases hk : m.k = 2
    · left
      simp [hk] at h4
      exact (rr_all rs h4).1.2
    · exact .inr hk
  · by_cases hk : m.k = 6 ∨ m.k = 8 ∨ m.k = 28
    · left
      unfold askDs at h3
      rw [if_pos hk] at h3
      unfold drB at h3
      simp only [Bool.and_eq_true, decide_eq_true_eq] at h3
      have := h3.1
      split at this <;> omega
    · right; omega
theorem one_bound (m : FN) (ds : List Int) (rs : RS) (h : rightB m ds rs = true) : (oneS m ds rs).length ≤ 808 := by
  have h1 := right_bound m ds rs h
  have h2 := body_bound m ds rs h1.1 h1.2
  have h3 := putS_le (wkS m)
  unfold oneS
  rw [List.length_append]; omega
def sizeF (m : FN) (ds : List Int) (rs : RS) : Int := if rightB m ds rs = true then ((oneS m ds rs).length : Int) else 0
set_option maxRecDepth 100000 in
set_option maxHeartbeats 1000000 in
theorem fsize_any (P : Nat → Prop) (m : FN) (d r : Sl) (ds : List Int) (rs : RS) (w : World) (hf : Fits w P m d r ds rs) : Calls Try.prog 22 #[frV m d r] w (FrPost (.int .i64 (sizeF m ds rs)) w) := by
  have hB0 : Below w.heap.size w (w.alloc (.cells (frL m d r).toArray 31)) := (Below.refl _ _).alloc (Nat.le_refl _) _
  have hA0 : At (w.alloc (.cells (frL m d r).toArray 31)) w.heap.size 31 (frL m d r) := At.new w _ _
  have hrt := fun W (h : Fits W P m d r ds rs) => right_any P m d r ds rs W h
  have hF0 := hf.below hB0
  have hwr := fun (base p : Nat) (T : TypeId) (v : Value) (W : World) a1 a2 a3 a4 a5 => write_any base p T v [] m d r ds rs W a1 a2 a3 a4 a5
  have hg : w.heap.size < (w.alloc (.cells (frL m d r).toArray 31)).heap.size := hA0.lt
  obtain ⟨L, hL⟩ : ∃ L, frL m d r = L := ⟨_, rfl⟩
  have hLl : L.length = 19 := by rw [← hL]; rfl
  have hfv : frV m d r = .agg L.toArray := by rw [← hL]; rfl
  rw [hL] at hA0 hB0 hF0 hg
  rw [hfv] at hrt hwr ⊢
  clear hL hfv
  have HLl := Lib.hid hLl
  have HRT := Lib.hid hrt
  have HWR := Lib.hid hwr
  clear hLl hrt hwr
  obtain ⟨rb, hrb⟩ : ∃ x, rightB m ds rs = x := ⟨_, rfl⟩
  have HRB := Lib.hid hrb
  cases rb with
  | false =>
    have hz : sizeF m ds rs = 0 := by unfold sizeF; rw [hrb]; rfl
    have HZ := Lib.hid hz
    clear hrb hz
    go_enter Try.func22, Try.ntmps22
    go_wp2_with (first | ((with_reducible refine at_ld ?_); refine ld_fr_g _ _ (by rfl) (by rfl) hA0 HLl.out ?_) | fail)
    refine (HRT.out _ hF0).mono ?_
    rintro e w1 ⟨rfl, hb1⟩
    rw [HRB.out]
    go_wp2_with fail
    go_ret
    exact ⟨by rw [HZ.out]; rfl, hB0.trans (hb1.mono (by omega))⟩
  | true =>
    have hz : sizeF m ds rs = ([] ++ oneS m ds rs).length := by unfold sizeF; rw [hrb]; rfl
    have HZ := Lib.hid hz
    clear hrb hz
    go_enter Try.func22, Try.ntmps22
    go_wp2_with (first | ((with_reducible refine at_ld ?_); refine ld_fr_g _ _ (by rfl) (by rfl) hA0 HLl.out ?_) | fail)
    refine (HRT.out _ hF0).mono ?_
    rintro e w1 ⟨rfl, hb1⟩
    rw [HRB.out]
    have hA1 := hA0.below hb1 hg
    have hF1 := hF0.below hb1
    have hB1 := hB0.trans (hb1.mono (by omega))
    have hs1 := hb1.size
    clear hb1
    go_wp2_with fail
    refine (new_any w1).mono ?_
    rintro e w2 ⟨rfl, hW2, hs2, hb2⟩
    have hA2 := hA1.below hb2 hA1.lt
    have hF2 := (hF1.mono (P' := fun b => ¬ WS w1.heap.size (.slice none 0 0) b) (fun b hb _ hs => by rcases hs with hs | hs; omega; simp [Value.ownBlock] at hs)).below hb2
    have hB2 := hB1.trans (hb2.mono (by omega))
    clear hb2
    go_wp2_with (first | ((with_reducible refine at_ld ?_); refine ld_fr_g _ _ (by rfl) (by rfl) hA2 HLl.out ?_) | fail)
    refine (HWR.out w1.heap.size w1.heap.size _ _ _ hW2 (by simp) hF2 HRB.out (by omega)).mono ?_
    rintro e w3 ⟨v3, rfl, hW3, _, hk3⟩
    have hB3 := hk3.below hB2 (by omega) (fun j hj => by rcases hj with hj | hj; omega; simp [Value.ownBlock] at hj)
    go_wp2_with fail
    refine (wlen_any _ _ _ _ _ _ hW3).mono ?_
    rintro e w4 ⟨rfl, rfl⟩
    go_wp2_with fail
    go_ret
    exact ⟨by rw [HZ.out]; rfl, hB3⟩
section
variable {ops : Array Oper} {rest : List Oper} {a : Act} {w : World} {Q : Exit → Act → World → Prop} {dst : Option Tmp} {x y : Operand} {t : TypeId} {pos : String} {after : Array Edge} {g : Option (Nat × Bool)}
/-- A whole frame's load out of a row. -/
theorem ld_fr_o (b o : Nat) (l : List Value) (hg : Region.wanted ⟨dst, .load 31 x, t, pos, after, g⟩ (yielded ops a.tmps) = true) (hx : a.eval x = .pointer (some ⟨b, o, none⟩)) (hA : w.rangeAt b o l) (hl : l.length = 19)
    (h : wpList Try.prog ops Q rest (a.put dst (.agg l.toArray)) w) : wpList Try.prog ops Q (⟨dst, .load 31 x, t, pos, after, g⟩ :: rest) a w := by
  refine wpList_step fun K hK => ?_
  rw [if_pos hg]
  exact wp_load_mid _ _ rfl b o hx l _ hA Try.underlying31 rfl (by rw [hl]; exact fr_info) (hK _ _ h)
end
def FR.right (x : FR) : Bool := rightB x.m x.ds x.rs
def encS (L : List FR) : List Int := L.flatMap fun x => oneS x.m x.ds x.rs
theorem encS_take (L : List FR) (k : Nat) (x : FR) (h : L[k]? = some x) : encS (L.take (k + 1)) = encS (L.take k) ++ oneS x.m x.ds x.rs := by
  obtain ⟨hk, e⟩ := List.getElem?_eq_some_iff.1 h
  unfold encS
  rw [List.take_succ_eq_append_getElem hk, List.flatMap_append, e]; simp
theorem encS_len : ∀ L : List FR, L.all FR.right = true → (encS L).length ≤ 808 * L.length
  | [], _ => by simp [encS]
  | x :: t, h => by
    simp only [List.all_cons, Bool.and_eq_true] at h
    have h1 := one_bound x.m x.ds x.rs h.1
    have h2 := encS_len t h.2
    unfold encS at *
    rw [List.flatMap_cons, List.length_append, List.length_cons]
    omega
def EncPost (L : List FR) (w : World) (e : Ending) (w' : World) : Prop :=
  (L.all FR.right = true → ∃ v, e = .returned (.tuple #[v, .int .i64 0]) ∧ Own w' w.heap.size 5 v (encS L)) ∧ (L.all FR.right = false → e = .returned (.tuple #[.slice none 0 0, .int .i64 1])) ∧ Below w.heap.size w w'
theorem all_take_succ (L : List FR) (k : Nat) (x : FR) (h : L[k]? = some x) : (L.take (k + 1)).all FR.right = ((L.take k).all FR.right && x.right) := by
  obtain ⟨hk, e⟩ := List.getElem?_eq_some_iff.1 h
  rw [List.take_succ_eq_append_getElem hk, List.all_append, e]; simp
theorem all_take_false (L : List FR) (k : Nat) (h : (L.take k).all FR.right = false) : L.all FR.right = false := by
  cases hb : L.all FR.right with
  | false => rfl
  | true =>
    rw [List.all_eq_true] at hb
    have : (L.take k).all FR.right = true := List.all_eq_true.2 fun x hx => hb x (List.mem_of_mem_take hx)
    rw [this] at h; cases h
/-- What Encode's loop keeps. -/
structure EncAt (w : World) (L : List FR) (k : Nat) (v' : Value) (wr : World) : Prop where
  wt : Wtr wr w.heap.size w.heap.size 101 v' (encS (L.take k))
  bl : Below w.heap.size w wr
  all : (L.take k).all FR.right = true
  sz : w.heap.size < wr.heap.size
set_option maxRecDepth 100000 in
set_option maxHeartbeats 2000000 in
theorem encode_any (P : Nat → Prop) (A : Option Addr) (n c : Nat) (L : List FR) (w : World) (hf : FrsP w P A n L) (hn : n ≤ 1000) (hnc : n ≤ c) : Calls Try.prog 19 #[.slice A n c] w (EncPost L w) := by
  have HF := Lib.hid (hf.mono (P' := fun b => b < w.heap.size) (fun b hb _ => hb))
  have HLN := Lib.hid hf.1
  clear hf
  go_enter Try.func19, Try.ntmps19
  go_wp2_with fail
  refine (new_any w).mono ?_
  rintro e w2 ⟨rfl, hW2, hs2, hb2⟩
  have HI : Hid (EncAt w L 0 (.slice none 0 0) w2) := Lib.hid ⟨by simpa [encS] using hW2, hb2, by simp, hs2⟩
  clear hW2 hs2 hb2
  go_wp2_with fail
  go_loopw [10] (fun i wr => ∃ (k : Nat) (v' : Value), k ≤ n ∧ i = .int .i64 k ∧ Hid (EncAt w L k v' wr)) (fun i _ => n - (intOf i).toNat)
  case atStart => exact ⟨0, _, by omega, rfl, HI⟩
  case round =>
    obtain ⟨k, v', hk, rfl, hat⟩ := hrel
    have hszr := hat.out.sz
    by_cases hlt : k < n
    · have hF := HF.out.below hat.out.bl
      obtain ⟨b, off, rfl, hb, hP, hc⟩ := hF.2.1 (by omega)
      obtain ⟨x, hx⟩ : ∃ x, L[k]? = some x := ⟨_, List.getElem?_eq_getElem (by rw [HLN.out]; exact hlt)⟩
      have hra := hc k x hx
      have hfx := hF.2.2 x (List.mem_of_getElem? hx)
      obtain ⟨fl, hfl⟩ : ∃ fl, frL x.m x.d x.r = fl := ⟨_, rfl⟩
      have hLl : fl.length = 19 := by rw [← hfl]; rfl
      have hone : fl.all (·.oneCell') = true := by rw [← hfl]; rfl
      have hfv : frV x.m x.d x.r = .agg fl.toArray := by rw [← hfl]; rfl
      have hb0 : Below wr.heap.size wr (wr.alloc (.cells fl.toArray 31)) := (Below.refl _ _).alloc (Nat.le_refl _) _
      have hf0 := hfx.below hb0
      have hA0 : At (wr.alloc (.cells fl.toArray 31)) wr.heap.size 31 fl := At.new wr _ _
      have hg0 := hA0.lt
      have hrt := right_any _ x.m x.d x.r x.ds x.rs _ hf0
      have hwr := fun (base p : Nat) (T : TypeId) (v : Value) (bs : List Int) (W : World) a1 a2 a3 a4 a5 => write_any base p T v bs x.m x.d x.r x.ds x.rs W a1 a2 a3 a4 a5
      rw [hfl] at hra
      rw [hfv] at hrt hwr
      clear hfl hfv
      have HRA := Lib.hid hra
      have HLl := Lib.hid hLl
      have HO := Lib.hid hone
      have HB0 := Lib.hid hb0
      have HA0 := Lib.hid hA0
      have HRT := Lib.hid hrt
      have HWR := Lib.hid hwr
      have HX := Lib.hid hx
      have HF0 := Lib.hid hf0
      clear hra hLl hone hb0 hA0 hrt hwr hx hc hfx hF hf0
      obtain ⟨rb, hrb⟩ : ∃ y, rightB x.m x.ds x.rs = y := ⟨_, rfl⟩
      have HRB := Lib.hid hrb
      rw [hrb] at HRT
      clear hrb
      cases rb with
      | false =>
        go_wp2_with (first | ((with_reducible refine at_ld (x := .tmp 12) ?_); refine ld_fr_o _ _ _ (by rfl) (by rfl) HRA.out HLl.out ?_) | ((with_reducible refine at_st ?_); refine st_top _ _ _ (by rfl) _ (by rfl) (by simp) (by rfl) (by rfl) HLl.out HO.out ?_) | ((with_reducible refine at_ld (x := .tmp 6) ?_); refine ld_fr_g _ _ (by rfl) (by rfl) HA0.out HLl.out ?_) | fail)
        refine HRT.out.mono ?_
        rintro e w3 ⟨rfl, hb3⟩
        go_wp2_with fail
        go_ret2
        refine ⟨fun h => ?_, fun _ => rfl, (hat.out.bl.trans (HB0.out.mono (by omega))).trans (hb3.mono (by omega))⟩
        have := all_take_false L (k + 1) (by rw [all_take_succ L k x HX.out]; unfold FR.right; rw [HRB.out]; simp)
        rw [this] at h; cases h
      | true =>
        go_wp2_with (first | ((with_reducible refine at_ld (x := .tmp 12) ?_); refine ld_fr_o _ _ _ (by rfl) (by rfl) HRA.out HLl.out ?_) | ((with_reducible refine at_st ?_); refine st_top _ _ _ (by rfl) _ (by rfl) (by simp) (by rfl) (by rfl) HLl.out HO.out ?_) | ((with_reducible refine at_ld (x := .tmp 6) ?_); refine ld_fr_g _ _ (by rfl) (by rfl) HA0.out HLl.out ?_) | fail)
        refine HRT.out.mono ?_
        rintro e w3 ⟨rfl, hb3⟩
        have hA3 := HA0.out.below hb3 hg0
        have hF3 := (HF0.out.below hb3).mono (P' := fun b => ¬ WS w.heap.size v' b) (fun b _ hb hs => by
          rcases hs with hs | hs
          · omega
          · have := (hat.out.wt.2.2.1.block_lt b hs).1; omega)
        have hB3 : Below w.heap.size w w3 := (hat.out.bl.trans (HB0.out.mono (by omega))).trans (hb3.mono (by omega))
        have hW3 : Wtr w3 w.heap.size w.heap.size 101 v' (encS (L.take k)) := hat.out.wt.kept (Kept.of_below (HB0.out.trans (hb3.mono (by omega))) (fun _ => False)) (fun h => h) (fun _ _ h => h)
        have hel := encS_len (L.take k) hat.out.all
        have htl := List.length_take_le k L
        have hal := hat.out.all
        have hs3 := hB3.size
        clear hb3 hat
        go_wp2_with (first | ((with_reducible refine at_ld (x := .tmp 6) ?_); refine ld_fr_g _ _ (by rfl) (by rfl) hA3 HLl.out ?_) | fail)
        refine (HWR.out w.heap.size w.heap.size _ _ _ _ hW3 (by omega) hF3 HRB.out hs3).mono ?_
        rintro e w4 ⟨v4, rfl, hW4, _, hk4⟩
        have hB4 := hk4.below hB3 hs3 (fun j hj => by
          rcases hj with hj | hj
          · omega
          · exact (hW3.2.2.1.block_lt j hj).1)
        have hI4 : Hid (EncAt w L (k + 1) v4 w4) := Lib.hid ⟨by rw [encS_take L k x HX.out]; exact hW4, hB4, by rw [all_take_succ L k x HX.out, hal]; unfold FR.right; rw [HRB.out]; rfl, by have := hW4.1.lt; omega⟩
        clear hk4 hW4 hB4 hF3 hA3 hW3 hal hB3
        go_wp2_with fail
        go_roundw
        case rel => exact ⟨k + 1, v4, by omega, by go_num, hI4⟩
        case measure => simp [intOf] <;> omega
    · obtain rfl : k = n := by omega
      have htk : L.take k = L := List.take_of_length_le (by rw [HLN.out]; exact Nat.le_refl _)
      have hW := hat.out.wt
      have hal := hat.out.all
      rw [htk] at hW hal
      have hel := encS_len L hal
      have HLN' := HLN.out
      have hlen : (encS L).length ≤ 100000000000000 := by omega
      have HW := Lib.hid hW
      have HAL := Lib.hid hal
      clear hel HLN' htk hW hal
      go_wp2_with fail
      refine (wdone_any _ _ _ _ _ _ HW.out hlen).mono ?_
      rintro e w5 ⟨v5, rfl, hown, hb5⟩
      obtain ⟨A5, n5, c5, rfl⟩ := hown.shape
      go_wp2_with fail
      go_ret2
      have hbs := hat.out.bl.size
      refine ⟨fun _ => ⟨_, rfl, hown.base_ hbs⟩, fun h => ?_, hat.out.bl.trans (hb5.mono hbs)⟩
      have h2 := HAL.out
      rw [h] at h2
      cases h2
end
end Go.Proofs.Ytkahndjflhgccaa
