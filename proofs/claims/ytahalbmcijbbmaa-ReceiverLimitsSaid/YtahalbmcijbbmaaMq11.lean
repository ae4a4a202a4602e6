/-
  Ranges in memory; what a frame's value reads as; what may be of a frame's numbers and ranges (frame.greatestLimit, numbers, dataRight, rangesRight).
-/
import Derived.Test.YtahalbmcijbbmaaAsked
import Derived.IntWalk
namespace Go.Proofs.Ytahalbmcijbbmaa
section
set_option linter.unusedVariables false
open Go.RowKit
abbrev RS := List (Int × Int)
/-- The slice value with address A and n elements reads as the ranges rs, in a block that P allows. -/
def RgP (w : World) (P : Nat → Prop) (A : Option Addr) (n : Nat) (rs : RS) : Prop :=
  rs.length = n ∧ (∀ r ∈ rs, 0 ≤ r.1 ∧ r.1 < 18446744073709551616 ∧ 0 ≤ r.2 ∧ r.2 < 18446744073709551616) ∧
  (0 < n → ∃ b off, A = some ⟨b, off, none⟩ ∧ b < w.heap.size ∧ P b ∧ ∀ i r, rs[i]? = some r → w.cell? ⟨b, off + i * 2, none⟩ = some (.int .u64 r.1) ∧ w.cell? ⟨b, off + i * 2 + 1, none⟩ = some (.int .u64 r.2))
section
variable {S P P' : Nat → Prop} {w w' : World} {n : Nat} {A : Option Addr} {rs : RS}
theorem RgP.none_ (w : World) (P : Nat → Prop) (A : Option Addr) : RgP w P A 0 [] := ⟨rfl, fun _ h => by simp at h, fun h => absurd h (by omega)⟩
theorem RgP.kept (h : RgP w P A n rs) (k : Kept S w w') (hs : ∀ b, P b → ¬ S b) : RgP w' P A n rs := by
  refine ⟨h.1, h.2.1, fun hn => ?_⟩
  obtain ⟨b, off, e, hb, hp, hc⟩ := h.2.2 hn
  refine ⟨b, off, e, Nat.lt_of_lt_of_le hb k.size, hp, fun i r hr => ?_⟩
  rw [k.cell (p := ⟨b, _, none⟩) hb (hs b hp), k.cell (p := ⟨b, _, none⟩) hb (hs b hp)]
  exact hc i r hr
theorem RgP.mono (h : RgP w P A n rs) (hp : ∀ b, b < w.heap.size → P b → P' b) : RgP w P' A n rs :=
  ⟨h.1, h.2.1, fun hn => by
    obtain ⟨b, off, e, hb, hp', hc⟩ := h.2.2 hn
    exact ⟨b, off, e, hb, hp b hb hp', hc⟩⟩
end
structure InR (w : World) (P : Nat → Prop) (r : Sl) (rs : RS) : Prop where
  rd : RgP w P r.A r.n rs
  lc : r.n ≤ r.c
  cm : r.c ≤ maxLen
  nil : r.A = none → r.c = 0
structure FN.wf (m : FN) : Prop where
  k0 : -9223372036854775808 ≤ m.k
  k1 : m.k ≤ 9223372036854775807
  s0 : 0 ≤ m.s
  s1 : m.s < 18446744073709551616
  o0 : 0 ≤ m.o
  o1 : m.o < 18446744073709551616
  l0 : 0 ≤ m.l
  l1 : m.l < 18446744073709551616
  c0 : 0 ≤ m.c
  c1 : m.c < 18446744073709551616
  f0 : 0 ≤ m.f
  f1 : m.f < 18446744073709551616
  q0 : 0 ≤ m.q
  q1 : m.q < 18446744073709551616
  y0 : 0 ≤ m.y
  y1 : m.y < 18446744073709551616
  cid : Byt [m.c0, m.c1, m.c2, m.c3, m.c4, m.c5, m.c6, m.c7]
/-- A frame's value reads so. -/
structure Fits (w : World) (P : Nat → Prop) (m : FN) (d r : Sl) (ds : List Int) (rs : RS) : Prop where
  wf : m.wf
  dt : InD w P d ds
  rg : InR w P r rs
section
variable {S P P' : Nat → Prop} {w w' : World} {d r : Sl} {ds : List Int} {rs : RS} {m : FN}
theorem InR.kept (h : InR w P r rs) (k : Kept S w w') (hs : ∀ b, P b → ¬ S b) : InR w' P r rs := ⟨h.rd.kept k hs, h.lc, h.cm, h.nil⟩
theorem Fits.kept (h : Fits w P m d r ds rs) (k : Kept S w w') (hs : ∀ b, P b → ¬ S b) : Fits w' P m d r ds rs := ⟨h.wf, h.dt.kept k hs, h.rg.kept k hs⟩
theorem Fits.below (h : Fits w P m d r ds rs) (k : Below w.heap.size w w') : Fits w' P m d r ds rs := h.kept (Kept.of_below k (fun _ => False)) (fun _ _ h => h)
theorem Fits.mono (h : Fits w P m d r ds rs) (hp : ∀ b, b < w.heap.size → P b → P' b) : Fits w P' m d r ds rs := ⟨h.wf, ⟨h.dt.rd.mono hp, h.dt.lc, h.dt.cm, h.dt.nil⟩, ⟨h.rg.rd.mono hp, h.rg.lc, h.rg.cm, h.rg.nil⟩⟩
theorem InR.nil_ (w : World) (P : Nat → Prop) : InR w P .nil [] := ⟨RgP.none_ _ _ _, Nat.le_refl _, by unfold maxLen; exact Nat.zero_le _, fun _ => rfl⟩
theorem wf_zero (k : Int) (h0 : -9223372036854775808 ≤ k) (h1 : k ≤ 9223372036854775807) : (FN.zero k).wf := by
  constructor <;> first | exact h0 | exact h1 | (show (0:Int) ≤ 0; omega) | (show (0:Int) < _; omega) | (intro x hx; simp [FN.zero] at hx; omega)
end
/-- What is asked of a frame's data, of its ranges. -/
def askDs (k : Int) (ds : List Int) : List Int := if k = 6 ∨ k = 8 ∨ k = 28 then ds else []
def askRs (k : Int) (rs : RS) : RS := if k = 2 then rs else []
theorem askN_k (m : FN) : (askN m).k = m.k := by
  unfold askN
  by_cases h2 : m.k = 2
  · simp [h2, FN.zero]
  by_cases h4 : m.k = 4
  · simp [h4, FN.zero]
  by_cases h5 : m.k = 5
  · simp [h5, FN.zero]
  by_cases h6 : m.k = 6
  · simp [h6, FN.zero]
  by_cases h8 : m.k = 8
  · simp [h8, FN.zero]
  by_cases h16 : m.k = 16
  · simp [h16, FN.zero]
  by_cases h18 : m.k = 18
  · simp [h18, FN.zero]
  by_cases h20 : m.k = 20
  · simp [h20, FN.zero]
  by_cases h17 : m.k = 17
  · simp [h17, FN.zero]
  by_cases h24 : m.k = 24
  · simp [h24]
  by_cases h25 : m.k = 25
  · simp [h25, FN.zero]
  by_cases h26 : m.k = 26
  · simp [h26]
  by_cases h27 : m.k = 27
  · simp [h27]
  by_cases h28 : m.k = 28
  · simp [h28, FN.zero]
  simp [h2, h4, h5, h6, h8, h16, h18, h20, h17, h24, h25, h26, h27, h28, FN.zero]
theorem askN_ite {p : FN → Prop} {c : Prop} [Decidable c] {a b : FN} (ha : p a) (hb : p b) : p (if c then a else b) := by split <;> assumption
theorem wf_ask {m : FN} (h : m.wf) : (askN m).wf := by
  obtain ⟨k0, k1, s0, s1, o0, o1, l0, l1, c0, c1, f0, f1, q0, q1, y0, y1, cid⟩ := h
  unfold askN
  repeat' (refine askN_ite ?_ ?_)
  all_goals
    constructor <;> first | assumption | (show (0:Int) ≤ 0; omega) | (show (0:Int) < _; omega) | (show (-9223372036854775808:Int) ≤ _; simp only [FN.zero]; omega) | (simp only [FN.zero]; omega) | (intro x hx; simp [FN.zero] at hx; omega)
theorem Fits.ask {w : World} {P : Nat → Prop} {m : FN} {d r : Sl} {ds : List Int} {rs : RS} (h : Fits w P m d r ds rs) : Fits w P (askN m) (askD m.k d) (askR m.k r) (askDs m.k ds) (askRs m.k rs) := by
  refine ⟨wf_ask h.wf, ?_, ?_⟩
  · unfold askD askDs
    split
    · exact h.dt
    · exact InD.nil_ _ _
  · unfold askR askRs
    split
    · exact h.rg
    · exact InR.nil_ _ _
def glS (m : FN) : Int := if m.k = 16 ∨ m.k = 17 then 1099511627776 else if m.k = 18 then 1048576 else if m.k = 24 then m.q else 4611686018427387903
set_option maxRecDepth 100000 in
theorem gl_any (m : FN) (d r : Sl) (w : World) : Calls Try.prog 61 #[frV m d r] w (FrPost (.int .u64 (glS m)) w) := by
  obtain ⟨k, s, o, fin, l, c, f, q, y, c0, c1, c2, c3, c4, c5, c6, c7⟩ := m
  obtain ⟨dA, dn, dc⟩ := d
  obtain ⟨rA, rn, rc⟩ := r
  simp only [frV, frL]
  have hb : Below w.heap.size w (w.alloc (.cells #[.int .i64 k, .int .u64 s, .int .u64 o, .slice dA dn dc, .bool fin, .int .u64 l, .int .u64 c, .int .u64 f, .int .u64 q, .int .u64 y, .slice rA rn rc,
      .int .u8 c0, .int .u8 c1, .int .u8 c2, .int .u8 c3, .int .u8 c4, .int .u8 c5, .int .u8 c6, .int .u8 c7] 46)) := (Below.refl _ _).alloc (Nat.le_refl _) _
  have HB := Lib.hid hb; clear hb
  have hc : k = 16 ∨ k = 17 ∨ k = 18 ∨ k = 24 ∨ ((k == 16) = false ∧ (k == 17) = false ∧ (k == 18) = false ∧ (k == 24) = false) := by
    simp only [beq_eq_false_iff_ne]; omega
  rcases hc with rfl | rfl | rfl | rfl | hk
  · go_enter Try.func61, Try.ntmps61
    go_wp2
    go_ret
    exact ⟨rfl, HB.out⟩
  · go_enter Try.func61, Try.ntmps61
    go_wp2
    go_ret
    exact ⟨rfl, HB.out⟩
  · go_enter Try.func61, Try.ntmps61
    go_wp2
    go_ret
    exact ⟨rfl, HB.out⟩
  · go_enter Try.func61, Try.ntmps61
    go_wp2
    go_ret
    exact ⟨rfl, HB.out⟩
  · have hg : glS ⟨k, s, o, fin, l, c, f, q, y, c0, c1, c2, c3, c4, c5, c6, c7⟩ = 4611686018427387903 := by
      simp only [beq_eq_false_iff_ne] at hk
      simp [glS, hk]
    have HG := Lib.hid hg; clear hg
    obtain ⟨e1, e2, e3, e4⟩ := hk
    go_enter Try.func61, Try.ntmps61
    go_wp2
    go_ret
    exact ⟨by rw [HG.out]; rfl, HB.out⟩
set_option maxRecDepth 100000 in
theorem numbers_any (m : FN) (d r : Sl) (w : World) :
    Calls Try.prog 60 #[frV m d r] w (FrPost (.agg #[.int .u64 m.s, .int .u64 m.o, .int .u64 m.l, .int .u64 m.c, .int .u64 m.f, .int .u64 m.q, .int .u64 m.y]) w) := by
  obtain ⟨k, s, o, fin, l, c, f, q, y, c0, c1, c2, c3, c4, c5, c6, c7⟩ := m
  obtain ⟨dA, dn, dc⟩ := d
  obtain ⟨rA, rn, rc⟩ := r
  simp only [frV, frL]
  go_enter Try.func60, Try.ntmps60
  go_wp2
  exact bodyPost_ret (v := .agg #[.int .u64 s, .int .u64 o, .int .u64 l, .int .u64 c, .int .u64 f, .int .u64 q, .int .u64 y]) (by simp [results, Try.results60, go_sem]) rfl ⟨rfl, ((Below.refl _ _).alloc (Nat.le_refl _) _).alloc (by simp) _⟩
def drB (m : FN) (n : Nat) : Bool := decide ((n : Int) ≤ (if m.k = 28 then 32 else 512)) && decide ((n : Int) ≤ 1099511627776 - m.o)
set_option maxRecDepth 100000 in
theorem dr_any (m : FN) (d r : Sl) (w : World) (ho0 : 0 ≤ m.o) (ho1 : m.o ≤ 1099511627776) (hn : d.n ≤ d.c) (hc : d.c ≤ maxLen) : Calls Try.prog 45 #[frV m d r] w (FrPost (.bool (drB m d.n)) w) := by
  obtain ⟨k, s, o, fin, l, c, f, q, y, c0, c1, c2, c3, c4, c5, c6, c7⟩ := m
  obtain ⟨dA, dn, dc⟩ := d
  obtain ⟨rA, rn, rc⟩ := r
  simp only [frV, frL]
  have hn' : dn ≤ dc := hn
  have hc' : dc ≤ maxLen := hc
  have ho0' : 0 ≤ o := ho0
  have ho1' : o ≤ 1099511627776 := ho1
  clear hn hc ho0 ho1
  unfold maxLen at hc'
  have hb : Below w.heap.size w (w.alloc (.cells #[.int .i64 k, .int .u64 s, .int .u64 o, .slice dA dn dc, .bool fin, .int .u64 l, .int .u64 c, .int .u64 f, .int .u64 q, .int .u64 y, .slice rA rn rc,
      .int .u8 c0, .int .u8 c1, .int .u8 c2, .int .u8 c3, .int .u8 c4, .int .u8 c5, .int .u8 c6, .int .u8 c7] 46)) := (Below.refl _ _).alloc (Nat.le_refl _) _
  have HB := Lib.hid hb; clear hb
  have hc : k = 28 ∨ (k == 28) = false := by simp only [beq_eq_false_iff_ne]; omega
  rcases hc with rfl | hk
  · have HG := Lib.hid (show drB ⟨28, s, o, fin, l, c, f, q, y, c0, c1, c2, c3, c4, c5, c6, c7⟩ dn = (decide ((dn : Int) ≤ 32) && decide ((dn : Int) ≤ 1099511627776 - o)) from rfl)
    go_enter Try.func45, Try.ntmps45
    go_wp2
    all_goals
      go_ret
      refine ⟨?_, HB.out⟩
      rw [HG.out]
      simp
      first | done | omega
  · have hg : drB ⟨k, s, o, fin, l, c, f, q, y, c0, c1, c2, c3, c4, c5, c6, c7⟩ dn = (decide ((dn : Int) ≤ 512) && decide ((dn : Int) ≤ 1099511627776 - o)) := by
      simp only [beq_eq_false_iff_ne] at hk
      simp [drB, hk]
    have HG := Lib.hid hg; clear hg
    go_enter Try.func45, Try.ntmps45
    go_wp2
    all_goals
      go_ret
      refine ⟨?_, HB.out⟩
      rw [HG.out]
      simp
      first | done | omega
end
section
set_option linter.unusedVariables false
open Go.RowKit
def stepsOK : Int → RS → Bool
  | _, [] => true
  | p, (a, b) :: t => decide (p < a) && decide (a < b) && stepsOK b t
def lastHi (rs : RS) : Int := (rs.getLast?.getD (0, 0)).2
def rrB (rs : RS) : Bool := decide (1 ≤ rs.length) && decide (rs.length ≤ 16) && stepsOK (-1) rs && decide (lastHi rs ≤ 4611686018427387904)
def prv (rs : RS) (k : Nat) : Int := if k = 0 then -1 else (rs.getD (k - 1) (0, 0)).2
theorem prv_succ (rs : RS) (k : Nat) (r : Int × Int) (h : rs[k]? = some r) : prv rs (k + 1) = r.2 := by
  unfold prv
  rw [if_neg (by omega), Nat.add_sub_cancel, List.getD_eq_getElem?_getD, h]; rfl
theorem steps_drop (rs : RS) (k : Nat) (r : Int × Int) (h : rs[k]? = some r) (p : Int) : stepsOK p (rs.drop k) = (decide (p < r.1) && decide (r.1 < r.2) && stepsOK r.2 (rs.drop (k + 1))) := by
  obtain ⟨hk, e⟩ := List.getElem?_eq_some_iff.1 h
  rw [List.drop_eq_getElem_cons hk, e]
  obtain ⟨a, b⟩ := r
  rfl
theorem lastHi_get (rs : RS) (k : Nat) (hk : rs.length = k + 1) (r : Int × Int) (h : rs[k]? = some r) : lastHi rs = r.2 := by
  unfold lastHi
  rw [List.getLast?_eq_getElem?, hk, Nat.add_sub_cancel, h]; rfl
set_option maxRecDepth 100000 in
set_option maxHeartbeats 4000000 in
theorem rr_any (P : Nat → Prop) (r : Sl) (rs : RS) (w : World) (hr : InR w P r rs) : Calls Try.prog 46 #[.slice r.A r.n r.c] w (FrPost (.bool (rrB rs)) w) := by
  obtain ⟨A, n, c⟩ := r
  obtain ⟨hrd, hnc, hcm, hA⟩ := hr
  simp only at hrd hnc hcm hA
  obtain ⟨hlen, hbd, hcell⟩ := hrd
  unfold maxLen at hcm
  have HL := Lib.hid hlen
  by_cases h16 : 1 ≤ n ∧ n ≤ 16
  · obtain ⟨h1, h16⟩ := h16
    obtain ⟨b, off, rfl, hb, _, hc⟩ := hcell (by omega)
    have HC := Lib.hid hc
    have HB := Lib.hid hbd
    have hn0 : ((n : Int) == 0) = false := by simp; omega
    have hfin : stepsOK (-1) rs = true → rrB rs = decide (lastHi rs ≤ 4611686018427387904) := fun h => by unfold rrB; rw [h, hlen]; simp [h1, h16]
    have hbad : stepsOK (-1) rs = false → rrB rs = false := fun h => by unfold rrB; rw [h]; simp
    have HF := Lib.hid hfin
    have HX := Lib.hid hbad
    clear hlen hbd hcell hc hA hfin hbad
    go_enter Try.func46, Try.ntmps46
    go_wp2
    go_loopw [15] (fun i wr => ∃ k : Nat, k ≤ n ∧ i = .int .i64 k ∧ Below w.heap.size w wr ∧ Hid (stepsOK (-1) rs = stepsOK (prv rs k) (rs.drop k))) (fun i _ => n - (intOf i).toNat)
    case atStart => exact ⟨0, by omega, rfl, Below.refl _ _, Lib.hid (by simp [prv])⟩
    case round =>
      obtain ⟨k, hk, rfl, hbr, hst⟩ := hrel
      have hbs := hbr.size
      by_cases hlt : k < n
      · obtain ⟨x, hx⟩ : ∃ x, rs[k]? = some x := ⟨_, List.getElem?_eq_getElem (by rw [HL.out]; exact hlt)⟩
        obtain ⟨lo, hi⟩ := x
        obtain ⟨ca, cb⟩ := HC.out k (lo, hi) hx
        have ca' : wr.cell? ⟨b, off + k * 2, none⟩ = some (.int .u64 lo) := (hbr.cell (p := ⟨b, _, none⟩) hb).trans ca
        have cb' : wr.cell? ⟨b, off + k * 2 + 1, none⟩ = some (.int .u64 hi) := (hbr.cell (p := ⟨b, _, none⟩) hb).trans cb
        have hbr2 : Below w.heap.size w (wr.alloc (.cells #[.int .u64 lo, .int .u64 hi] 99)) := hbr.alloc hbs _
        have hsd := steps_drop rs k (lo, hi) hx (prv rs k)
        have hpv := prv_succ rs k (lo, hi) hx
        have HS : Hid (stepsOK (-1) rs = (decide (prv rs k < lo) && decide (lo < hi) && stepsOK hi (rs.drop (k + 1)))) := Lib.hid (hst.out.trans hsd)
        have HP := Lib.hid hpv
        have HBR := Lib.hid hbr2
        have hlb := HB.out (lo, hi) (List.mem_of_getElem? hx)
        simp only at hlb
        obtain ⟨l0, l1, l2, l3⟩ := hlb
        clear hsd hpv hst ca cb hbr2
        rcases Int.lt_or_le lo hi with hlh | hlh
        · have hg1 : decide (hi ≤ lo) = false := by simp; omega
          rcases Nat.eq_zero_or_pos k with rfl | hk0
          · have HS2 : Hid (stepsOK (-1) rs = stepsOK hi (rs.drop (0 + 1))) := Lib.hid (by rw [HS.out]; simp [prv, hlh]; omega)
            have ca0 : wr.cell? ⟨b, off, none⟩ = some (.int .u64 lo) := by simpa using ca'
            have cb0 : wr.cell? ⟨b, off + 1, none⟩ = some (.int .u64 hi) := by simpa using cb'
            clear ca' cb' hx
            go_wp2
            go_quiet (fail)
            go_wp2
            go_roundw
            case rel => exact ⟨1, by omega, rfl, belowN HBR.out _, Lib.hid (by rw [HS2.out, HP.out])⟩
            case measure => simp [intOf]; omega
          · obtain ⟨j, rfl⟩ : ∃ j, k = j + 1 := ⟨k - 1, by omega⟩
            obtain ⟨x2, hx2⟩ : ∃ x, rs[j]? = some x := ⟨_, List.getElem?_eq_getElem (by rw [HL.out]; omega)⟩
            obtain ⟨lo2, hi2⟩ := x2
            have cb2 : wr.cell? ⟨b, off + j * 2 + 1, none⟩ = some (.int .u64 hi2) := (hbr.cell (p := ⟨b, _, none⟩) hb).trans (HC.out j (lo2, hi2) hx2).2
            have HP2 := Lib.hid (prv_succ rs j (lo2, hi2) hx2)
            clear hx hx2
            have hj1 : (j : Int) < (n : Int) := by omega
            have hj0 : (0 : Int) ≤ (j : Int) := by omega
            have hjn : j < n := by omega
            have hbw : b < wr.heap.size := by omega
            rcases Int.lt_or_le hi2 lo with hh | hh
            · have hg2 : decide (lo ≤ hi2) = false := by simp; omega
              have HS2 : Hid (stepsOK (-1) rs = stepsOK hi (rs.drop (j + 1 + 1))) := Lib.hid (by rw [HS.out, HP2.out]; simp [hlh, hh])
              have hw : IntKind.i64.wrap (j : Int) = j := IntWalk.i64_in _ (by omega)
              go_wp2
              go_quiet (fail)
              clear hw
              go_wp2
              go_roundw
              case rel => exact ⟨j + 1 + 1, by omega, by go_num, belowN HBR.out _, Lib.hid (by rw [HS2.out, HP.out])⟩
              case measure => simp [intOf]; omega
            · have hg2 : decide (lo ≤ hi2) = true := by simp; omega
              have HS2 : Hid (stepsOK (-1) rs = false) := Lib.hid (by rw [HS.out, HP2.out]; simp; omega)
              have hw : IntKind.i64.wrap (j : Int) = j := IntWalk.i64_in _ (by omega)
              go_wp2
              go_quiet (fail)
              clear hw
              go_wp2
              go_ret
              exact ⟨by rw [HX.out HS2.out]; rfl, belowN HBR.out _⟩
        · have hg1 : decide (hi ≤ lo) = true := by simp; omega
          have HS2 : Hid (stepsOK (-1) rs = false) := Lib.hid (by rw [HS.out]; simp; omega)
          clear hx
          go_wp2
          go_quiet (fail)
          go_wp2
          go_ret
          exact ⟨by rw [HX.out HS2.out]; rfl, belowN HBR.out _⟩
      · obtain rfl : k = n := by omega
        obtain ⟨j, rfl⟩ : ∃ j, k = j + 1 := ⟨k - 1, by omega⟩
        obtain ⟨x, hx⟩ : ∃ x, rs[j]? = some x := ⟨_, List.getElem?_eq_getElem (by rw [HL.out]; omega)⟩
        obtain ⟨lo, hi⟩ := x
        have cb' : wr.cell? ⟨b, off + j * 2 + 1, none⟩ = some (.int .u64 hi) := (hbr.cell (p := ⟨b, _, none⟩) hb).trans (HC.out j (lo, hi) hx).2
        have HT : Hid (stepsOK (-1) rs = true) := Lib.hid (by rw [hst.out, List.drop_eq_nil_of_le (by rw [HL.out]; exact Nat.le_refl _)]; rfl)
        have HR : Hid (rrB rs = decide (hi ≤ 4611686018427387904)) := Lib.hid (by rw [HF.out HT.out, lastHi_get rs j HL.out _ hx])
        have hlb := HB.out (lo, hi) (List.mem_of_getElem? hx)
        simp only at hlb
        obtain ⟨l0, l1, l2, l3⟩ := hlb
        clear hx hst hlt
        go_wp2
        go_ret
        exact ⟨by rw [HR.out]; rfl, hbr⟩
  · have HR : Hid (rrB rs = false) := Lib.hid (by
      unfold rrB
      rw [hlen]
      by_cases h1 : 1 ≤ n
      · have : ¬ n ≤ 16 := by omega
        simp [this]
      · simp [h1])
    have hcs : n = 0 ∨ 16 < n := by omega
    clear hlen hbd hcell hA h16
    rcases hcs with rfl | h
    · go_enter Try.func46, Try.ntmps46
      go_wp2
      go_ret
      exact ⟨by rw [HR.out]; rfl, Below.refl _ _⟩
    · go_enter Try.func46, Try.ntmps46
      go_wp2
      go_ret
      exact ⟨by rw [HR.out]; rfl, Below.refl _ _⟩
end
end Go.Proofs.Ytahalbmcijbbmaa
