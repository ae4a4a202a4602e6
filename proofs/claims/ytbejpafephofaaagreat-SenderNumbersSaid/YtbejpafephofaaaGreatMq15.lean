/-
  Ranges in memory; what a frame's value reads as; what may be of a frame's numbers and ranges (frame.greatestLimit, numbers, dataRight, rangesRight).
-/
import Derived.Test.YtbejpafephofaaaGreatAsked
import Derived.IntWalk
import Derived.Deep.RegionHeld
namespace Go.Proofs.YtbejpafephofaaaGreat
section
set_option linter.unusedVariables false
open Go.RowKit
abbrev RS := List (Int × Int)
/-- The slice value with address A and n elements reads as the ranges rs, in a block that P allows. -/
def RgP (w : World) (P : Nat → Prop) (A : Option Addr) (n : Nat) (rs : RS) : Prop :=
  rs.length = n ∧ (∀ r ∈ rs, 0 ≤ r.1 ∧ r.1 < 18446744073709551616 ∧ 0 ≤ r.2 ∧ r.2 < 18446744073709551616) ∧
  (0 < n → ∃ b off, A = some ⟨b, off, none⟩ ∧ b < w.heap.size ∧ P b ∧ ∀ i r, rs[i]? = some r → w.cell? ⟨b, off + i * 2, none⟩ = some (.int .u64 r.1) ∧ w.cell? ⟨b, off + i * 2 + 1, none⟩ = some (.int .u64 r.2))
section
variable {S P P' : Nat → Prop} {w w' : World} {n : Nat} {A : Option Addr} {rs : RS}
theorem RgP.none_ (w : World) (P : Nat → Prop) (A : Option Addr) : RgP w P A 0 [] := ⟨rfl, fun _ h => by simp at h, fun h => absurd h (by omega)⟩
theorem RgP.kept (h : RgP w P A n rs) (k : Kept S w w') (hs : ∀ b, P b → ¬ S b) : RgP w' P A n rs := by
  refine ⟨h.1, h.2.1, fun hn => ?_⟩
  obtain ⟨b, off, e, hb, hp, hc⟩ := h.2.2 hn
  refine ⟨b, off, e, Nat.lt_of_lt_of_le hb k.size, hp, fun i r hr => ?_⟩
  rw [k.cell (p := ⟨b, _, none⟩) hb (hs b hp), k.cell (p := ⟨b, _, none⟩) hb (hs b hp)]
  exact hc i r hr
theorem RgP.mono (h : RgP w P A n rs) (hp : ∀ b, b < w.heap.size → P b → P' b) : RgP w P' A n rs :=
  ⟨h.1, h.2.1, fun hn => by
    obtain ⟨b, off, e, hb, hp', hc⟩ := h.2.2 hn
    exact ⟨b, off, e, hb, hp b hb hp', hc⟩⟩
end
structure InR (w : World) (P : Nat → Prop) (r : Sl) (rs : RS) : Prop where
  rd : RgP w P r.A r.n rs
  lc : r.n ≤ r.c
  cm : r.c ≤ maxLen
  nil : r.A = none → r.c = 0
structure FN.wf (m : FN) : Prop where
  k0 : -9223372036854775808 ≤ m.k
  k1 : m.k ≤ 9223372036854775807
  s0 : 0 ≤ m.s
  s1 : m.s < 18446744073709551616
  o0 : 0 ≤ m.o
  o1 : m.o < 18446744073709551616
  l0 : 0 ≤ m.l
  l1 : m.l < 18446744073709551616
  c0 : 0 ≤ m.c
  c1 : m.c < 18446744073709551616
  f0 : 0 ≤ m.f
  f1 : m.f < 18446744073709551616
  q0 : 0 ≤ m.q
  q1 : m.q < 18446744073709551616
  y0 : 0 ≤ m.y
  y1 : m.y < 18446744073709551616
  cid : Byt [m.c0, m.c1, m.c2, m.c3, m.c4, m.c5, m.c6, m.c7]
/-- A frame's value reads so. -/
structure Fits (w : World) (P : Nat → Prop) (m : FN) (d r : Sl) (ds : List Int) (rs : RS) : Prop where
  wf : m.wf
  dt : InD w P d ds
  rg : InR w P r rs
section
variable {S P P' : Nat → Prop} {w w' : World} {d r : Sl} {ds : List Int} {rs : RS} {m : FN}
theorem InR.kept (h : InR w P r rs) (k : Kept S w w') (hs : ∀ b, P b → ¬ S b) : InR w' P r rs := ⟨h.rd.kept k hs, h.lc, h.cm, h.nil⟩
theorem Fits.kept (h : Fits w P m d r ds rs) (k : Kept S w w') (hs : ∀ b, P b → ¬ S b) : Fits w' P m d r ds rs := ⟨h.wf, h.dt.kept k hs, h.rg.kept k hs⟩
theorem Fits.below (h : Fits w P m d r ds rs) (k : Below w.heap.size w w') : Fits w' P m d r ds rs := h.kept (Kept.of_below k (fun _ => False)) (fun _ _ h => h)
theorem Fits.mono (h : Fits w P m d r ds rs) (hp : ∀ b, b < w.heap.size → P b → P' b) : Fits w P' m d r ds rs := ⟨h.wf, ⟨h.dt.rd.mono hp, h.dt.lc, h.dt.cm, h.dt.nil⟩, ⟨h.rg.rd.mono hp, h.rg.lc, h.rg.cm, h.rg.nil⟩⟩
theorem InR.nil_ (w : World) (P : Nat → Prop) : InR w P .nil [] := ⟨RgP.none_ _ _ _, Nat.le_refl _, by unfold maxLen; exact Nat.zero_le _, fun _ => rfl⟩
theorem wf_zero (k : Int) (h0 : -9223372036854775808 ≤ k) (h1 : k ≤ 9223372036854775807) : (FN.zero k).wf := by
  constructor <;> first | exact h0 | exact h1 | (show (0:Int) ≤ 0; omega) | (show (0:Int) < _; omega) | (intro x hx; simp [FN.zero] at hx; omega)
end
/-- What is asked of a frame's data, of its ranges. -/
def askDs (k : Int) (ds : List Int) : List Int := if k = 6 ∨ k = 8 ∨ k = 28 then ds else []
def askRs (k : Int) (rs : RS) : RS := if k = 2 then rs else []
theorem askN_k (m : FN) : (askN m).k = m.k := by
  unfold askN
  by_cases h2 : m.k = 2
  · simp [h2, FN.zero]
  by_cases h4 : m.k = 4
  · simp [h4, FN.zero]
  by_cases h5 : m.k = 5
  · simp [h5, FN.zero]
  by_cases h6 : m.k = 6
  · simp [h6, FN.zero]
  by_cases h8 : m.k = 8
  · simp [h8, FN.zero]
  by_cases h16 : m.k = 16
  · simp [h16, FN.zero]
  by_cases h18 : m.k = 18
  · simp [h18, FN.zero]
  by_cases h20 : m.k = 20
  · simp [h20, FN.zero]
  by_cases h17 : m.k = 17
  · simp [h17, FN.zero]
  by_cases h24 : m.k = 24
  · simp [h24]
  by_cases h25 : m.k = 25
  · simp [h25, FN.zero]
  by_cases h26 : m.k = 26
  · simp [h26]
  by_cases h27 : m.k = 27
  · simp [h27]
  by_cases h28 : m.k = 28
  · simp [h28, FN.zero]
  simp [h2, h4, h5, h6, h8, h16, h18, h20, h17, h24, h25, h26, h27, h28, FN.zero]
theorem askN_ite {p : FN → Prop} {c : Prop} [Decidable c] {a b : FN} (ha : p a) (hb : p b) : p (if c then a else b) := by split <;> assumption
theorem wf_ask {m : FN} (h : m.wf) : (askN m).wf := by
  obtain ⟨k0, k1, s0, s1, o0, o1, l0, l1, c0, c1, f0, f1, q0, q1, y0, y1, cid⟩ := h
  unfold askN
  repeat' (refine askN_ite ?_ ?_)
  all_goals
    constructor <;> first | assumption | (show (0:Int) ≤ 0; omega) | (show (0:Int) < _; omega) | (show (-9223372036854775808:Int) ≤ _; simp only [FN.zero]; omega) | (simp only [FN.zero]; omega) | (intro x hx; simp [FN.zero] at hx; omega)
theorem Fits.ask {w : World} {P : Nat → Prop} {m : FN} {d r : Sl} {ds : List Int} {rs : RS} (h : Fits w P m d r ds rs) : Fits w P (askN m) (askD m.k d) (askR m.k r) (askDs m.k ds) (askRs m.k rs) := by
  refine ⟨wf_ask h.wf, ?_, ?_⟩
  · unfold askD askDs
    split
    · exact h.dt
    · exact InD.nil_ _ _
  · unfold askR askRs
    split
    · exact h.rg
    · exact InR.nil_ _ _
def glS (m : FN) : Int := if m.k = 16 ∨ m.k = 17 then 1099511627776 else if m.k = 18 then 1048576 else if m.k = 24 then m.q else 4611686018427387903
set_option maxRecDepth 100000 in
theorem gl_any (m : FN) (d r : Sl) (w : World) : Calls Tryz.prog 103 #[frV m d r] w (FrPost (.int .u64 (glS m)) w) := by
  obtain ⟨k, s, o, fin, l, c, f, q, y, c0, c1, c2, c3, c4, c5, c6, c7⟩ := m
  obtain ⟨dA, dn, dc⟩ := d
  obtain ⟨rA, rn, rc⟩ := r
  simp only [frV, frL]
  have hb : Below w.heap.size w (w.alloc (.cells #[.int .i64 k, .int .u64 s, .int .u64 o, .slice dA dn dc, .bool fin, .int .u64 l, .int .u64 c, .int .u64 f, .int .u64 q, .int .u64 y, .slice rA rn rc,
      .int .u8 c0, .int .u8 c1, .int .u8 c2, .int .u8 c3, .int .u8 c4, .int .u8 c5, .int .u8 c6, .int .u8 c7] 51)) := (Below.refl _ _).alloc (Nat.le_refl _) _
  have HB := Lib.hid hb; clear hb
  have hc : k = 16 ∨ k = 17 ∨ k = 18 ∨ k = 24 ∨ ((k == 16) = false ∧ (k == 17) = false ∧ (k == 18) = false ∧ (k == 24) = false) := by
    simp only [beq_eq_false_iff_ne]; omega
  rcases hc with rfl | rfl | rfl | rfl | hk
  · go_enter Tryz.func103, Tryz.ntmps103
    go_wp2
    go_ret
    exact ⟨rfl, HB.out⟩
  · go_enter Tryz.func103, Tryz.ntmps103
    go_wp2
    go_ret
    exact ⟨rfl, HB.out⟩
  · go_enter Tryz.func103, Tryz.ntmps103
    go_wp2
    go_ret
    exact ⟨rfl, HB.out⟩
  · go_enter Tryz.func103, Tryz.ntmps103
    go_wp2
    go_ret
    exact ⟨rfl, HB.out⟩
  · have hg : glS ⟨k, s, o, fin, l, c, f, q, y, c0, c1, c2, c3, c4, c5, c6, c7⟩ = 4611686018427387903 := by
      simp only [beq_eq_false_iff_ne] at hk
      simp [glS, hk]
    have HG := Lib.hid hg; clear hg
    obtain ⟨e1, e2, e3, e4⟩ := hk
    go_enter Tryz.func103, Tryz.ntmps103
    go_wp2
    go_ret
    exact ⟨by rw [HG.out]; rfl, HB.out⟩
set_option maxRecDepth 100000 in
theorem numbers_any (m : FN) (d r : Sl) (w : World) :
    Calls Tryz.prog 102 #[frV m d r] w (FrPost (.agg #[.int .u64 m.s, .int .u64 m.o, .int .u64 m.l, .int .u64 m.c, .int .u64 m.f, .int .u64 m.q, .int .u64 m.y]) w) := by
  obtain ⟨k, s, o, fin, l, c, f, q, y, c0, c1, c2, c3, c4, c5, c6, c7⟩ := m
  obtain ⟨dA, dn, dc⟩ := d
  obtain ⟨rA, rn, rc⟩ := r
  simp only [frV, frL]
  go_enter Tryz.func102, Tryz.ntmps102
  go_wp2
  exact bodyPost_ret (v := .agg #[.int .u64 s, .int .u64 o, .int .u64 l, .int .u64 c, .int .u64 f, .int .u64 q, .int .u64 y]) (by simp [results, Tryz.results102, go_sem]) rfl ⟨rfl, ((Below.refl _ _).alloc (Nat.le_refl _) _).alloc (by simp) _⟩
def drB (m : FN) (n : Nat) : Bool := decide ((n : Int) ≤ (if m.k = 28 then 32 else 512)) && decide ((n : Int) ≤ 1099511627776 - m.o)
set_option maxRecDepth 100000 in
theorem dr_any (m : FN) (d r : Sl) (w : World) (ho0 : 0 ≤ m.o) (ho1 : m.o ≤ 1099511627776) (hn : d.n ≤ d.c) (hc : d.c ≤ maxLen) : Calls Tryz.prog 87 #[frV m d r] w (FrPost (.bool (drB m d.n)) w) := by
  obtain ⟨k, s, o, fin, l, c, f, q, y, c0, c1, c2, c3, c4, c5, c6, c7⟩ := m
  obtain ⟨dA, dn, dc⟩ := d
  obtain ⟨rA, rn, rc⟩ := r
  simp only [frV, frL]
  have hn' : dn ≤ dc := hn
  have hc' : dc ≤ maxLen := hc
  have ho0' : 0 ≤ o := ho0
  have ho1' : o ≤ 1099511627776 := ho1
  clear hn hc ho0 ho1
  unfold maxLen at hc'
  have hb : Below w.heap.size w (w.alloc (.cells #[.int .i64 k, .int .u64 s, .int .u64 o, .slice dA dn dc, .bool fin, .int .u64 l, .int .u64 c, .int .u64 f, .int .u64 q, .int .u64 y, .slice rA rn rc,
      .int .u8 c0, .int .u8 c1, .int .u8 c2, .int .u8 c3, .int .u8 c4, .int .u8 c5, .int .u8 c6, .int .u8 c7] 51)) := (Below.refl _ _).alloc (Nat.le_refl _) _
  have HB := Lib.hid hb; clear hb
  have hc : k = 28 ∨ (k == 28) = false := by simp only [beq_eq_false_iff_ne]; omega
  rcases hc with rfl | hk
  · have HG := Lib.hid (show drB ⟨28, s, o, fin, l, c, f, q, y, c0, c1, c2, c3, c4, c5, c6, c7⟩ dn = (decide ((dn : Int) ≤ 32) && decide ((dn : Int) ≤ 1099511627776 - o)) from rfl)
    go_enter Tryz.func87, Tryz.ntmps87
    go_wp2
    all_goals
      go_ret
      refine ⟨?_, HB.out⟩
      rw [HG.out]
      simp
      first | done | omega
  · have hg : drB ⟨k, s, o, fin, l, c, f, q, y, c0, c1, c2, c3, c4, c5, c6, c7⟩ dn = (decide ((dn : Int) ≤ 512) && decide ((dn : Int) ≤ 1099511627776 - o)) := by
      simp only [beq_eq_false_iff_ne] at hk
      simp [drB, hk]
    have HG := Lib.hid hg; clear hg
    go_enter Tryz.func87, Tryz.ntmps87
    go_wp2
    all_goals
      go_ret
      refine ⟨?_, HB.out⟩
      rw [HG.out]
      simp
      first | done | omega
end
section
set_option linter.unusedVariables false
open Go.RowKit
def stepsOK : Int → RS → Bool
  | _, [] => true
  | p, (a, b) :: t => decide (p < a) && decide (a < b) && stepsOK b t
def lastHi (rs : RS) : Int := (rs.getLast?.getD (0, 0)).2
def rrB (rs : RS) : Bool := decide (1 ≤ rs.length) && decide (rs.length ≤ 16) && stepsOK (-1) rs && decide (lastHi rs ≤ 4611686018427387904)
def prv (rs : RS) (k : Nat) : Int := if k = 0 then -1 else (rs.getD (k - 1) (0, 0)).2
theorem prv_succ (rs : RS) (k : Nat) (r : Int × Int) (h : rs[k]? = some r) : prv rs (k + 1) = r.2 := by
  unfold prv
  rw [if_neg (by omega), Nat.add_sub_cancel, List.getD_eq_getElem?_getD, h]; rfl
theorem steps_drop (rs : RS) (k : Nat) (r : Int × Int) (h : rs[k]? = some r) (p : Int) : stepsOK p (rs.drop k) = (decide (p < r.1) && decide (r.1 < r.2) && stepsOK r.2 (rs.drop (k + 1))) := by
  obtain ⟨hk, e⟩ := List.getElem?_eq_some_iff.1 h
  rw [List.drop_eq_getElem_cons hk, e]
  obtain ⟨a, b⟩ := r
  rfl
theorem lastHi_get (rs : RS) (k : Nat) (hk : rs.length = k + 1) (r : Int × Int) (h : rs[k]? = some r) : lastHi rs = r.2 := by
  unfold lastHi
  rw [List.getLast?_eq_getElem?, hk, Nat.add_sub_cancel, h]; rfl
set_option maxRecDepth 100000 in
set_option maxHeartbeats 4000000 in
theorem rr_any (P : Nat → Prop) (r : Sl) (rs : RS) (w : World) (hr : InR w P r rs) : Calls Tryz.prog 88 #[.slice r.A r.n r.c] w (FrPost (.bool (rrB rs)) w) := by
  obtain ⟨A, n, c⟩ := r
  obtain ⟨hrd, hnc, hcm, hA⟩ := hr
  simp only at hrd hnc hcm hA
  obtain ⟨hlen, hbd, hcell⟩ := hrd
  unfold maxLen at hcm
  have HL := Lib.hid hlen
  by_cases h16 : 1 ≤ n ∧ n ≤ 16
  · obtain ⟨h1, h16⟩ := h16
    obtain ⟨b, off, rfl, hb, _, hc⟩ := hcell (by omega)
    have HC := Lib.hid hc
    have HB := Lib.hid hbd
    have hn0 : ((n : Int) == 0) = false := by simp; omega
    have hfin : stepsOK (-1) rs = true → rrB rs = decide (lastHi rs ≤ 4611686018427387904) := fun h => by unfold rrB; rw [h, hlen]; simp [h1, h16]
    have hbad : stepsOK (-1) rs = false → rrB rs = false := fun h => by unfold rrB; rw [h]; simp
    have HF := Lib.hid hfin
    have HX := Lib.hid hbad
    clear hlen hbd hcell hc hA hfin hbad
    go_enter Tryz.func88, Tryz.ntmps88
    go_wp2
    go_loopw [15] (fun i wr => ∃ k : Nat, k ≤ n ∧ i = .int .i64 k ∧ Below w.heap.size w wr ∧ Hid (stepsOK (-1) rs = stepsOK (prv rs k) (rs.drop k))) (fun i _ => n - (intOf i).toNat)
    case atStart => exact ⟨0, by omega, rfl, Below.refl _ _, Lib.hid (by simp [prv])⟩
    case round =>
      obtain ⟨k, hk, rfl, hbr, hst⟩ := hrel
      have hbs := hbr.size
      by_cases hlt : k < n
      · obtain ⟨x, hx⟩ : ∃ x, rs[k]? = some x := ⟨_, List.getElem?_eq_getElem (by rw [HL.out]; exact hlt)⟩
        obtain ⟨lo, hi⟩ := x
        obtain ⟨ca, cb⟩ := HC.out k (lo, hi) hx
        have ca' : wr.cell? ⟨b, off + k * 2, none⟩ = some (.int .u64 lo) := (hbr.cell (p := ⟨b, _, none⟩) hb).trans ca
        have cb' : wr.cell? ⟨b, off + k * 2 + 1, none⟩ = some (.int .u64 hi) := (hbr.cell (p := ⟨b, _, none⟩) hb).trans cb
        have hbr2 : Below w.heap.size w (wr.alloc (.cells #[.int .u64 lo, .int .u64 hi] 89)) := hbr.alloc hbs _
        have hsd := steps_drop rs k (lo, hi) hx (prv rs k)
        have hpv := prv_succ rs k (lo, hi) hx
        have HS : Hid (stepsOK (-1) rs = (decide (prv rs k < lo) && decide (lo < hi) && stepsOK hi (rs.drop (k + 1)))) := Lib.hid (hst.out.trans hsd)
        have HP := Lib.hid hpv
        have HBR := Lib.hid hbr2
        have hlb := HB.out (lo, hi) (List.mem_of_getElem? hx)
        simp only at hlb
        obtain ⟨l0, l1, l2, l3⟩ := hlb
        clear hsd hpv hst ca cb hbr2
        rcases Int.lt_or_le lo hi with hlh | hlh
        · have hg1 : decide (hi ≤ lo) = false := by simp; omega
          rcases Nat.eq_zero_or_pos k with rfl | hk0
          · have HS2 : Hid (stepsOK (-1) rs = stepsOK hi (rs.drop (0 + 1))) := Lib.hid (by rw [HS.out]; simp [prv, hlh]; omega)
            have ca0 : wr.cell? ⟨b, off, none⟩ = some (.int .u64 lo) := by simpa using ca'
            have cb0 : wr.cell? ⟨b, off + 1, none⟩ = some (.int .u64 hi) := by simpa using cb'
            clear ca' cb' hx
            go_wp2
            go_quiet (fail)
            go_wp2
            go_roundw
            case rel => exact ⟨1, by omega, rfl, belowN HBR.out _, Lib.hid (by rw [HS2.out, HP.out])⟩
            case measure => simp [intOf]; omega
          · obtain ⟨j, rfl⟩ : ∃ j, k = j + 1 := ⟨k - 1, by omega⟩
            obtain ⟨x2, hx2⟩ : ∃ x, rs[j]? = some x := ⟨_, List.getElem?_eq_getElem (by rw [HL.out]; omega)⟩
            obtain ⟨lo2, hi2⟩ := x2
            have cb2 : wr.cell? ⟨b, off + j * 2 + 1, none⟩ = some (.int .u64 hi2) := (hbr.cell (p := ⟨b, _, none⟩) hb).trans (HC.out j (lo2, hi2) hx2).2
            have HP2 := Lib.hid (prv_succ rs j (lo2, hi2) hx2)
            clear hx hx2
            have hj1 : (j : Int) < (n : Int) := by omega
            have hj0 : (0 : Int) ≤ (j : Int) := by omega
            have hjn : j < n := by omega
            have hbw : b < wr.heap.size := by omega
            rcases Int.lt_or_le hi2 lo with hh | hh
            · have hg2 : decide (lo ≤ hi2) = false := by simp; omega
              have HS2 : Hid (stepsOK (-1) rs = stepsOK hi (rs.drop (j + 1 + 1))) := Lib.hid (by rw [HS.out, HP2.out]; simp [hlh, hh])
              have hw : IntKind.i64.wrap (j : Int) = j := IntWalk.i64_in _ (by omega)
              go_wp2
              go_quiet (fail)
              clear hw
              go_wp2
              go_roundw
              case rel => exact ⟨j + 1 + 1, by omega, by go_num, belowN HBR.out _, Lib.hid (by rw [HS2.out, HP.out])⟩
              case measure => simp [intOf]; omega
            · have hg2 : decide (lo ≤ hi2) = true := by simp; omega
              have HS2 : Hid (stepsOK (-1) rs = false) := Lib.hid (by rw [HS.out, HP2.out]; simp; omega)
              have hw : IntKind.i64.wrap (j : Int) = j := IntWalk.i64_in _ (by omega)
              go_wp2
              go_quiet (fail)
              clear hw
              go_wp2
              go_ret
              exact ⟨by rw [HX.out HS2.out]; rfl, belowN HBR.out _⟩
        · have hg1 : decide (hi ≤ lo) = true := by simp; omega
          have HS2 : Hid (stepsOK (-1) rs = false) := Lib.hid (by rw [HS.out]; simp; omega)
          clear hx
          go_wp2
          go_quiet (fail)
          go_wp2
          go_ret
          exact ⟨by rw [HX.out HS2.out]; rfl, belowN HBR.out _⟩
      · obtain rfl : k = n := by omega
        obtain ⟨j, rfl⟩ : ∃ j, k = j + 1 := ⟨k - 1, by omega⟩
        obtain ⟨x, hx⟩ : ∃ x, rs[j]? = some x := ⟨_, List.getElem?_eq_getElem (by rw [HL.out]; omega)⟩
        obtain ⟨lo, hi⟩ := x
        have cb' : wr.cell? ⟨b, off + j * 2 + 1, none⟩ = some (.int .u64 hi) := (hbr.cell (p := ⟨b, _, none⟩) hb).trans (HC.out j (lo, hi) hx).2
        have HT : Hid (stepsOK (-1) rs = true) := Lib.hid (by rw [hst.out, List.drop_eq_nil_of_le (by rw [HL.out]; exact Nat.le_refl _)]; rfl)
        have HR : Hid (rrB rs = decide (hi ≤ 4611686018427387904)) := Lib.hid (by rw [HF.out HT.out, lastHi_get rs j HL.out _ hx])
        have hlb := HB.out (lo, hi) (List.mem_of_getElem? hx)
        simp only at hlb
        obtain ⟨l0, l1, l2, l3⟩ := hlb
        clear hx hst hlt
        go_wp2
        go_ret
        exact ⟨by rw [HR.out]; rfl, hbr⟩
  · have HR : Hid (rrB rs = false) := Lib.hid (by
      unfold rrB
      rw [hlen]
      by_cases h1 : 1 ≤ n
      · have : ¬ n ≤ 16 := by omega
        simp [this]
      · simp [h1])
    have hcs : n = 0 ∨ 16 < n := by omega
    clear hlen hbd hcell hA h16
    rcases hcs with rfl | h
    · go_enter Tryz.func88, Tryz.ntmps88
      go_wp2
      go_ret
      exact ⟨by rw [HR.out]; rfl, Below.refl _ _⟩
    · go_enter Tryz.func88, Tryz.ntmps88
      go_wp2
      go_ret
      exact ⟨by rw [HR.out]; rfl, Below.refl _ _⟩
end
section
set_option linter.unusedVariables false
set_option linter.unusedSimpArgs false
open Go.RowKit
def smB (x : Int) : Bool := decide (x ≤ 4611686018427387903)
def nrB (m : FN) : Bool := smB m.s && smB m.o && smB m.l && smB m.c && smB m.f && smB m.q && smB m.y && decide (m.o ≤ 1099511627776) && decide (m.f ≤ 1099511627776) && decide (m.l ≤ glS m)
/-- The first k of a frame's numbers are small. -/
def okTo (m : FN) (k : Nat) : Prop := (0 < k → m.s ≤ 4611686018427387903) ∧ (1 < k → m.o ≤ 4611686018427387903) ∧ (2 < k → m.l ≤ 4611686018427387903) ∧ (3 < k → m.c ≤ 4611686018427387903) ∧ (4 < k → m.f ≤ 4611686018427387903) ∧ (5 < k → m.q ≤ 4611686018427387903) ∧ (6 < k → m.y ≤ 4611686018427387903)
theorem wpList_ix {P : Program} {ops : Array Oper} {rest : List Oper} {a : Act} {w : World} {Q : Exit → Act → World → Prop} {dst : Option Tmp} {x ix : Operand} {ty t : TypeId} {pos : String} {after : Array Edge} (v : Value)
    (h0 : ∀ W, (Instr.index ty (a.eval x) (a.eval ix)).run P W = .ok v W) (h : wpList P ops Q rest (a.put dst v) w) : wpList P ops Q (⟨dst, .index ty x ix, t, pos, after, none⟩ :: rest) a w := by
  refine wpList_plain rfl fun K hK => ?_
  unfold Oper.wp
  simp [execOp, h0, Result.andThen]
  exact hK _ _ h
theorem ix_at (cs : Array Value) (j : Nat) (x : Value) (hj : j < 7) (hx : cs[j]? = some x) (W : World) :
    (Instr.index 135 (.agg cs) (.int .i64 j)).run Tryz.prog W = .ok x W := by
  have hz : (Tryz.prog.info? 26).map (·.size) = some 1 := by kernel_rfl
  cases hq : Tryz.prog.info? 26 with
  | none => simp [hq] at hz
  | some i =>
    have hs : i.size = 1 := by simpa [hq] using hz
    have h1 : ¬ 7 ≤ j := by omega
    have hu := Tryz.underlying135
    have hu2 := Tryz.underlying26
    simp [Instr.index, asIntOf, run_underlying hu, run_underlying hu2, sizeOf, typeInfo, hq, hs, h1, part, isAgg, hx]
/-- wpAnyH_take with the slot written out. -/
theorem take_dst {P : Program} {md : Region.Mode} {ops : Array Oper} {Q : Exit → Act → World → Prop} {S : World → Prop} {i : Nat} {oi : Oper} {dst : Option Tmp} {v : Value} {fuel : Nat} {listed : Array Bool} {a : Act} {w : World} (hi : ops[i]? = some oi) (hd : oi.dst = dst)
    (hs : Region.noSelect ops = true) (hf : Region.free md ops listed i = true) (hr : (Region.ready md ops listed).contains i = true)
    (hQ : ∀ c a w, Q (.panic c) (a.put dst v) w → Q (.panic c) a w) (hy : YieldsIf P ops S oi v a) (hS : S w)
    (h : wpAnyH P md ops Q S fuel (listed.setIfInBounds i true) (a.put dst v) w) : wpAnyH P md ops Q S (fuel + 1) listed a w := by
  subst hd
  exact wpAnyH_take hi hs hf hr hQ hy hS h
/-- .. with less to write. -/
theorem tkp {P : Program} {md : Region.Mode} {ops : Array Oper} {Q : Exit → Act → World → Prop} {S : World → Prop} (i : Nat) (dst : Option Tmp) {oi : Oper} {v : Value} {fuel : Nat} {listed : Array Bool} {a : Act} {w : World} (hi : ops[i]? = some oi)
    (hy : YieldsIf P ops S oi v a) (hS : S w) (h : wpAnyH P md ops Q S fuel (listed.setIfInBounds i true) (a.put dst v) w)
    (hd : oi.dst = dst := by rfl) (hs : Region.noSelect ops = true := by kernel_rfl) (hf : Region.free md ops listed i = true := by kernel_rfl) (hr : (Region.ready md ops listed).contains i = true := by kernel_rfl)
    (hQ : ∀ c a w, Q (.panic c) (a.put dst v) w → Q (.panic c) a w := by exact fun _ _ _ h => h) : wpAnyH P md ops Q S (fuel + 1) listed a w :=
  take_dst hi hd hs hf hr hQ hy hS h
theorem fr_info : (Tryz.prog.info? 51).map (·.size) = some 19 := by kernel_rfl
theorem yl_fr {ops : Array Oper} {S : World → Prop} {op : Oper} {a : Act} (x : Operand) (ho : op.op = .load 51 x) (b : Nat) (hx : a.eval x = .pointer (some ⟨b, 0, none⟩)) (L : List Value) (hS : ∀ w, S w → w.rangeAt b 0 L) (hl : L.length = 19)
    (hw : Region.wanted op (yielded ops a.tmps) = true) : YieldsIf Tryz.prog ops S op (.agg L.toArray) a :=
  yieldsIf_load_mid hw _ x ho b 0 hx L _ hS Tryz.underlying51 rfl (by rw [hl]; exact fr_info)
theorem nr_S (g : Nat) (k s o l c f q y c0 c1 c2 c3 c4 c5 c6 c7 : Int) (fin : Bool) (dA rA : Option Addr) (dn dc rn rc : Nat) (w' : World)
    (h : At w' g 51 [.int .i64 k, .int .u64 s, .int .u64 o, .slice dA dn dc, .bool fin, .int .u64 l, .int .u64 c, .int .u64 f, .int .u64 q, .int .u64 y, .slice rA rn rc,
      .int .u8 c0, .int .u8 c1, .int .u8 c2, .int .u8 c3, .int .u8 c4, .int .u8 c5, .int .u8 c6, .int .u8 c7]) :
    w'.cell? ⟨g, 2, none⟩ = some (.int .u64 o) ∧ w'.cell? ⟨g, 7, none⟩ = some (.int .u64 f) ∧ w'.cell? ⟨g, 5, none⟩ = some (.int .u64 l) ∧ w'.rangeAt g 0 [.int .i64 k, .int .u64 s, .int .u64 o, .slice dA dn dc, .bool fin, .int .u64 l, .int .u64 c, .int .u64 f, .int .u64 q, .int .u64 y, .slice rA rn rc, .int .u8 c0, .int .u8 c1, .int .u8 c2, .int .u8 c3, .int .u8 c4, .int .u8 c5, .int .u8 c6, .int .u8 c7] :=
  ⟨h.cell 2, h.cell 7, h.cell 5, h.rangeAt⟩
theorem nrB_all (m : FN) (h : okTo m 7) : nrB m = (decide (m.o ≤ 1099511627776) && decide (m.f ≤ 1099511627776) && decide (m.l ≤ glS m)) := by
  obtain ⟨h0, h1, h2, h3, h4, h5, h6⟩ := h
  simp [nrB, smB, h0, h1, h2, h3, h4, h5, h6]
theorem nrB_bad (m : FN) (h : ¬ (m.s ≤ 4611686018427387903 ∧ m.o ≤ 4611686018427387903 ∧ m.l ≤ 4611686018427387903 ∧ m.c ≤ 4611686018427387903 ∧ m.f ≤ 4611686018427387903 ∧ m.q ≤ 4611686018427387903 ∧ m.y ≤ 4611686018427387903)) : nrB m = false := by
  cases hb : nrB m with
  | false => rfl
  | true =>
    refine absurd ?_ h
    simp [nrB, smB] at hb
    obtain ⟨⟨⟨⟨⟨⟨⟨⟨⟨a, b⟩, c⟩, d⟩, e⟩, f⟩, g⟩, _⟩, _⟩, _⟩ := hb
    exact ⟨a, b, c, d, e, f, g⟩
set_option maxRecDepth 100000 in
set_option maxHeartbeats 1000000 in
theorem nr_any (m : FN) (d r : Sl) (w : World) (hwf : m.wf) : Calls Tryz.prog 86 #[frV m d r] w (FrPost (.bool (nrB m)) w) := by
  have hnum := numbers_any m d r
  have hgl := gl_any m d r
  have hall := nrB_all m
  have hbad := nrB_bad m
  obtain ⟨k, s, o, fin, l, c, f, q, y, c0, c1, c2, c3, c4, c5, c6, c7⟩ := m
  obtain ⟨dA, dn, dc⟩ := d
  obtain ⟨rA, rn, rc⟩ := r
  obtain ⟨k0, k1, s0, s1, o0, o1, l0, l1, c0', c1', f0, f1, q0, q1, y0, y1, cid⟩ := hwf
  simp only at k0 k1 s0 s1 o0 o1 l0 l1 c0' c1' f0 f1 q0 q1 y0 y1
  simp only at hbad
  clear cid
  simp only [frV, frL] at hnum hgl ⊢
  have HN := Lib.hid hnum
  have HG := Lib.hid hgl
  have HA := Lib.hid hall
  have HB := Lib.hid hbad
  obtain ⟨L, hL⟩ : ∃ L : List Value, L = [.int .i64 k, .int .u64 s, .int .u64 o, .slice dA dn dc, .bool fin, .int .u64 l, .int .u64 c, .int .u64 f, .int .u64 q, .int .u64 y, .slice rA rn rc,
      .int .u8 c0, .int .u8 c1, .int .u8 c2, .int .u8 c3, .int .u8 c4, .int .u8 c5, .int .u8 c6, .int .u8 c7] := ⟨_, rfl⟩
  have HL := Lib.hid hL
  clear hnum hgl hall hbad
  have hA0 : At (w.alloc (.cells L.toArray 51)) w.heap.size 51 L := At.new w _ L
  have hB0 : Below w.heap.size w (w.alloc (.cells L.toArray 51)) := (Below.refl _ _).alloc (Nat.le_refl _) _
  have hs0 : (w.alloc (.cells L.toArray 51)).heap.size = w.heap.size + 1 := by simp
  subst hL
  have HA0 := Lib.hid hA0
  have HB0 := Lib.hid hB0
  have HS0 := Lib.hid hs0
  clear hA0 hB0 hs0
  go_enter Tryz.func86, Tryz.ntmps86
  go_wp2_with (first | ((with_reducible refine at_ld ?_); refine ld_fr _ _ (by rfl) HA0.out (by rfl) ?_) | fail)
  refine (HN.out _).mono ?_
  rintro e w1 ⟨rfl, hb1⟩
  have hA1 := HA0.out.below hb1 (by rw [HS0.out]; omega)
  have hB1 : Below w.heap.size w w1 := HB0.out.trans (hb1.mono (by rw [HS0.out]; omega))
  have hp1 : w.heap.size < w1.heap.size := hA1.lt
  clear hb1
  have HA1 := Lib.hid hA1
  have HB1 := Lib.hid hB1
  clear hA1 hB1
  go_wp2_with fail
  go_loop [7] (fun i => ∃ j : Nat, j ≤ 7 ∧ i = .int .i64 j ∧ Hid (okTo ⟨k, s, o, fin, l, c, f, q, y, c0, c1, c2, c3, c4, c5, c6, c7⟩ j)) (fun i => 7 - (intOf i).toNat)
  case atStart => exact ⟨0, by omega, rfl, Lib.hid (by unfold okTo; simp)⟩
  case round =>
    obtain ⟨j, hj, rfl, hok⟩ := hrel
    have hjc : j = 0 ∨ j = 1 ∨ j = 2 ∨ j = 3 ∨ j = 4 ∨ j = 5 ∨ j = 6 ∨ j = 7 := by omega
    rcases hjc with rfl | rfl | rfl | rfl | rfl | rfl | rfl | rfl
    --ROUNDS
    · go_wp2_with (refine wpList_ix (ty := 135) _ (fun W => ix_at _ 0 _ (by omega) rfl W) ?_)
      all_goals first
        | (go_ret; exact ⟨by rw [HB.out (by omega)]; rfl, HB1.out⟩)
        | (go_round
           case rel => exact ⟨1, by omega, rfl, Lib.hid (by have h := hok.out; simp [okTo] at h ⊢; omega)⟩
           case measure => simp [intOf])
    · go_wp2_with (refine wpList_ix (ty := 135) _ (fun W => ix_at _ 1 _ (by omega) rfl W) ?_)
      all_goals first
        | (go_ret; exact ⟨by rw [HB.out (by omega)]; rfl, HB1.out⟩)
        | (go_round
           case rel => exact ⟨2, by omega, rfl, Lib.hid (by have h := hok.out; simp [okTo] at h ⊢; omega)⟩
           case measure => simp [intOf])
    · go_wp2_with (refine wpList_ix (ty := 135) _ (fun W => ix_at _ 2 _ (by omega) rfl W) ?_)
      all_goals first
        | (go_ret; exact ⟨by rw [HB.out (by omega)]; rfl, HB1.out⟩)
        | (go_round
           case rel => exact ⟨3, by omega, rfl, Lib.hid (by have h := hok.out; simp [okTo] at h ⊢; omega)⟩
           case measure => simp [intOf])
    · go_wp2_with (refine wpList_ix (ty := 135) _ (fun W => ix_at _ 3 _ (by omega) rfl W) ?_)
      all_goals first
        | (go_ret; exact ⟨by rw [HB.out (by omega)]; rfl, HB1.out⟩)
        | (go_round
           case rel => exact ⟨4, by omega, rfl, Lib.hid (by have h := hok.out; simp [okTo] at h ⊢; omega)⟩
           case measure => simp [intOf])
    · go_wp2_with (refine wpList_ix (ty := 135) _ (fun W => ix_at _ 4 _ (by omega) rfl W) ?_)
      all_goals first
        | (go_ret; exact ⟨by rw [HB.out (by omega)]; rfl, HB1.out⟩)
        | (go_round
           case rel => exact ⟨5, by omega, rfl, Lib.hid (by have h := hok.out; simp [okTo] at h ⊢; omega)⟩
           case measure => simp [intOf])
    · go_wp2_with (refine wpList_ix (ty := 135) _ (fun W => ix_at _ 5 _ (by omega) rfl W) ?_)
      all_goals first
        | (go_ret; exact ⟨by rw [HB.out (by omega)]; rfl, HB1.out⟩)
        | (go_round
           case rel => exact ⟨6, by omega, rfl, Lib.hid (by have h := hok.out; simp [okTo] at h ⊢; omega)⟩
           case measure => simp [intOf])
    · go_wp2_with (refine wpList_ix (ty := 135) _ (fun W => ix_at _ 6 _ (by omega) rfl W) ?_)
      all_goals first
        | (go_ret; exact ⟨by rw [HB.out (by omega)]; rfl, HB1.out⟩)
        | (go_round
           case rel => exact ⟨7, by omega, rfl, Lib.hid (by have h := hok.out; simp [okTo] at h ⊢; omega)⟩
           case measure => simp [intOf])
    · have HE := Lib.hid (HA.out hok.out)
      have e2 := HA1.out.cell 2
      have e7 := HA1.out.cell 7
      have e5 := HA1.out.cell 5
      simp only [List.getElem?_cons_succ, List.getElem?_cons_zero] at e2 e7 e5
      rcases Int.lt_or_le 1099511627776 o with ho | ho
      · have hd : decide (o ≤ 1099511627776) = false := by simp; omega
        have HR : Hid (nrB ⟨k, s, o, fin, l, c, f, q, y, c0, c1, c2, c3, c4, c5, c6, c7⟩ = false) := Lib.hid (by rw [HE.out]; simp; omega)
        go_wp2
        go_quiet (fail)
        go_wp2
        go_ret
        exact ⟨by rw [HR.out]; rfl, belowN HB1.out _⟩
      · have hd : decide (o ≤ 1099511627776) = true := by simp; omega
        rcases Int.lt_or_le 1099511627776 f with hf | hf
        · have hd2 : decide (f ≤ 1099511627776) = false := by simp; omega
          have HR : Hid (nrB ⟨k, s, o, fin, l, c, f, q, y, c0, c1, c2, c3, c4, c5, c6, c7⟩ = false) := Lib.hid (by rw [HE.out]; simp; omega)
          go_wp2
          go_quiet (fail)
          go_wp2
          go_ret
          exact ⟨by rw [HR.out]; rfl, belowN HB1.out _⟩
        · have hd2 : decide (f ≤ 1099511627776) = true := by simp; omega
          have HR : Hid (nrB ⟨k, s, o, fin, l, c, f, q, y, c0, c1, c2, c3, c4, c5, c6, c7⟩ = decide (l ≤ glS ⟨k, s, o, fin, l, c, f, q, y, c0, c1, c2, c3, c4, c5, c6, c7⟩)) := Lib.hid (by rw [HE.out]; simp [ho, hf])
          obtain ⟨G, hG⟩ : ∃ G, glS ⟨k, s, o, fin, l, c, f, q, y, c0, c1, c2, c3, c4, c5, c6, c7⟩ = G := ⟨_, rfl⟩
          rw [hG] at HR HG
          clear hG
          go_wp2
          refine wp_region_held_drew (S := (fun w' => w'.cell? ⟨w.heap.size, 2, none⟩ = some (.int .u64 o) ∧ w'.cell? ⟨w.heap.size, 7, none⟩ = some (.int .u64 f) ∧ w'.cell? ⟨w.heap.size, 5, none⟩ = some (.int .u64 l) ∧ w'.rangeAt w.heap.size 0 [.int .i64 k, .int .u64 s, .int .u64 o, .slice dA dn dc, .bool fin, .int .u64 l, .int .u64 c, .int .u64 f, .int .u64 q, .int .u64 y, .slice rA rn rc, .int .u8 c0, .int .u8 c1, .int .u8 c2, .int .u8 c3, .int .u8 c4, .int .u8 c5, .int .u8 c6, .int .u8 c7])) (by kernel_rfl) (nr_S _ _ _ _ _ _ _ _ _ _ _ _ _ _ _ _ _ _ _ _ _ _ _ _ _ HA1.out.drew) (fun hHeld => ?_)
          refine tkp 0 (some 13) (v := ?_) rfl (Or.inl ⟨by rfl, ?_⟩) (by assumption) ?_
          rotate_left
          · intro w hSw; (try dsimp only at hSw); go_simp; first | done | (with_reducible rfl)
          simp only [Act.put, List.setIfInBounds_toArray, List.set_cons_zero, List.set_cons_succ]
          refine tkp 1 (some 14) (v := ?_) rfl (Or.inl ⟨by rfl, ?_⟩) (by assumption) ?_
          rotate_left
          · intro w hSw; (try dsimp only at hSw); go_simp; first | done | (with_reducible rfl)
          simp only [Act.put, List.setIfInBounds_toArray, List.set_cons_zero, List.set_cons_succ]
          refine tkp 2 (some 15) (v := ?_) rfl (Or.inl ⟨by rfl, ?_⟩) (by assumption) ?_
          rotate_left
          · intro w hSw; (try dsimp only at hSw); go_simp; first | done | (with_reducible rfl)
          simp only [Act.put, List.setIfInBounds_toArray, List.set_cons_zero, List.set_cons_succ]
          refine tkp 3 (some 16) (v := ?_) rfl (Or.inl ⟨by rfl, ?_⟩) (by assumption) ?_
          rotate_left
          · intro w hSw; (try dsimp only at hSw); go_simp; first | done | (with_reducible rfl)
          simp only [Act.put, List.setIfInBounds_toArray, List.set_cons_zero, List.set_cons_succ]
          refine tkp 4 (some 17) (v := ?_) rfl (Or.inl ⟨by rfl, ?_⟩) (by assumption) ?_
          rotate_left
          · intro w hSw; (try dsimp only at hSw); go_simp; first | done | (with_reducible rfl)
          simp only [Act.put, List.setIfInBounds_toArray, List.set_cons_zero, List.set_cons_succ]
          refine tkp 5 (some 18) (v := ?_) rfl (Or.inl ⟨by rfl, ?_⟩) (by assumption) ?_
          rotate_left
          · intro w hSw; (try dsimp only at hSw); go_simp; first | done | (with_reducible rfl)
          simp only [Act.put, List.setIfInBounds_toArray, List.set_cons_zero, List.set_cons_succ]
          refine tkp 6 (some 19) (v := ?_) rfl (Or.inl ⟨by rfl, ?_⟩) (by assumption) ?_
          rotate_left
          · intro w hSw; (try dsimp only at hSw); go_simp; first | done | (with_reducible rfl)
          simp only [Act.put, List.setIfInBounds_toArray, List.set_cons_zero, List.set_cons_succ]
          refine tkp 7 (some 20) (v := ?_) rfl (Or.inl ⟨by rfl, ?_⟩) (by assumption) ?_
          rotate_left
          · intro w hSw; (try dsimp only at hSw); go_simp; first | done | (with_reducible rfl)
          simp only [Act.put, List.setIfInBounds_toArray, List.set_cons_zero, List.set_cons_succ]
          refine tkp 8 (some 21) (v := ?_) rfl (Or.inl ⟨by rfl, ?_⟩) (by assumption) ?_
          rotate_left
          · intro w hSw; (try dsimp only at hSw); go_simp; first | done | (with_reducible rfl)
          simp only [Act.put, List.setIfInBounds_toArray, List.set_cons_zero, List.set_cons_succ]
          refine tkp 9 (some 22) (v := ?_) rfl (Or.inl ⟨by rfl, ?_⟩) (by assumption) ?_
          rotate_left
          · intro w hSw; (try dsimp only at hSw); go_simp; first | done | (with_reducible rfl)
          simp only [Act.put, List.setIfInBounds_toArray, List.set_cons_zero, List.set_cons_succ]
          refine tkp 10 (some 23) (v := ?_) rfl (Or.inl ⟨by rfl, ?_⟩) (by assumption) ?_
          rotate_left
          · intro w hSw; (try dsimp only at hSw); go_simp; first | done | (with_reducible rfl)
          simp only [Act.put, List.setIfInBounds_toArray, List.set_cons_zero, List.set_cons_succ]
          refine take_dst (i := 11) (dst := some 24) rfl rfl (by kernel_rfl) (by kernel_rfl) (by kernel_rfl) (fun _ _ _ h => h) (v := ?_) ?_ (by assumption) ?_
          rotate_left
          · refine yl_fr ?ylx11 ?ylo11 ?ylb11 ?ylp11 ?ylL11 ?ylS11 ?yll11 ?ylw11
            case ylo11 => rfl
            case ylp11 => rfl
            case ylS11 => intro w hSw; (try dsimp only at hSw); go_split_ands; assumption
            case yll11 => rfl
            case ylw11 => rfl
          simp only [Act.put, List.setIfInBounds_toArray, List.set_cons_zero, List.set_cons_succ]
          refine wpAnyH_ready (rs := [12]) (by kernel_rfl) (by simp) ?_
          refine AllReadyH.cons rfl (fun K hK => ?_) AllReadyH.nil
          go_simp
          go_wp2_with ((go_at_call 103; refine (HG.out _).mono ?_; rintro e w2 ⟨rfl, hb2⟩; have hA2 := HA1.out.drew.below hb2 hp1))
          refine hK.out _ _ (nr_S _ _ _ _ _ _ _ _ _ _ _ _ _ _ _ _ _ _ _ _ _ _ _ _ _ hA2) (fun hHeld => ?_)
          clear hK K
          refine tkp 13 (some 26) (v := ?_) rfl (Or.inl ⟨by rfl, ?_⟩) (by assumption) ?_
          rotate_left
          · intro w hSw; (try dsimp only at hSw); go_simp; first | done | (with_reducible rfl)
          simp only [Act.put, List.setIfInBounds_toArray, List.set_cons_zero, List.set_cons_succ]
          refine tkp 14 (some 27) (v := ?_) rfl (Or.inl ⟨by rfl, ?_⟩) (by assumption) ?_
          rotate_left
          · intro w hSw; (try dsimp only at hSw); go_simp; first | done | (with_reducible rfl)
          simp only [Act.put, List.setIfInBounds_toArray, List.set_cons_zero, List.set_cons_succ]
          refine tkp 15 (some 2) (v := ?_) rfl (Or.inl ⟨by rfl, ?_⟩) (by assumption) ?_
          rotate_left
          · intro w hSw; (try dsimp only at hSw); go_simp; first | done | (with_reducible rfl)
          simp only [Act.put, List.setIfInBounds_toArray, List.set_cons_zero, List.set_cons_succ]
          refine wpAnyH_done (by kernel_rfl) ?_ _
          all_goals
            go_wp2
            go_ret
            exact ⟨by rw [HR.out]; rfl, (below_drew HB1.out).trans (Below.mono hb2 (by have := HB1.out.size; show w.heap.size ≤ w1.heap.size; omega))⟩
end
end Go.Proofs.YtbejpafephofaaaGreat
