/-
  ReceiverLimits: its walk.
-/
import Derived.Test.YtahalbmcijbbmaaMq18
import Derived.Test.YtahalbmcijbbmaaMq19
import Derived.Test.YtahalbmcijbbmaaMq10
import Derived.Test.YtahalbmcijbbmaaSized
import Derived.StillTailTactics
import Derived.Deep.Cut
namespace Go.Proofs.Ytahalbmcijbbmaa
set_option linter.unusedVariables false
set_option linter.unusedSimpArgs false
open Go.RowKit
theorem rnew_small (id win : Nat) (w : World) : Calls Try.prog 6 #[.int .u64 id, .int .u64 win] w fun e w' => ∃ q, e = .returned (.pointer (some ⟨q, 0, none⟩)) ∧ Below w.heap.size w w' := by
  obtain ⟨m, hm⟩ : ∃ m, m = min win 2048 := ⟨_, rfl⟩
  have hmz : (if (2048 : Int) < (win : Int) then (2048 : Int) else (win : Int)) = (m : Int) := by rw [hm]; split <;> omega
  clear hm
  go_enter Try.func6, Try.ntmps6
  go_wp2
  go_ret
  exact ⟨_, rfl, (Below.refl _ _).alloc (Nat.le_refl _) _⟩
/-- What holds of the receiver behind each round. -/
structure LmI (k : Nat) (X : QS) : Prop where
  id : X.id = 3
  win : X.win = k
  st : X.st ≤ 4
section
variable {k : Nat} {X X' : QS}
theorem LmI.high (h : LmI k X) (ho : X.ok) : highQ X ≤ X.lim := by
  unfold highQ
  rw [if_neg (by have := h.st; omega)]
  exact ho.hl (by have := h.st; omega)
theorem LmI.taken (h : LmI k X) (ho : X.ok) : X.lim ≤ takenQ X + k := by
  unfold takenQ
  rw [if_neg (by have := h.st; omega), ← h.win]
  exact ho.lw
theorem LmI.tb (h : LmI k X) (ho : X.ok) : takenQ X ≤ 1099511628288 := by
  unfold takenQ
  rw [if_neg (by have := h.st; omega)]
  have := ho.b.rh; have := ho.b.hm; omega
theorem settle_le4 (h : X.st ≤ 4) : (settleQ X).st ≤ 4 := by
  rw [settleQ_st]
  split
  · split
    · omega
    · split <;> omega
  · exact h
theorem LmI.on (h : LmI k X) (off : Nat) (bs : List Int) (fin : Bool) : LmI k (onSX X off bs fin) ∧ (onSX X off bs fin).lim = X.lim := by
  unfold onSX
  split
  · obtain ⟨q1, q2, q3, q4, _⟩ := settleQ_b { X with b := addS X.b off bs fin }
    exact ⟨⟨q2.trans h.id, q3.trans h.win, settle_le4 h.st⟩, q4⟩
  · exact ⟨h, rfl⟩
theorem LmI.read (h : LmI k X) (most : Int) : LmI k (readX X most) ∧ (readX X most).lim = X.lim := by
  unfold readX
  split
  · rename_i e; have := h.st; omega
  · split
    · exact ⟨h, rfl⟩
    · refine ⟨⟨h.id, h.win, ?_⟩, rfl⟩
      show (if _ then 4 else X.st) ≤ 4
      split
      · omega
      · exact h.st
theorem LmI.next (h : LmI k X) (ho : X.ok) (room : Int) : LmI k (nextX X (nxK X room)) ∧ X.lim ≤ (nextX X (nxK X room)).lim := by
  have := ho.lw
  unfold nextX
  split
  · exact ⟨⟨h.id, h.win, h.st⟩, Nat.le_refl _⟩
  · split
    · exact ⟨⟨h.id, h.win, h.st⟩, this⟩
    · exact ⟨h, Nat.le_refl _⟩
end
/-- The law's own world: the receiver; the block that names it. -/
structure Lm (w W : World) (p pw q k : Nat) (X : QS) : Prop where
  qo : Qo w W p X (fun b => b = pw)
  at_ : At W pw 31 [.pointer (some ⟨p, 0, none⟩), .pointer (some ⟨q, 0, none⟩), .slice none 0 0]
  i : LmI k X
section
variable {w W W' : World} {p pw q k : Nat} {X X' : QS}
theorem Lm.below (h : Lm w W p pw q k X) (kb : Below W.heap.size W W') : Lm w W' p pw q k X := ⟨h.qo.below kb, h.at_.below kb h.at_.lt, h.i⟩
theorem Lm.drewN (h : Lm w W p pw q k X) (n : Nat) : Lm w (W.drewN n) p pw q k X := h.below (belowN (Below.refl _ _) n)
theorem Lm.c0 (h : Lm w W p pw q k X) : W.cell? ⟨pw, 0, none⟩ = some (.pointer (some ⟨p, 0, none⟩)) := by rw [h.at_.cell]; rfl
theorem Lm.post (h : Lm w W p pw q k X) (hP : QoPost w W p X' (fun b => b = pw) W') (hi : LmI k X') : Lm w W' p pw q k X' := ⟨hP.1, (hP.2.1 pw rfl).trans h.at_, hi⟩
/-- The calls that only tell. -/
structure LmQ (w W : World) (p : Nat) (hi st tk lm : Nat) : Prop where
  hq : ∀ j, Calls Try.prog 8 #[.pointer (some ⟨p, 0, none⟩)] (W.drewN j) fun e w' => e = .returned (.int .u64 hi) ∧ ∃ m, w' = W.drewN m
  sq : ∀ j, Calls Try.prog 9 #[.pointer (some ⟨p, 0, none⟩)] (W.drewN j) fun e w' => e = .returned (.int .i64 st) ∧ ∃ m, w' = W.drewN m
  tq : ∀ j, Calls Try.prog 10 #[.pointer (some ⟨p, 0, none⟩)] (W.drewN j) fun e w' => e = .returned (.int .u64 tk) ∧ ∃ m, w' = W.drewN m
  lq : ∀ j, Calls Try.prog 7 #[.pointer (some ⟨p, 0, none⟩)] (W.drewN j) fun e w' => e = .returned (.int .u64 lm) ∧ ∃ m, w' = W.drewN m
theorem Lm.q_ (h : Lm w W p pw q k X) : LmQ w W p (highQ X) X.st (takenQ X) X.lim :=
  ⟨fun j => Calls.quiet_of_same (qo_high (h.qo.drewN j)), fun j => Calls.quiet_of_same (qo_state (h.qo.drewN j)), fun j => Calls.quiet_of_same (qo_taken (h.qo.drewN j)), fun j => Calls.quiet_of_same (qo_limit (h.qo.drewN j))⟩
/-- What is left of a round behind its call. -/
def LmN (w : World) (p pw q k was : Nat) (W : World) : Prop := ∃ X, Lm w W p pw q k X ∧ was ≤ X.lim
theorem lm_next (h : Lm w W p pw q k X) (room : Int) : Calls Try.prog 14 #[.pointer (some ⟨p, 0, none⟩), .int .i64 room] W fun e w' => ∃ (L : List Value) (b : Bool), e = .returned (.tuple #[.agg L.toArray, .bool b]) ∧ LmN w p pw q k X.lim w' := by
  refine (qo_next h.qo room).mono fun e w' ⟨he, hP⟩ => ?_
  obtain ⟨h1, h2⟩ := h.i.next h.qo.ok room
  exact ⟨_, _, he, _, h.post hP h1, h2⟩
theorem lm_read (h : Lm w W p pw q k X) (most : Int) (hm : I64 most) : Calls Try.prog 15 #[.pointer (some ⟨p, 0, none⟩), .int .i64 most] W fun e w' => ∃ (A : Option Addr) (n c : Nat) (f : Bool) (cd : Nat) (er : Int), e = .returned (.tuple #[.slice A n c, .bool f, .int .u64 cd, .int .i64 er]) ∧ LmN w p pw q k X.lim w' := by
  refine (qo_read h.qo most hm).mono fun e w' ⟨v, he, hv, hP⟩ => ?_
  obtain ⟨A, c, rfl, _, _, _⟩ := hv.open_
  obtain ⟨h1, h2⟩ := h.i.read most
  exact ⟨A, _, c, _, _, _, he, _, h.post hP h1, by omega⟩
/-- .. with a block of a frame beside it. -/
structure LmG (w W : World) (p pw q k : Nat) (X : QS) (gf : Nat) : Prop where
  qo : Qo w W p X (fun b => b = pw ∨ b = gf)
  at_ : At W pw 31 [.pointer (some ⟨p, 0, none⟩), .pointer (some ⟨q, 0, none⟩), .slice none 0 0]
  i : LmI k X
theorem Lm.g (h : Lm w W p pw q k X) (kb : Below W.heap.size W W') {gf : Nat} (hg : W.heap.size ≤ gf ∧ gf < W'.heap.size) : LmG w W' p pw q k X gf :=
  ⟨h.qo.fresh kb fun b hb => hb.imp id fun e => by rw [e]; exact hg, h.at_.below kb h.at_.lt, h.i⟩
theorem lm_on {gf : Nat} (h : LmG w W p pw q k X gf) (off : Nat) (hoff : off ≤ 400) (fin : Bool) (A : Option Addr) (n c : Nat) (bs : List Int) (hr : Rd w w.heap.size A n bs) (hnc : n ≤ c) (hn : n ≤ 40) : Calls Try.prog 13 #[.pointer (some ⟨p, 0, none⟩), frV (m8z 3 off fin) ⟨A, n, c⟩ .nil] W fun e w' => ∃ (er : Int) (X' : QS), e = .returned (.int .i64 er) ∧ Lm w w' p pw q k X' ∧ X'.lim = X.lim ∧ (er = 0 → off + n ≤ X.lim) ∧ (er ≠ 0 → X' = X) ∧ w'.heap[gf]? = W.heap[gf]? := by
  refine (qo_on h.qo (m8z 3 off fin) ⟨A, n, c⟩ .nil bs (m8z_wf (by omega) (by omega)) ((RdP.of_rd (hr.below h.qo.bl) h.qo.bl.size).mono fun b _ hb => .inr hb) hnc (by show n < _; omega)).mono fun e w' ⟨he, hP⟩ => ?_
  have e1 : onE X (m8z 3 off fin) bs.length = onSE X off bs.length fin := by
    unfold onE
    rw [if_pos (by show ((3 : Nat) : Int) = _; rw [h.i.id]), if_pos (show (m8z 3 off fin).k = 8 from rfl)]
    rfl
  have e2 : onX X (m8z 3 off fin) bs = onSX X off bs fin := by
    unfold onX
    rw [if_pos (by show ((3 : Nat) : Int) = _; rw [h.i.id]), if_pos (show (m8z 3 off fin).k = 8 from rfl)]
    rfl
  rw [e1] at he
  rw [e2] at hP
  obtain ⟨h1, h2⟩ := h.i.on off bs fin
  refine ⟨_, _, he, ⟨hP.1.weak fun b hb => .inl hb, (hP.2.1 pw (.inl rfl)).trans h.at_, h1⟩, h2, fun e0 => ?_, fun e0 => by unfold onSX; rw [if_neg (fun h => e0 h.1)], hP.2.1 gf (.inr rfl)⟩
  unfold onSE at e0
  split at e0
  · cases e0
  · have := hr.1; omega
end
set_option maxHeartbeats 40000000 in
set_option maxRecDepth 100000 in
theorem rlimits_law (a0 : Int) (A : Option Addr) (n c : Nat) (L : List AskD) (w : World) (hw0 : (Lit.int .u64 a0).wf = true) (hu : Asks w w.heap.size A n c L) :
    Calls Try.prog 3 #[.int .u64 a0, .slice A n c] w fun e w' => e = .returned (.bool true) ∧ Below w.heap.size w w' := by
  have h3 := bounds_u64 hw0
  obtain ⟨k, hk⟩ : ∃ k : Nat, a0 % 300 = k := ⟨(a0 % 300).toNat, by omega⟩
  have hkm : a0.tmod 300 = (k : Int) := by rw [Int.tmod_eq_emod_of_nonneg (by omega)]; exact hk
  have hk3 : k < 300 := by omega
  have hnc := hu.2.1
  have hcm := hu.2.2.1
  unfold maxLen at hcm
  have HU := Lib.hid hu
  have HN : Hid (Calls Try.prog 5 #[.int .u64 3, .int .u64 k] w fun e w' => ∃ p, e = .returned (.pointer (some ⟨p, 0, none⟩)) ∧ Qo w w' p (qs0 3 k) (fun _ => False)) := Lib.hid (qo_new 3 k (by decide) (by omega) w)
  have HR : Hid (∀ W, Calls Try.prog 6 #[.int .u64 3, .int .u64 k] W fun e w' => ∃ q, e = .returned (.pointer (some ⟨q, 0, none⟩)) ∧ Below W.heap.size W w') := Lib.hid (fun W => rnew_small 3 k W)
  have HK := Lib.hid (fun W => known17_any W)
  have HW0 : Hid (∀ w1 w2 p q, Qo w w1 p (qs0 3 k) (fun _ => False) → Below w1.heap.size w1 w2 → ∃ W3, w2.alloc (.cells #[.pointer (some ⟨p, 0, none⟩), .pointer (some ⟨q, 0, none⟩), .slice none 0 0] 31) = W3 ∧ Lm w W3 p w2.heap.size q k (qs0 3 k)) := Lib.hid (fun w1 w2 p q hq hb => by
    have h2 := hq.below hb
    have hs : (w2.alloc (.cells #[.pointer (some ⟨p, 0, none⟩), .pointer (some ⟨q, 0, none⟩), .slice none 0 0] 31)).heap.size = w2.heap.size + 1 := by simp
    refine ⟨_, rfl, h2.fresh ((Below.refl _ _).alloc (Nat.le_refl _) _) fun b hb => .inr ⟨by omega, by omega⟩, At.new w2 _ _, rfl, ?_, by show 1 ≤ 4; omega⟩
    show min k 2048 = k
    omega)
  have hql : (qs0 3 k).lim = k := by show min k 2048 = k; omega
  clear h3 hk hw0 hu
  go_enter Try.func3, Try.ntmps3
  go_wp2_with (first
    | (go_at_call 5; (with_reducible refine HN.out.mono ?_); rintro e w1 ⟨p, rfl, hq1⟩; have HQ1 := Lib.hid hq1; clear hq1)
    | (go_at_call 6; (with_reducible refine (HR.out _).mono ?_); rintro e w2 ⟨q, rfl, hb2⟩; obtain ⟨W3, hW3, hL3⟩ := HW0.out w1 w2 p q HQ1.out hb2; obtain ⟨pw, hpw⟩ : ∃ g, w2.heap.size = g := ⟨_, rfl⟩; rw [hpw] at hL3; have HL3 := Lib.hid hL3; have z0 := hL3.c0; have HLI : Hid (Calls Try.prog 7 #[.pointer (some ⟨p, 0, none⟩)] W3 fun e w' => e = .returned (.int .u64 k) ∧ w' = W3) := Lib.hid (by rw [← hql]; exact qo_limit hL3.qo); clear hb2 hL3)
    | (go_at_call 7; (with_reducible refine HLI.out.mono ?_); rintro e w4 ⟨rfl, hw4⟩; rw [hw4]; clear hw4))
  (try rw [hpw])
  (try rw [hW3])
  go_wp2_with (first
    | (go_at_call 7; (with_reducible refine HLI.out.mono ?_); rintro e w4 ⟨rfl, hw4⟩; rw [hw4]; clear hw4) | fail)
  go_loopg [7, 8] 60 (fun kx s7 s8 wr => ∃ (i lm : Nat), s8 = .int .i64 i ∧ s7 = .int .u64 lm ∧ i ≤ n ∧ i ≤ 60 ∧ 60 - i ≤ kx ∧ Hid (∃ X, Lm w wr p pw q k X ∧ X.lim = lm))
  case atStart => exact ⟨0, k, rfl, rfl, by omega, by omega, by omega, Lib.hid ⟨_, HL3.out, hql⟩⟩
  case round =>
    clear HL3 HN HR HW0 HLI HQ1 z0 hW3 hpw hql
    obtain ⟨i, lm, rfl, rfl, hin, hi60, hkx, hQ⟩ := hrel
    by_cases hgo : i < n ∧ i < 60
    · obtain ⟨X, hX, hlm⟩ := hQ.out
      have hok := hX.qo.ok
      have hhl := hX.i.high hok
      have htl := hX.i.taken hok
      rw [hlm] at hhl htl
      have HLQ := Lib.hid hX.q_
      rw [hlm] at HLQ
      have HX := Lib.hid hX
      have HLM := Lib.hid hlm
      have hlb : lm ≤ 1099511640000 := by have := hX.i.tb hok; omega
      obtain ⟨hi, hhi⟩ : ∃ hi, highQ X = hi := ⟨_, rfl⟩
      obtain ⟨st, hst⟩ : ∃ hi, X.st = hi := ⟨_, rfl⟩
      obtain ⟨tk, htk⟩ : ∃ hi, takenQ X = hi := ⟨_, rfl⟩
      rw [hhi, hst, htk] at HLQ
      rw [hhi] at hhl
      rw [htk] at htl
      have HHI := Lib.hid hhi
      have HST := Lib.hid hst
      have HTK := Lib.hid htk
      obtain ⟨g1, g2⟩ := hgo
      obtain ⟨d, hd⟩ : ∃ d, L[i]? = some d := ⟨_, List.getElem?_eq_getElem (by rw [HU.out.1]; exact g1)⟩
      obtain ⟨b, off, rfl, hb, hc⟩ := HU.out.2.2.2.2 (by omega)
      have HASK : Hid (∀ W, Below w.heap.size w W → AskAt W w.heap.size b (off + i * 15) d) := Lib.hid (fun W hW => (hc i d hd).below hW hb)
      have hwf := (hc i d hd).wf
      have hrd0 := (hc i d hd).rd
      obtain ⟨dk, doff, dmost, dii, dn, dfin, dA, dm, dc, dbs, T⟩ := d
      have HL15 := Lib.hid hwf.len
      have HO15 := Lib.hid hwf.one
      obtain ⟨wk, woff, wmost, wii, wn, wlc, wcm, wnil, wtl, wt1⟩ := hwf
      simp only at wk woff wmost wii wn wlc wcm wnil hrd0
      have HRD := Lib.hid hrd0
      have HW : Hid (∀ W g, At W g 39 (AskD.l ⟨dk, doff, dmost, dii, dn, dfin, dA, dm, dc, dbs, T⟩) → W.cell? ⟨g, 0, none⟩ = some (.int .i64 dk) ∧ W.cell? ⟨g, 1, none⟩ = some (.int .i64 doff) ∧ W.cell? ⟨g, 2, none⟩ = some (.int .i64 dmost) ∧ W.cell? ⟨g, 5, none⟩ = some (.bool dfin) ∧ W.cell? ⟨g, 6, none⟩ = some (.slice dA dm dc)) := Lib.hid (fun W g h => ⟨by rw [h.cell]; rfl, by rw [h.cell]; rfl, by rw [h.cell]; rfl, by rw [h.cell]; rfl, by rw [h.cell]; rfl⟩)
      have HAT : Hid (∀ W, Below w.heap.size w W → W.rangeAt b (off + i * 15) (AskD.l ⟨dk, doff, dmost, dii, dn, dfin, dA, dm, dc, dbs, T⟩)) := Lib.hid (fun W hW => (HASK.out W hW).at_)
      obtain ⟨LA, hLA⟩ : ∃ LA, AskD.l ⟨dk, doff, dmost, dii, dn, dfin, dA, dm, dc, dbs, T⟩ = LA := ⟨_, rfl⟩
      rw [hLA] at HAT HL15 HO15 HW
      have z0 := hX.c0
      have hiz : (i : Int) < (n : Int) := by omega
      have hiz2 : (i : Int) < 60 := by omega
      have hi1 : i + 1 ≤ n := by omega
      have hi2 : i + 1 ≤ 60 := by omega
      have hwmost : I64 dmost := wmost
      have HWM := Lib.hid hwmost
      clear hLA hd hc hb hrd0 wtl wt1 hX hok hlm hhi hst htk hQ HASK g1 g2 hwmost wii
      go_wp2_with fail
      go_quiet ((first
        | (go_at_call 8; (with_reducible exact HLQ.out.hq _))
        | (go_at_call 9; (with_reducible exact HLQ.out.sq _))
        | (go_at_call 10; (with_reducible exact HLQ.out.tq _))))
      have hX3 := HX.out.drewN nq
      obtain ⟨W3, hW3⟩ : ∃ W, World.drewN wr nq = W := ⟨_, rfl⟩
      rw [hW3] at hX3 ⊢
      clear hW3
      have HX3 := Lib.hid hX3
      have HAT3 := Lib.hid (HAT.out W3 hX3.qo.bl)
      clear hX3 HAT z0
      go_upto_region 11 with (first
        | ((with_reducible refine at_lda ?_); refine ld_ask b (off + i * 15) LA (by rfl) HAT3.out HL15.out ?_)
        | ((with_reducible refine at_sta ?_); refine st_ask _ _ LA (by rfl) _ (by rfl) (by simp) (by rfl) (by rfl) HL15.out HO15.out ?_)
        | fail)
      have hA6 := At.new W3 39 LA
      have hB6 : Below W3.heap.size W3 (W3.alloc (.cells LA.toArray 39)) := (Below.refl _ _).alloc (Nat.le_refl _) _
      have hX6 := HX3.out.below hB6
      obtain ⟨e0, e1, e2, e5, e6⟩ := HW.out _ _ hA6
      have hlt6 := hA6.lt
      have hnpw : pw ≠ W3.heap.size := by have := HX3.out.at_.lt; omega
      generalize W3.alloc (.cells LA.toArray 39) = W6 at hA6 hX6 e0 e1 e2 e5 e6 hB6 hlt6 ⊢
      generalize W3.heap.size = ga at hA6 e0 e1 e2 e5 e6 hB6 hlt6 hnpw ⊢
      have HX6 := Lib.hid hX6
      have HA6 := Lib.hid hA6
      have z6 := hX6.c0
      clear hX6 hA6 hB6 HX3 HAT3 HL15 HO15 HX
      have HEND : Hid (∀ W, LmN w p pw q k lm W → ∃ X2 hi2 st2 tk2, LmQ w W p hi2 st2 tk2 X2.lim ∧ lm ≤ X2.lim ∧ X2.lim ≤ tk2 + k ∧ hi2 ≤ X2.lim ∧ tk2 ≤ 1099511628288 ∧ W.cell? ⟨pw, 0, none⟩ = some (.pointer (some ⟨p, 0, none⟩)) ∧ Lm w W p pw q k X2) := Lib.hid (fun W ⟨X2, h2, hl2⟩ => ⟨X2, _, _, _, h2.q_, hl2, h2.i.taken h2.qo.ok, h2.i.high h2.qo.ok, h2.i.tb h2.qo.ok, h2.c0, h2⟩)
      have hkc : dk ≤ 2 ∨ (¬ dk ≤ 2 ∧ (dk == 7) = true) ∨ (¬ dk ≤ 2 ∧ (dk == 7) = false) := by
        by_cases h1 : dk ≤ 2
        · exact .inl h1
        · cases h2 : (dk == 7)
          · exact .inr (.inr ⟨h1, rfl⟩)
          · exact .inr (.inl ⟨h1, rfl⟩)
      rcases hkc with hk1 | ⟨hk1, hk2⟩ | ⟨hk1, hk2⟩
      · have hk1z : dk ≤ 2 := hk1
        obtain ⟨o1, ho1⟩ : ∃ o1 : Nat, withinS doff 0 400 = o1 := ⟨(withinS doff 0 400).toNat, by have := withinS_bd doff 0 400 (by omega); omega⟩
        have ho4 : o1 ≤ 400 := by have := withinS_bd doff 0 400 (by omega); omega
        have HWI : Hid (∀ W, Calls Try.prog 11 #[.int .i64 doff, .int .i64 0, .int .i64 400] W fun e w' => e = .returned (.int .i64 o1) ∧ W = w') := Lib.hid (fun W => by rw [← ho1]; exact within_any doff 0 400 W (by have := woff.1; omega) (by have := woff.2; omega) (by omega) (by omega) (by omega))
        obtain ⟨nd, hnd⟩ : ∃ nd, nd = min dm 40 := ⟨_, rfl⟩
        have hnd2 : nd ≤ 40 := by omega
        have hndc : nd ≤ dc := by omega
        have HCU : Hid (∀ W, Calls Try.prog 12 #[.slice dA dm dc, .int .i64 40] W fun e w' => e = .returned (.slice dA nd dc) ∧ W = w') := Lib.hid (fun W => by
          have := cut_any dA dm dc 40 W wlc wcm (by omega) (fun hlt => by rintro rfl; have := wnil rfl; omega)
          rw [← hnd] at this
          exact this)
        have hrD : Rd w w.heap.size dA nd (dbs.take nd) := HRD.out.cutTo (by omega)
        have HRDD := Lib.hid hrD
        have hwo : IntKind.u64.wrap (o1 : Int) = (o1 : Int) := by rw [IntKind.wrap_u64]; omega
        obtain ⟨LF, hLF⟩ : ∃ LF, frL (m8z 3 o1 dfin) ⟨dA, nd, dc⟩ .nil = LF := ⟨_, rfl⟩
        have HLF := Lib.hid hLF
        have HFl : Hid (LF.length = 19) := Lib.hid (by rw [← hLF]; rfl)
        have HFo : Hid (LF.all (·.oneCell') = true) := Lib.hid (by rw [← hLF]; rfl)
        have hfv : frV (m8z 3 o1 dfin) ⟨dA, nd, dc⟩ .nil = .agg LF.toArray := by rw [← hLF]; rfl
        have HON : Hid (∀ W X gf, LmG w W p pw q k X gf → Calls Try.prog 13 #[.pointer (some ⟨p, 0, none⟩), .agg LF.toArray] W fun e w' => ∃ (er : Int) (X' : QS), e = .returned (.int .i64 er) ∧ Lm w w' p pw q k X' ∧ X'.lim = X.lim ∧ (er = 0 → o1 + nd ≤ X.lim) ∧ (er ≠ 0 → X' = X) ∧ w'.heap[gf]? = W.heap[gf]?) := Lib.hid (fun W X gf h => by rw [← hfv]; exact lm_on h o1 ho4 dfin dA nd dc _ HRDD.out hndc hnd2)
        have HFC : Hid (∀ W g, At W g 46 LF → W.cell? ⟨g, 2, none⟩ = some (.int .u64 o1) ∧ W.cell? ⟨g, 3, none⟩ = some (.slice dA nd dc)) := Lib.hid (fun W g h => ⟨by rw [h.cell, ← HLF.out]; rfl, by rw [h.cell, ← HLF.out]; rfl⟩)
        obtain ⟨Y, hY⟩ : ∃ Y, W6.drew = Y := ⟨_, rfl⟩
        have hXY := HX6.out.drewN 1
        change Lm w W6.drew p pw q k X at hXY
        rw [hY] at hXY
        have HXY := Lib.hid hXY
        have y1 : Y.cell? ⟨ga, 1, none⟩ = some (.int .i64 doff) := by rw [← hY]; exact e1
        have y5 : Y.cell? ⟨ga, 5, none⟩ = some (.bool dfin) := by rw [← hY]; exact e5
        have y6 : Y.cell? ⟨ga, 6, none⟩ = some (.slice dA dm dc) := by rw [← hY]; exact e6
        have hltY : ga < Y.heap.size := by rw [← hY]; exact hlt6
        have HYS : Hid (∀ W, Below Y.heap.size Y W → W.cell? ⟨ga, 1, none⟩ = some (.int .i64 doff) ∧ W.cell? ⟨ga, 5, none⟩ = some (.bool dfin) ∧ W.cell? ⟨ga, 6, none⟩ = some (.slice dA dm dc)) := Lib.hid (fun W k => ⟨(k.cell (p := ⟨ga, _, none⟩) hltY).trans y1, (k.cell (p := ⟨ga, _, none⟩) hltY).trans y5, (k.cell (p := ⟨ga, _, none⟩) hltY).trans y6⟩)
        have HAZ : Hid (At (Y.alloc (.cells #[.int .i64 0, .int .u64 0, .int .u64 0, .slice none 0 0, .bool false, .int .u64 0, .int .u64 0, .int .u64 0, .int .u64 0, .int .u64 0, .slice none 0 0, .int .u8 0, .int .u8 0, .int .u8 0, .int .u8 0, .int .u8 0, .int .u8 0, .int .u8 0, .int .u8 0] 46)) Y.heap.size 46 (frL (FN.zero 0) .nil .nil)) := Lib.hid (At.new Y _ (frL (FN.zero 0) .nil .nil))
        have HYB : Hid (Below Y.heap.size Y (Y.alloc (.cells #[.int .i64 0, .int .u64 0, .int .u64 0, .slice none 0 0, .bool false, .int .u64 0, .int .u64 0, .int .u64 0, .int .u64 0, .int .u64 0, .slice none 0 0, .int .u8 0, .int .u8 0, .int .u8 0, .int .u8 0, .int .u8 0, .int .u8 0, .int .u8 0, .int .u8 0] 46))) := Lib.hid ((Below.refl _ _).alloc (Nat.le_refl _) _)
        have HYK : Hid (∀ w8, Kept (· = Y.heap.size) (Y.alloc (.cells #[.int .i64 0, .int .u64 0, .int .u64 0, .slice none 0 0, .bool false, .int .u64 0, .int .u64 0, .int .u64 0, .int .u64 0, .int .u64 0, .slice none 0 0, .int .u8 0, .int .u8 0, .int .u8 0, .int .u8 0, .int .u8 0, .int .u8 0, .int .u8 0, .int .u8 0] 46)) w8 → Below Y.heap.size Y w8) := Lib.hid (fun w8 k => k.below HYB.out HYB.out.size fun j hj => by omega)
        have HYR : Hid (Below Y.heap.size Y Y) := Lib.hid (Below.refl _ _)
        clear e1 e2 e5 e6 z6 hLF hfv hnd ho1 hrD hXY hlt6 y1 y5 y6
        go_wp2_with fail
        clear e0
        refine wp_region_held_drew (S := (fun W => W.cell? ⟨ga, 1, none⟩ = some (.int .i64 doff) ∧ W.cell? ⟨ga, 5, none⟩ = some (.bool dfin) ∧ W.cell? ⟨ga, 6, none⟩ = some (.slice dA dm dc))) (by kernel_rfl) (by rw [hY]; exact HYS.out _ HYR.out) (fun hHeld => ?_)
        rw [hY] at hHeld ⊢
        clear hY
        refine tkq 0 (some 65) (v := ?_) rfl (Or.inl ⟨by rfl, ?_⟩) (by assumption) ?_
        rotate_left
        · intro w hSw; (try dsimp only at hSw); go_simp; first | done | (with_reducible rfl)
        simp only [Act.put, List.setIfInBounds_toArray, List.set_cons_zero, List.set_cons_succ]
        refine tkq 1 (some 66) (v := ?_) rfl (Or.inl ⟨by rfl, ?_⟩) (by assumption) ?_
        rotate_left
        · intro w hSw; (try dsimp only at hSw); go_simp; first | done | (with_reducible rfl)
        simp only [Act.put, List.setIfInBounds_toArray, List.set_cons_zero, List.set_cons_succ]
        refine tkq 4 (some 69) (v := ?_) rfl (Or.inl ⟨by rfl, ?_⟩) (by assumption) ?_
        rotate_left
        · intro w hSw; (try dsimp only at hSw); go_simp; first | done | (with_reducible rfl)
        simp only [Act.put, List.setIfInBounds_toArray, List.set_cons_zero, List.set_cons_succ]
        refine tkq 5 (some 70) (v := ?_) rfl (Or.inl ⟨by rfl, ?_⟩) (by assumption) ?_
        rotate_left
        · intro w hSw; (try dsimp only at hSw); go_simp; first | done | (with_reducible rfl)
        simp only [Act.put, List.setIfInBounds_toArray, List.set_cons_zero, List.set_cons_succ]
        refine tkq 7 (some 72) (v := ?_) rfl (Or.inl ⟨by rfl, ?_⟩) (by assumption) ?_
        rotate_left
        · intro w hSw; (try dsimp only at hSw); go_simp; first | done | (with_reducible rfl)
        simp only [Act.put, List.setIfInBounds_toArray, List.set_cons_zero, List.set_cons_succ]
        refine tkq 8 (some 73) (v := ?_) rfl (Or.inl ⟨by rfl, ?_⟩) (by assumption) ?_
        rotate_left
        · intro w hSw; (try dsimp only at hSw); go_simp; first | done | (with_reducible rfl)
        simp only [Act.put, List.setIfInBounds_toArray, List.set_cons_zero, List.set_cons_succ]
        refine wpAnyH_ready (rs := [2, 10]) (by kernel_rfl) (by simp) ?_
        refine AllReadyH.cons rfl (fun K hK => ?_) (AllReadyH.cons rfl (fun K hK => ?_) (AllReadyH.nil))
        · go_simp
          go_wp2_with (go_at_call 11; (with_reducible refine (HWI.out _).mono ?_); rintro e wz ⟨rfl, hwz⟩; rw [← hwz]; clear hwz)
          refine hK.out _ _ (HYS.out _ HYR.out) (fun hHeld => ?_)
          clear hK K
          refine tkq 3 (some 68) (v := ?_) rfl (Or.inl ⟨by rfl, ?_⟩) (by assumption) ?_
          rotate_left
          · intro w hSw; (try dsimp only at hSw); go_simp; first | done | (with_reducible rfl)
          simp only [Act.put, List.setIfInBounds_toArray, List.set_cons_zero, List.set_cons_succ]
          refine wpAnyH_ready (rs := [6, 10]) (by kernel_rfl) (by simp) ?_
          refine AllReadyH.cons rfl (fun K hK => ?_) (AllReadyH.cons rfl (fun K hK => ?_) (AllReadyH.nil))
          · go_simp
            go_wp2_with (go_at_call 12; (with_reducible refine (HCU.out _).mono ?_); rintro e wz ⟨rfl, hwz⟩; rw [← hwz]; clear hwz)
            refine hK.out _ _ (HYS.out _ HYR.out) (fun hHeld => ?_)
            clear hK K
            refine tkq 9 (some 74) (v := ?_) rfl (Or.inl ⟨by rfl, ?_⟩) (by assumption) ?_
            rotate_left
            · intro w hSw; (try dsimp only at hSw); go_simp; first | done | (with_reducible rfl)
            simp only [Act.put, List.setIfInBounds_toArray, List.set_cons_zero, List.set_cons_succ]
            refine wpAnyH_ready (rs := [10]) (by kernel_rfl) (by simp) ?_
            refine AllReadyH.cons rfl (fun K hK => ?_) AllReadyH.nil
            go_simp
            go_wp2_with (fail)
            refine hK.out _ _ (HYS.out _ HYB.out) (fun hHeld => ?_)
            clear hK K
            refine wpAnyH_ready (rs := [11]) (by kernel_rfl) (by simp) ?_
            refine AllReadyH.cons rfl (fun K hK => ?_) AllReadyH.nil
            refine step_st_any (by rfl) (Y.heap.size) 46 (frL (FN.zero 0) .nil .nil) LF (by rfl) (by rw [← HLF.out]; rfl) HAZ.out (by rw [HFl.out]; rfl) (by rw [HFl.out]; kernel_rfl) HFo.out ?_
            intro w8 hAn hkn
            refine hK.out _ _ (HYS.out _ (HYK.out w8 hkn)) (fun hHeld => ?_)
            clear hK K
            refine wpAnyH_done (by kernel_rfl) ?_ _
            have hB8 := HYK.out w8 hkn
            have hX8 := HXY.out.below hB8
            have HX8 := Lib.hid hX8
            have HA8 := Lib.hid hAn
            have z8 := hX8.c0
            obtain ⟨gf, hgf⟩ : ∃ g, Y.heap.size = g := ⟨_, rfl⟩
            have HGF := Lib.hid hgf
            rw [hgf] at HA8 ⊢
            have hlt8 := HA8.out.lt
            have hnf : pw ≠ gf := by have := HXY.out.at_.lt; omega
            clear hAn hkn HYS HAZ HYB HYK HYR HWI HCU hX8 hgf
            go_wp2_with fail
            obtain ⟨Y8, hY8⟩ : ∃ Y, w8.drew = Y := ⟨_, rfl⟩
            have hX9 := HX8.out.drewN 1
            change Lm w w8.drew p pw q k X at hX9
            rw [hY8] at hX9
            have hA9 := HA8.out.drewN 1
            change At w8.drew gf _ LF at hA9
            rw [hY8] at hA9
            have hG9 : LmG w Y8 p pw q k X gf := by rw [← hY8, ← HGF.out]; exact HXY.out.g (W' := w8.drew) hB8.drew ⟨Nat.le_refl _, by rw [HGF.out]; exact hlt8⟩
            have HC := Lib.hid (HON.out _ _ gf hG9)
            rw [HLM.out] at HC
            have HR9 : Hid (Y8.rangeAt gf 0 LF) := Lib.hid (fun j v hv => by rw [Nat.zero_add, hA9.cell]; exact hv)
            have zc9 := hX9.c0
            have HKF : Hid (∀ w10 (er : Int) (X' : QS), Lm w w10 p pw q k X' → w10.heap[gf]? = Y8.heap[gf]? → w10.rangeAt gf 0 LF ∧ w10.cell? ⟨gf, 2, none⟩ = some (.int .u64 o1) ∧ w10.cell? ⟨gf, 3, none⟩ = some (.slice dA nd dc)) := Lib.hid (fun w10 er X' h hg => by
              have hA10 : At w10 gf 46 LF := hg.trans hA9
              obtain ⟨a, b⟩ := HFC.out _ _ hA10
              exact ⟨fun j v hv => by rw [Nat.zero_add, hA10.cell]; exact hv, a, b⟩)
            clear hX9 hA9 HFC HON HX8 HA8 z8 HXY HX6 HA6 hG9 hB8 HGF
            refine wp_region_held_drew (S := (fun W => W.cell? ⟨pw, 0, none⟩ = some (.pointer (some ⟨p, 0, none⟩)) ∧ W.rangeAt gf 0 LF)) (by kernel_rfl) (by rw [hY8]; exact ⟨zc9, HR9.out⟩) (fun hHeld => ?_)
            rw [hY8] at hHeld ⊢
            clear hY8
            refine tkq 0 (some 75) (v := ?_) rfl (Or.inl ⟨by rfl, ?_⟩) (by assumption) ?_
            rotate_left
            · intro w hSw; (try dsimp only at hSw); go_simp; first | done | (with_reducible rfl)
            simp only [Act.put, List.setIfInBounds_toArray, List.set_cons_zero, List.set_cons_succ]
            refine tkq 1 (some 76) (v := ?_) rfl (Or.inl ⟨by rfl, ?_⟩) (by assumption) ?_
            rotate_left
            · intro w hSw; (try dsimp only at hSw); go_simp; first | done | (with_reducible rfl)
            simp only [Act.put, List.setIfInBounds_toArray, List.set_cons_zero, List.set_cons_succ]
            refine tkq 2 (some 77) (v := ?_) rfl (Or.inl ⟨by rfl, ?_⟩) (by assumption) ?_
            rotate_left
            · intro w hSw; (try dsimp only at hSw); go_simp; first | done | (with_reducible rfl)
            simp only [Act.put, List.setIfInBounds_toArray, List.set_cons_zero, List.set_cons_succ]
            refine tkq 3 (some 78) (v := ?_) rfl (Or.inl ⟨by rfl, ?_⟩) (by assumption) ?_
            rotate_left
            · intro w hSw; (try dsimp only at hSw); go_simp; first | done | (with_reducible rfl)
            simp only [Act.put, List.setIfInBounds_toArray, List.set_cons_zero, List.set_cons_succ]
            refine tkq 4 (some 79) (v := ?_) rfl ?_ (by assumption) ?_
            rotate_left
            · refine yl_any 46 (.tmp 13) ?_ gf 0 ?_ LF _ ?_ Try.underlying46 rfl ?_ ?_
              · rfl
              · rfl
              · intro w hSw; exact hSw.2
              · rw [HFl.out]; exact fr_info
              · rfl
            simp only [Act.put, List.setIfInBounds_toArray, List.set_cons_zero, List.set_cons_succ]
            refine wpAnyH_ready (rs := [5]) (by kernel_rfl) (by simp) ?_
            refine AllReadyH.cons rfl (fun K hK => ?_) AllReadyH.nil
            go_simp
            go_wp2_with (go_at_call 13; (with_reducible refine HC.out.mono ?_); rintro e w10 ⟨er, X', rfl, hL10, hl10, he10, hn10, hg10⟩; have HL10 := Lib.hid hL10; have HN10 := Lib.hid (And.intro hl10 (And.intro he10 hn10)); have HFR10 := Lib.hid (HKF.out w10 er X' hL10 hg10); clear hL10 hl10 he10 hn10 hg10)
            refine hK.out _ _ (⟨HL10.out.c0, HFR10.out.1⟩) (fun hHeld => ?_)
            clear hK K
            refine tkq 6 (some 14) (v := ?_) rfl (Or.inl ⟨by rfl, ?_⟩) (by assumption) ?_
            rotate_left
            · intro w hSw; (try dsimp only at hSw); go_simp; first | done | (with_reducible rfl)
            simp only [Act.put, List.setIfInBounds_toArray, List.set_cons_zero, List.set_cons_succ]
            refine wpAnyH_done (by kernel_rfl) ?_ _
            have HN7 : Hid (LmN w p pw q k lm w10) := Lib.hid ⟨X', HL10.out, by rw [HN10.out.1]; exact Nat.le_refl _⟩
            obtain ⟨_, g2', g3'⟩ := HFR10.out
            have z10 := HL10.out.c0
            have hE1 : (o1 : Int) + (nd : Int) = ((o1 + nd : Nat) : Int) := by omega
            obtain ⟨E1, hE1'⟩ : ∃ E1, E1 = o1 + nd := ⟨_, rfl⟩
            rw [← hE1'] at hE1
            have hE1b : E1 ≤ 440 := by omega
            have hwn : IntKind.u64.wrap (nd : Int) = (nd : Int) := by rw [IntKind.wrap_u64]; omega
            have HE1 := Lib.hid hE1'
            clear hE1'
            by_cases her : er = 0
            · have hlz : ¬ (lm : Int) < (E1 : Int) := by have := HN10.out.2.1 her; have := HE1.out; omega
              subst her
              obtain ⟨X2, hi2, st2, tk2, q2, l2, t2, h2, b2, zc2, hL2⟩ := HEND.out _ HN7.out
              have HQ2 := Lib.hid q2
              have HL2 := Lib.hid hL2
              obtain ⟨lm2, hlm2⟩ : ∃ l, X2.lim = l := ⟨_, rfl⟩
              rw [hlm2] at HQ2 l2 t2 h2
              have HLM2 := Lib.hid hlm2
              skip
              obtain ⟨tz, htz⟩ : ∃ t, t = tk2 + k := ⟨_, rfl⟩
              have htzz : (tk2 : Int) + (k : Int) = (tz : Int) := by omega
              have htzb : tz ≤ 1099511640000 := by omega
              have D1 : Hid (decide (lm2 < lm) = false) := Lib.hid (by simp; omega)
              have D2 : Hid (decide (tz < lm2) = false) := Lib.hid (by simp; omega)
              have D3 : Hid (decide (lm2 < hi2) = false) := Lib.hid (by simp; omega)
              have n1 : ¬ (lm2 : Int) < (lm : Int) := by omega
              have n2 : ¬ (tz : Int) < (lm2 : Int) := by omega
              have n3 : ¬ (lm2 : Int) < (hi2 : Int) := by omega
              have htw : IntKind.u64.wrap (tz : Int) = (tz : Int) := by rw [IntKind.wrap_u64]; omega
              clear q2 hL2 hlm2 htz l2 t2 h2 HEND
              go_wp2_with fail
              have d1 := D1.out
              have d2 := D2.out
              have d3 := D3.out
              go_quiet ((first
                | (go_at_call 8; (with_reducible exact HQ2.out.hq _))
                | (go_at_call 7; (with_reducible exact HQ2.out.lq _))
                | (go_at_call 10; (with_reducible exact HQ2.out.tq _))))
              have hL9 := HL2.out.drewN nq
              obtain ⟨W9, hW9⟩ : ∃ W, World.drewN w10 nq = W := ⟨_, rfl⟩
              rw [hW9] at hL9 ⊢
              clear hW9 d1 d2 d3
              have zc9 := hL9.c0
              have HLI9 : Hid (Calls Try.prog 7 #[.pointer (some ⟨p, 0, none⟩)] W9 fun e w' => e = .returned (.int .u64 lm2) ∧ w' = W9) := Lib.hid (by rw [← HLM2.out]; exact qo_limit hL9.qo)
              have HQ9 : Hid (∃ X, Lm w W9 p pw q k X ∧ X.lim = lm2) := Lib.hid ⟨X2, hL9, HLM2.out⟩
              clear hL9
              go_wp2_with (go_at_call 7; (with_reducible refine HLI9.out.mono ?_); rintro e w8 ⟨rfl, hw8⟩; rw [hw8]; clear hw8)
              go_roundg (60 - (i + 1))
              case measure => omega
              case rel => exact ⟨i + 1, lm2, by simp, rfl, by omega, by omega, by omega, HQ9⟩
            · have herz : (er == 0) = false := by simpa using her
              have herz2 : (er != 0) = true := by simpa using her
              have hXX := HN10.out.2.2 her
              have HHQ : Hid (∀ W, W = w10 → Calls Try.prog 8 #[.pointer (some ⟨p, 0, none⟩)] W fun e w' => e = .returned (.int .u64 hi) ∧ w' = W) := Lib.hid (fun W e => by rw [e, ← HHI.out, ← hXX]; exact qo_high HL10.out.qo)
              have HSQ : Hid (∀ W, W = w10 → Calls Try.prog 9 #[.pointer (some ⟨p, 0, none⟩)] W fun e w' => e = .returned (.int .i64 st) ∧ w' = W) := Lib.hid (fun W e => by rw [e, ← HST.out, ← hXX]; exact qo_state HL10.out.qo)
              have HTQ : Hid (∀ W, W = w10 → Calls Try.prog 10 #[.pointer (some ⟨p, 0, none⟩)] W fun e w' => e = .returned (.int .u64 tk) ∧ w' = W) := Lib.hid (fun W e => by rw [e, ← HTK.out, ← hXX]; exact qo_taken HL10.out.qo)
              clear hXX her
              have x1 : ((hi : Int) != (hi : Int)) = false := by simp
              have x2 : ((st : Int) != (st : Int)) = false := by simp
              have x3 : ((tk : Int) != (tk : Int)) = false := by simp
              go_upto_region 19 with (first
                | (go_at_call 8; (with_reducible refine (HHQ.out _ rfl).mono ?_); rintro e w8 ⟨rfl, hw8⟩; rw [hw8]; clear hw8)
                | (go_at_call 9; (with_reducible refine (HSQ.out _ rfl).mono ?_); rintro e w8 ⟨rfl, hw8⟩; rw [hw8]; clear hw8)
                | (go_at_call 10; (with_reducible refine (HTQ.out _ rfl).mono ?_); rintro e w8 ⟨rfl, hw8⟩; rw [hw8]; clear hw8)
                | fail)
              obtain ⟨X2, hi2, st2, tk2, q2, l2, t2, h2, b2, zc2, hL2⟩ := HEND.out _ HN7.out
              have HQ2 := Lib.hid q2
              have HL2 := Lib.hid hL2
              obtain ⟨lm2, hlm2⟩ : ∃ l, X2.lim = l := ⟨_, rfl⟩
              rw [hlm2] at HQ2 l2 t2 h2
              have HLM2 := Lib.hid hlm2
              skip
              obtain ⟨tz, htz⟩ : ∃ t, t = tk2 + k := ⟨_, rfl⟩
              have htzz : (tk2 : Int) + (k : Int) = (tz : Int) := by omega
              have htzb : tz ≤ 1099511640000 := by omega
              have D1 : Hid (decide (lm2 < lm) = false) := Lib.hid (by simp; omega)
              have D2 : Hid (decide (tz < lm2) = false) := Lib.hid (by simp; omega)
              have D3 : Hid (decide (lm2 < hi2) = false) := Lib.hid (by simp; omega)
              have n1 : ¬ (lm2 : Int) < (lm : Int) := by omega
              have n2 : ¬ (tz : Int) < (lm2 : Int) := by omega
              have n3 : ¬ (lm2 : Int) < (hi2 : Int) := by omega
              have htw : IntKind.u64.wrap (tz : Int) = (tz : Int) := by rw [IntKind.wrap_u64]; omega
              clear q2 hL2 hlm2 htz l2 t2 h2 HEND
              go_wp2_with fail
              have d1 := D1.out
              have d2 := D2.out
              have d3 := D3.out
              go_quiet ((first
                | (go_at_call 8; (with_reducible exact HQ2.out.hq _))
                | (go_at_call 7; (with_reducible exact HQ2.out.lq _))
                | (go_at_call 10; (with_reducible exact HQ2.out.tq _))))
              have hL9 := HL2.out.drewN nq
              obtain ⟨W9, hW9⟩ : ∃ W, World.drewN w10 nq = W := ⟨_, rfl⟩
              rw [hW9] at hL9 ⊢
              clear hW9 d1 d2 d3
              have zc9 := hL9.c0
              have HLI9 : Hid (Calls Try.prog 7 #[.pointer (some ⟨p, 0, none⟩)] W9 fun e w' => e = .returned (.int .u64 lm2) ∧ w' = W9) := Lib.hid (by rw [← HLM2.out]; exact qo_limit hL9.qo)
              have HQ9 : Hid (∃ X, Lm w W9 p pw q k X ∧ X.lim = lm2) := Lib.hid ⟨X2, hL9, HLM2.out⟩
              clear hL9
              go_wp2_with (go_at_call 7; (with_reducible refine HLI9.out.mono ?_); rintro e w8 ⟨rfl, hw8⟩; rw [hw8]; clear hw8)
              go_roundg (60 - (i + 1))
              case measure => omega
              case rel => exact ⟨i + 1, lm2, by simp, rfl, by omega, by omega, by omega, HQ9⟩
          · go_simp
            go_wp2_with (fail)
            refine hK.out _ _ (HYS.out _ HYB.out) (fun hHeld => ?_)
            clear hK K
            refine wpAnyH_ready (rs := [6]) (by kernel_rfl) (by simp) ?_
            refine AllReadyH.cons rfl (fun K hK => ?_) AllReadyH.nil
            go_simp
            go_wp2_with (go_at_call 12; (with_reducible refine (HCU.out _).mono ?_); rintro e wz ⟨rfl, hwz⟩; rw [← hwz]; clear hwz)
            refine hK.out _ _ (HYS.out _ HYB.out) (fun hHeld => ?_)
            clear hK K
            refine tkq 9 (some 74) (v := ?_) rfl (Or.inl ⟨by rfl, ?_⟩) (by assumption) ?_
            rotate_left
            · intro w hSw; (try dsimp only at hSw); go_simp; first | done | (with_reducible rfl)
            simp only [Act.put, List.setIfInBounds_toArray, List.set_cons_zero, List.set_cons_succ]
            refine wpAnyH_ready (rs := [11]) (by kernel_rfl) (by simp) ?_
            refine AllReadyH.cons rfl (fun K hK => ?_) AllReadyH.nil
            refine step_st_any (by rfl) (Y.heap.size) 46 (frL (FN.zero 0) .nil .nil) LF (by rfl) (by rw [← HLF.out]; rfl) HAZ.out (by rw [HFl.out]; rfl) (by rw [HFl.out]; kernel_rfl) HFo.out ?_
            intro w8 hAn hkn
            refine hK.out _ _ (HYS.out _ (HYK.out w8 hkn)) (fun hHeld => ?_)
            clear hK K
            refine wpAnyH_done (by kernel_rfl) ?_ _
            have hB8 := HYK.out w8 hkn
            have hX8 := HXY.out.below hB8
            have HX8 := Lib.hid hX8
            have HA8 := Lib.hid hAn
            have z8 := hX8.c0
            obtain ⟨gf, hgf⟩ : ∃ g, Y.heap.size = g := ⟨_, rfl⟩
            have HGF := Lib.hid hgf
            rw [hgf] at HA8 ⊢
            have hlt8 := HA8.out.lt
            have hnf : pw ≠ gf := by have := HXY.out.at_.lt; omega
            clear hAn hkn HYS HAZ HYB HYK HYR HWI HCU hX8 hgf
            go_wp2_with fail
            obtain ⟨Y8, hY8⟩ : ∃ Y, w8.drew = Y := ⟨_, rfl⟩
            have hX9 := HX8.out.drewN 1
            change Lm w w8.drew p pw q k X at hX9
            rw [hY8] at hX9
            have hA9 := HA8.out.drewN 1
            change At w8.drew gf _ LF at hA9
            rw [hY8] at hA9
            have hG9 : LmG w Y8 p pw q k X gf := by rw [← hY8, ← HGF.out]; exact HXY.out.g (W' := w8.drew) hB8.drew ⟨Nat.le_refl _, by rw [HGF.out]; exact hlt8⟩
            have HC := Lib.hid (HON.out _ _ gf hG9)
            rw [HLM.out] at HC
            have HR9 : Hid (Y8.rangeAt gf 0 LF) := Lib.hid (fun j v hv => by rw [Nat.zero_add, hA9.cell]; exact hv)
            have zc9 := hX9.c0
            have HKF : Hid (∀ w10 (er : Int) (X' : QS), Lm w w10 p pw q k X' → w10.heap[gf]? = Y8.heap[gf]? → w10.rangeAt gf 0 LF ∧ w10.cell? ⟨gf, 2, none⟩ = some (.int .u64 o1) ∧ w10.cell? ⟨gf, 3, none⟩ = some (.slice dA nd dc)) := Lib.hid (fun w10 er X' h hg => by
              have hA10 : At w10 gf 46 LF := hg.trans hA9
              obtain ⟨a, b⟩ := HFC.out _ _ hA10
              exact ⟨fun j v hv => by rw [Nat.zero_add, hA10.cell]; exact hv, a, b⟩)
            clear hX9 hA9 HFC HON HX8 HA8 z8 HXY HX6 HA6 hG9 hB8 HGF
            refine wp_region_held_drew (S := (fun W => W.cell? ⟨pw, 0, none⟩ = some (.pointer (some ⟨p, 0, none⟩)) ∧ W.rangeAt gf 0 LF)) (by kernel_rfl) (by rw [hY8]; exact ⟨zc9, HR9.out⟩) (fun hHeld => ?_)
            rw [hY8] at hHeld ⊢
            clear hY8
            refine tkq 0 (some 75) (v := ?_) rfl (Or.inl ⟨by rfl, ?_⟩) (by assumption) ?_
            rotate_left
            · intro w hSw; (try dsimp only at hSw); go_simp; first | done | (with_reducible rfl)
            simp only [Act.put, List.setIfInBounds_toArray, List.set_cons_zero, List.set_cons_succ]
            refine tkq 1 (some 76) (v := ?_) rfl (Or.inl ⟨by rfl, ?_⟩) (by assumption) ?_
            rotate_left
            · intro w hSw; (try dsimp only at hSw); go_simp; first | done | (with_reducible rfl)
            simp only [Act.put, List.setIfInBounds_toArray, List.set_cons_zero, List.set_cons_succ]
            refine tkq 2 (some 77) (v := ?_) rfl (Or.inl ⟨by rfl, ?_⟩) (by assumption) ?_
            rotate_left
            · intro w hSw; (try dsimp only at hSw); go_simp; first | done | (with_reducible rfl)
            simp only [Act.put, List.setIfInBounds_toArray, List.set_cons_zero, List.set_cons_succ]
            refine tkq 3 (some 78) (v := ?_) rfl (Or.inl ⟨by rfl, ?_⟩) (by assumption) ?_
            rotate_left
            · intro w hSw; (try dsimp only at hSw); go_simp; first | done | (with_reducible rfl)
            simp only [Act.put, List.setIfInBounds_toArray, List.set_cons_zero, List.set_cons_succ]
            refine tkq 4 (some 79) (v := ?_) rfl ?_ (by assumption) ?_
            rotate_left
            · refine yl_any 46 (.tmp 13) ?_ gf 0 ?_ LF _ ?_ Try.underlying46 rfl ?_ ?_
              · rfl
              · rfl
              · intro w hSw; exact hSw.2
              · rw [HFl.out]; exact fr_info
              · rfl
            simp only [Act.put, List.setIfInBounds_toArray, List.set_cons_zero, List.set_cons_succ]
            refine wpAnyH_ready (rs := [5]) (by kernel_rfl) (by simp) ?_
            refine AllReadyH.cons rfl (fun K hK => ?_) AllReadyH.nil
            go_simp
            go_wp2_with (go_at_call 13; (with_reducible refine HC.out.mono ?_); rintro e w10 ⟨er, X', rfl, hL10, hl10, he10, hn10, hg10⟩; have HL10 := Lib.hid hL10; have HN10 := Lib.hid (And.intro hl10 (And.intro he10 hn10)); have HFR10 := Lib.hid (HKF.out w10 er X' hL10 hg10); clear hL10 hl10 he10 hn10 hg10)
            refine hK.out _ _ (⟨HL10.out.c0, HFR10.out.1⟩) (fun hHeld => ?_)
            clear hK K
            refine tkq 6 (some 14) (v := ?_) rfl (Or.inl ⟨by rfl, ?_⟩) (by assumption) ?_
            rotate_left
            · intro w hSw; (try dsimp only at hSw); go_simp; first | done | (with_reducible rfl)
            simp only [Act.put, List.setIfInBounds_toArray, List.set_cons_zero, List.set_cons_succ]
            refine wpAnyH_done (by kernel_rfl) ?_ _
            have HN7 : Hid (LmN w p pw q k lm w10) := Lib.hid ⟨X', HL10.out, by rw [HN10.out.1]; exact Nat.le_refl _⟩
            obtain ⟨_, g2', g3'⟩ := HFR10.out
            have z10 := HL10.out.c0
            have hE1 : (o1 : Int) + (nd : Int) = ((o1 + nd : Nat) : Int) := by omega
            obtain ⟨E1, hE1'⟩ : ∃ E1, E1 = o1 + nd := ⟨_, rfl⟩
            rw [← hE1'] at hE1
            have hE1b : E1 ≤ 440 := by omega
            have hwn : IntKind.u64.wrap (nd : Int) = (nd : Int) := by rw [IntKind.wrap_u64]; omega
            have HE1 := Lib.hid hE1'
            clear hE1'
            by_cases her : er = 0
            · have hlz : ¬ (lm : Int) < (E1 : Int) := by have := HN10.out.2.1 her; have := HE1.out; omega
              subst her
              obtain ⟨X2, hi2, st2, tk2, q2, l2, t2, h2, b2, zc2, hL2⟩ := HEND.out _ HN7.out
              have HQ2 := Lib.hid q2
              have HL2 := Lib.hid hL2
              obtain ⟨lm2, hlm2⟩ : ∃ l, X2.lim = l := ⟨_, rfl⟩
              rw [hlm2] at HQ2 l2 t2 h2
              have HLM2 := Lib.hid hlm2
              skip
              obtain ⟨tz, htz⟩ : ∃ t, t = tk2 + k := ⟨_, rfl⟩
              have htzz : (tk2 : Int) + (k : Int) = (tz : Int) := by omega
              have htzb : tz ≤ 1099511640000 := by omega
              have D1 : Hid (decide (lm2 < lm) = false) := Lib.hid (by simp; omega)
              have D2 : Hid (decide (tz < lm2) = false) := Lib.hid (by simp; omega)
              have D3 : Hid (decide (lm2 < hi2) = false) := Lib.hid (by simp; omega)
              have n1 : ¬ (lm2 : Int) < (lm : Int) := by omega
              have n2 : ¬ (tz : Int) < (lm2 : Int) := by omega
              have n3 : ¬ (lm2 : Int) < (hi2 : Int) := by omega
              have htw : IntKind.u64.wrap (tz : Int) = (tz : Int) := by rw [IntKind.wrap_u64]; omega
              clear q2 hL2 hlm2 htz l2 t2 h2 HEND
              go_wp2_with fail
              have d1 := D1.out
              have d2 := D2.out
              have d3 := D3.out
              go_quiet ((first
                | (go_at_call 8; (with_reducible exact HQ2.out.hq _))
                | (go_at_call 7; (with_reducible exact HQ2.out.lq _))
                | (go_at_call 10; (with_reducible exact HQ2.out.tq _))))
              have hL9 := HL2.out.drewN nq
              obtain ⟨W9, hW9⟩ : ∃ W, World.drewN w10 nq = W := ⟨_, rfl⟩
              rw [hW9] at hL9 ⊢
              clear hW9 d1 d2 d3
              have zc9 := hL9.c0
              have HLI9 : Hid (Calls Try.prog 7 #[.pointer (some ⟨p, 0, none⟩)] W9 fun e w' => e = .returned (.int .u64 lm2) ∧ w' = W9) := Lib.hid (by rw [← HLM2.out]; exact qo_limit hL9.qo)
              have HQ9 : Hid (∃ X, Lm w W9 p pw q k X ∧ X.lim = lm2) := Lib.hid ⟨X2, hL9, HLM2.out⟩
              clear hL9
              go_wp2_with (go_at_call 7; (with_reducible refine HLI9.out.mono ?_); rintro e w8 ⟨rfl, hw8⟩; rw [hw8]; clear hw8)
              go_roundg (60 - (i + 1))
              case measure => omega
              case rel => exact ⟨i + 1, lm2, by simp, rfl, by omega, by omega, by omega, HQ9⟩
            · have herz : (er == 0) = false := by simpa using her
              have herz2 : (er != 0) = true := by simpa using her
              have hXX := HN10.out.2.2 her
              have HHQ : Hid (∀ W, W = w10 → Calls Try.prog 8 #[.pointer (some ⟨p, 0, none⟩)] W fun e w' => e = .returned (.int .u64 hi) ∧ w' = W) := Lib.hid (fun W e => by rw [e, ← HHI.out, ← hXX]; exact qo_high HL10.out.qo)
              have HSQ : Hid (∀ W, W = w10 → Calls Try.prog 9 #[.pointer (some ⟨p, 0, none⟩)] W fun e w' => e = .returned (.int .i64 st) ∧ w' = W) := Lib.hid (fun W e => by rw [e, ← HST.out, ← hXX]; exact qo_state HL10.out.qo)
              have HTQ : Hid (∀ W, W = w10 → Calls Try.prog 10 #[.pointer (some ⟨p, 0, none⟩)] W fun e w' => e = .returned (.int .u64 tk) ∧ w' = W) := Lib.hid (fun W e => by rw [e, ← HTK.out, ← hXX]; exact qo_taken HL10.out.qo)
              clear hXX her
              have x1 : ((hi : Int) != (hi : Int)) = false := by simp
              have x2 : ((st : Int) != (st : Int)) = false := by simp
              have x3 : ((tk : Int) != (tk : Int)) = false := by simp
              go_upto_region 19 with (first
                | (go_at_call 8; (with_reducible refine (HHQ.out _ rfl).mono ?_); rintro e w8 ⟨rfl, hw8⟩; rw [hw8]; clear hw8)
                | (go_at_call 9; (with_reducible refine (HSQ.out _ rfl).mono ?_); rintro e w8 ⟨rfl, hw8⟩; rw [hw8]; clear hw8)
                | (go_at_call 10; (with_reducible refine (HTQ.out _ rfl).mono ?_); rintro e w8 ⟨rfl, hw8⟩; rw [hw8]; clear hw8)
                | fail)
              obtain ⟨X2, hi2, st2, tk2, q2, l2, t2, h2, b2, zc2, hL2⟩ := HEND.out _ HN7.out
              have HQ2 := Lib.hid q2
              have HL2 := Lib.hid hL2
              obtain ⟨lm2, hlm2⟩ : ∃ l, X2.lim = l := ⟨_, rfl⟩
              rw [hlm2] at HQ2 l2 t2 h2
              have HLM2 := Lib.hid hlm2
              skip
              obtain ⟨tz, htz⟩ : ∃ t, t = tk2 + k := ⟨_, rfl⟩
              have htzz : (tk2 : Int) + (k : Int) = (tz : Int) := by omega
              have htzb : tz ≤ 1099511640000 := by omega
              have D1 : Hid (decide (lm2 < lm) = false) := Lib.hid (by simp; omega)
              have D2 : Hid (decide (tz < lm2) = false) := Lib.hid (by simp; omega)
              have D3 : Hid (decide (lm2 < hi2) = false) := Lib.hid (by simp; omega)
              have n1 : ¬ (lm2 : Int) < (lm : Int) := by omega
              have n2 : ¬ (tz : Int) < (lm2 : Int) := by omega
              have n3 : ¬ (lm2 : Int) < (hi2 : Int) := by omega
              have htw : IntKind.u64.wrap (tz : Int) = (tz : Int) := by rw [IntKind.wrap_u64]; omega
              clear q2 hL2 hlm2 htz l2 t2 h2 HEND
              go_wp2_with fail
              have d1 := D1.out
              have d2 := D2.out
              have d3 := D3.out
              go_quiet ((first
                | (go_at_call 8; (with_reducible exact HQ2.out.hq _))
                | (go_at_call 7; (with_reducible exact HQ2.out.lq _))
                | (go_at_call 10; (with_reducible exact HQ2.out.tq _))))
              have hL9 := HL2.out.drewN nq
              obtain ⟨W9, hW9⟩ : ∃ W, World.drewN w10 nq = W := ⟨_, rfl⟩
              rw [hW9] at hL9 ⊢
              clear hW9 d1 d2 d3
              have zc9 := hL9.c0
              have HLI9 : Hid (Calls Try.prog 7 #[.pointer (some ⟨p, 0, none⟩)] W9 fun e w' => e = .returned (.int .u64 lm2) ∧ w' = W9) := Lib.hid (by rw [← HLM2.out]; exact qo_limit hL9.qo)
              have HQ9 : Hid (∃ X, Lm w W9 p pw q k X ∧ X.lim = lm2) := Lib.hid ⟨X2, hL9, HLM2.out⟩
              clear hL9
              go_wp2_with (go_at_call 7; (with_reducible refine HLI9.out.mono ?_); rintro e w8 ⟨rfl, hw8⟩; rw [hw8]; clear hw8)
              go_roundg (60 - (i + 1))
              case measure => omega
              case rel => exact ⟨i + 1, lm2, by simp, rfl, by omega, by omega, by omega, HQ9⟩
        · go_simp
          go_wp2_with (fail)
          refine hK.out _ _ (HYS.out _ HYB.out) (fun hHeld => ?_)
          clear hK K
          refine wpAnyH_ready (rs := [2]) (by kernel_rfl) (by simp) ?_
          refine AllReadyH.cons rfl (fun K hK => ?_) AllReadyH.nil
          go_simp
          go_wp2_with (go_at_call 11; (with_reducible refine (HWI.out _).mono ?_); rintro e wz ⟨rfl, hwz⟩; rw [← hwz]; clear hwz)
          refine hK.out _ _ (HYS.out _ HYB.out) (fun hHeld => ?_)
          clear hK K
          refine tkq 3 (some 68) (v := ?_) rfl (Or.inl ⟨by rfl, ?_⟩) (by assumption) ?_
          rotate_left
          · intro w hSw; (try dsimp only at hSw); go_simp; first | done | (with_reducible rfl)
          simp only [Act.put, List.setIfInBounds_toArray, List.set_cons_zero, List.set_cons_succ]
          refine wpAnyH_ready (rs := [6]) (by kernel_rfl) (by simp) ?_
          refine AllReadyH.cons rfl (fun K hK => ?_) AllReadyH.nil
          go_simp
          go_wp2_with (go_at_call 12; (with_reducible refine (HCU.out _).mono ?_); rintro e wz ⟨rfl, hwz⟩; rw [← hwz]; clear hwz)
          refine hK.out _ _ (HYS.out _ HYB.out) (fun hHeld => ?_)
          clear hK K
          refine tkq 9 (some 74) (v := ?_) rfl (Or.inl ⟨by rfl, ?_⟩) (by assumption) ?_
          rotate_left
          · intro w hSw; (try dsimp only at hSw); go_simp; first | done | (with_reducible rfl)
          simp only [Act.put, List.setIfInBounds_toArray, List.set_cons_zero, List.set_cons_succ]
          refine wpAnyH_ready (rs := [11]) (by kernel_rfl) (by simp) ?_
          refine AllReadyH.cons rfl (fun K hK => ?_) AllReadyH.nil
          refine step_st_any (by rfl) (Y.heap.size) 46 (frL (FN.zero 0) .nil .nil) LF (by rfl) (by rw [← HLF.out]; rfl) HAZ.out (by rw [HFl.out]; rfl) (by rw [HFl.out]; kernel_rfl) HFo.out ?_
          intro w8 hAn hkn
          refine hK.out _ _ (HYS.out _ (HYK.out w8 hkn)) (fun hHeld => ?_)
          clear hK K
          refine wpAnyH_done (by kernel_rfl) ?_ _
          have hB8 := HYK.out w8 hkn
          have hX8 := HXY.out.below hB8
          have HX8 := Lib.hid hX8
          have HA8 := Lib.hid hAn
          have z8 := hX8.c0
          obtain ⟨gf, hgf⟩ : ∃ g, Y.heap.size = g := ⟨_, rfl⟩
          have HGF := Lib.hid hgf
          rw [hgf] at HA8 ⊢
          have hlt8 := HA8.out.lt
          have hnf : pw ≠ gf := by have := HXY.out.at_.lt; omega
          clear hAn hkn HYS HAZ HYB HYK HYR HWI HCU hX8 hgf
          go_wp2_with fail
          obtain ⟨Y8, hY8⟩ : ∃ Y, w8.drew = Y := ⟨_, rfl⟩
          have hX9 := HX8.out.drewN 1
          change Lm w w8.drew p pw q k X at hX9
          rw [hY8] at hX9
          have hA9 := HA8.out.drewN 1
          change At w8.drew gf _ LF at hA9
          rw [hY8] at hA9
          have hG9 : LmG w Y8 p pw q k X gf := by rw [← hY8, ← HGF.out]; exact HXY.out.g (W' := w8.drew) hB8.drew ⟨Nat.le_refl _, by rw [HGF.out]; exact hlt8⟩
          have HC := Lib.hid (HON.out _ _ gf hG9)
          rw [HLM.out] at HC
          have HR9 : Hid (Y8.rangeAt gf 0 LF) := Lib.hid (fun j v hv => by rw [Nat.zero_add, hA9.cell]; exact hv)
          have zc9 := hX9.c0
          have HKF : Hid (∀ w10 (er : Int) (X' : QS), Lm w w10 p pw q k X' → w10.heap[gf]? = Y8.heap[gf]? → w10.rangeAt gf 0 LF ∧ w10.cell? ⟨gf, 2, none⟩ = some (.int .u64 o1) ∧ w10.cell? ⟨gf, 3, none⟩ = some (.slice dA nd dc)) := Lib.hid (fun w10 er X' h hg => by
            have hA10 : At w10 gf 46 LF := hg.trans hA9
            obtain ⟨a, b⟩ := HFC.out _ _ hA10
            exact ⟨fun j v hv => by rw [Nat.zero_add, hA10.cell]; exact hv, a, b⟩)
          clear hX9 hA9 HFC HON HX8 HA8 z8 HXY HX6 HA6 hG9 hB8 HGF
          refine wp_region_held_drew (S := (fun W => W.cell? ⟨pw, 0, none⟩ = some (.pointer (some ⟨p, 0, none⟩)) ∧ W.rangeAt gf 0 LF)) (by kernel_rfl) (by rw [hY8]; exact ⟨zc9, HR9.out⟩) (fun hHeld => ?_)
          rw [hY8] at hHeld ⊢
          clear hY8
          refine tkq 0 (some 75) (v := ?_) rfl (Or.inl ⟨by rfl, ?_⟩) (by assumption) ?_
          rotate_left
          · intro w hSw; (try dsimp only at hSw); go_simp; first | done | (with_reducible rfl)
          simp only [Act.put, List.setIfInBounds_toArray, List.set_cons_zero, List.set_cons_succ]
          refine tkq 1 (some 76) (v := ?_) rfl (Or.inl ⟨by rfl, ?_⟩) (by assumption) ?_
          rotate_left
          · intro w hSw; (try dsimp only at hSw); go_simp; first | done | (with_reducible rfl)
          simp only [Act.put, List.setIfInBounds_toArray, List.set_cons_zero, List.set_cons_succ]
          refine tkq 2 (some 77) (v := ?_) rfl (Or.inl ⟨by rfl, ?_⟩) (by assumption) ?_
          rotate_left
          · intro w hSw; (try dsimp only at hSw); go_simp; first | done | (with_reducible rfl)
          simp only [Act.put, List.setIfInBounds_toArray, List.set_cons_zero, List.set_cons_succ]
          refine tkq 3 (some 78) (v := ?_) rfl (Or.inl ⟨by rfl, ?_⟩) (by assumption) ?_
          rotate_left
          · intro w hSw; (try dsimp only at hSw); go_simp; first | done | (with_reducible rfl)
          simp only [Act.put, List.setIfInBounds_toArray, List.set_cons_zero, List.set_cons_succ]
          refine tkq 4 (some 79) (v := ?_) rfl ?_ (by assumption) ?_
          rotate_left
          · refine yl_any 46 (.tmp 13) ?_ gf 0 ?_ LF _ ?_ Try.underlying46 rfl ?_ ?_
            · rfl
            · rfl
            · intro w hSw; exact hSw.2
            · rw [HFl.out]; exact fr_info
            · rfl
          simp only [Act.put, List.setIfInBounds_toArray, List.set_cons_zero, List.set_cons_succ]
          refine wpAnyH_ready (rs := [5]) (by kernel_rfl) (by simp) ?_
          refine AllReadyH.cons rfl (fun K hK => ?_) AllReadyH.nil
          go_simp
          go_wp2_with (go_at_call 13; (with_reducible refine HC.out.mono ?_); rintro e w10 ⟨er, X', rfl, hL10, hl10, he10, hn10, hg10⟩; have HL10 := Lib.hid hL10; have HN10 := Lib.hid (And.intro hl10 (And.intro he10 hn10)); have HFR10 := Lib.hid (HKF.out w10 er X' hL10 hg10); clear hL10 hl10 he10 hn10 hg10)
          refine hK.out _ _ (⟨HL10.out.c0, HFR10.out.1⟩) (fun hHeld => ?_)
          clear hK K
          refine tkq 6 (some 14) (v := ?_) rfl (Or.inl ⟨by rfl, ?_⟩) (by assumption) ?_
          rotate_left
          · intro w hSw; (try dsimp only at hSw); go_simp; first | done | (with_reducible rfl)
          simp only [Act.put, List.setIfInBounds_toArray, List.set_cons_zero, List.set_cons_succ]
          refine wpAnyH_done (by kernel_rfl) ?_ _
          have HN7 : Hid (LmN w p pw q k lm w10) := Lib.hid ⟨X', HL10.out, by rw [HN10.out.1]; exact Nat.le_refl _⟩
          obtain ⟨_, g2', g3'⟩ := HFR10.out
          have z10 := HL10.out.c0
          have hE1 : (o1 : Int) + (nd : Int) = ((o1 + nd : Nat) : Int) := by omega
          obtain ⟨E1, hE1'⟩ : ∃ E1, E1 = o1 + nd := ⟨_, rfl⟩
          rw [← hE1'] at hE1
          have hE1b : E1 ≤ 440 := by omega
          have hwn : IntKind.u64.wrap (nd : Int) = (nd : Int) := by rw [IntKind.wrap_u64]; omega
          have HE1 := Lib.hid hE1'
          clear hE1'
          by_cases her : er = 0
          · have hlz : ¬ (lm : Int) < (E1 : Int) := by have := HN10.out.2.1 her; have := HE1.out; omega
            subst her
            obtain ⟨X2, hi2, st2, tk2, q2, l2, t2, h2, b2, zc2, hL2⟩ := HEND.out _ HN7.out
            have HQ2 := Lib.hid q2
            have HL2 := Lib.hid hL2
            obtain ⟨lm2, hlm2⟩ : ∃ l, X2.lim = l := ⟨_, rfl⟩
            rw [hlm2] at HQ2 l2 t2 h2
            have HLM2 := Lib.hid hlm2
            skip
            obtain ⟨tz, htz⟩ : ∃ t, t = tk2 + k := ⟨_, rfl⟩
            have htzz : (tk2 : Int) + (k : Int) = (tz : Int) := by omega
            have htzb : tz ≤ 1099511640000 := by omega
            have D1 : Hid (decide (lm2 < lm) = false) := Lib.hid (by simp; omega)
            have D2 : Hid (decide (tz < lm2) = false) := Lib.hid (by simp; omega)
            have D3 : Hid (decide (lm2 < hi2) = false) := Lib.hid (by simp; omega)
            have n1 : ¬ (lm2 : Int) < (lm : Int) := by omega
            have n2 : ¬ (tz : Int) < (lm2 : Int) := by omega
            have n3 : ¬ (lm2 : Int) < (hi2 : Int) := by omega
            have htw : IntKind.u64.wrap (tz : Int) = (tz : Int) := by rw [IntKind.wrap_u64]; omega
            clear q2 hL2 hlm2 htz l2 t2 h2 HEND
            go_wp2_with fail
            have d1 := D1.out
            have d2 := D2.out
            have d3 := D3.out
            go_quiet ((first
              | (go_at_call 8; (with_reducible exact HQ2.out.hq _))
              | (go_at_call 7; (with_reducible exact HQ2.out.lq _))
              | (go_at_call 10; (with_reducible exact HQ2.out.tq _))))
            have hL9 := HL2.out.drewN nq
            obtain ⟨W9, hW9⟩ : ∃ W, World.drewN w10 nq = W := ⟨_, rfl⟩
            rw [hW9] at hL9 ⊢
            clear hW9 d1 d2 d3
            have zc9 := hL9.c0
            have HLI9 : Hid (Calls Try.prog 7 #[.pointer (some ⟨p, 0, none⟩)] W9 fun e w' => e = .returned (.int .u64 lm2) ∧ w' = W9) := Lib.hid (by rw [← HLM2.out]; exact qo_limit hL9.qo)
            have HQ9 : Hid (∃ X, Lm w W9 p pw q k X ∧ X.lim = lm2) := Lib.hid ⟨X2, hL9, HLM2.out⟩
            clear hL9
            go_wp2_with (go_at_call 7; (with_reducible refine HLI9.out.mono ?_); rintro e w8 ⟨rfl, hw8⟩; rw [hw8]; clear hw8)
            go_roundg (60 - (i + 1))
            case measure => omega
            case rel => exact ⟨i + 1, lm2, by simp, rfl, by omega, by omega, by omega, HQ9⟩
          · have herz : (er == 0) = false := by simpa using her
            have herz2 : (er != 0) = true := by simpa using her
            have hXX := HN10.out.2.2 her
            have HHQ : Hid (∀ W, W = w10 → Calls Try.prog 8 #[.pointer (some ⟨p, 0, none⟩)] W fun e w' => e = .returned (.int .u64 hi) ∧ w' = W) := Lib.hid (fun W e => by rw [e, ← HHI.out, ← hXX]; exact qo_high HL10.out.qo)
            have HSQ : Hid (∀ W, W = w10 → Calls Try.prog 9 #[.pointer (some ⟨p, 0, none⟩)] W fun e w' => e = .returned (.int .i64 st) ∧ w' = W) := Lib.hid (fun W e => by rw [e, ← HST.out, ← hXX]; exact qo_state HL10.out.qo)
            have HTQ : Hid (∀ W, W = w10 → Calls Try.prog 10 #[.pointer (some ⟨p, 0, none⟩)] W fun e w' => e = .returned (.int .u64 tk) ∧ w' = W) := Lib.hid (fun W e => by rw [e, ← HTK.out, ← hXX]; exact qo_taken HL10.out.qo)
            clear hXX her
            have x1 : ((hi : Int) != (hi : Int)) = false := by simp
            have x2 : ((st : Int) != (st : Int)) = false := by simp
            have x3 : ((tk : Int) != (tk : Int)) = false := by simp
            go_upto_region 19 with (first
              | (go_at_call 8; (with_reducible refine (HHQ.out _ rfl).mono ?_); rintro e w8 ⟨rfl, hw8⟩; rw [hw8]; clear hw8)
              | (go_at_call 9; (with_reducible refine (HSQ.out _ rfl).mono ?_); rintro e w8 ⟨rfl, hw8⟩; rw [hw8]; clear hw8)
              | (go_at_call 10; (with_reducible refine (HTQ.out _ rfl).mono ?_); rintro e w8 ⟨rfl, hw8⟩; rw [hw8]; clear hw8)
              | fail)
            obtain ⟨X2, hi2, st2, tk2, q2, l2, t2, h2, b2, zc2, hL2⟩ := HEND.out _ HN7.out
            have HQ2 := Lib.hid q2
            have HL2 := Lib.hid hL2
            obtain ⟨lm2, hlm2⟩ : ∃ l, X2.lim = l := ⟨_, rfl⟩
            rw [hlm2] at HQ2 l2 t2 h2
            have HLM2 := Lib.hid hlm2
            skip
            obtain ⟨tz, htz⟩ : ∃ t, t = tk2 + k := ⟨_, rfl⟩
            have htzz : (tk2 : Int) + (k : Int) = (tz : Int) := by omega
            have htzb : tz ≤ 1099511640000 := by omega
            have D1 : Hid (decide (lm2 < lm) = false) := Lib.hid (by simp; omega)
            have D2 : Hid (decide (tz < lm2) = false) := Lib.hid (by simp; omega)
            have D3 : Hid (decide (lm2 < hi2) = false) := Lib.hid (by simp; omega)
            have n1 : ¬ (lm2 : Int) < (lm : Int) := by omega
            have n2 : ¬ (tz : Int) < (lm2 : Int) := by omega
            have n3 : ¬ (lm2 : Int) < (hi2 : Int) := by omega
            have htw : IntKind.u64.wrap (tz : Int) = (tz : Int) := by rw [IntKind.wrap_u64]; omega
            clear q2 hL2 hlm2 htz l2 t2 h2 HEND
            go_wp2_with fail
            have d1 := D1.out
            have d2 := D2.out
            have d3 := D3.out
            go_quiet ((first
              | (go_at_call 8; (with_reducible exact HQ2.out.hq _))
              | (go_at_call 7; (with_reducible exact HQ2.out.lq _))
              | (go_at_call 10; (with_reducible exact HQ2.out.tq _))))
            have hL9 := HL2.out.drewN nq
            obtain ⟨W9, hW9⟩ : ∃ W, World.drewN w10 nq = W := ⟨_, rfl⟩
            rw [hW9] at hL9 ⊢
            clear hW9 d1 d2 d3
            have zc9 := hL9.c0
            have HLI9 : Hid (Calls Try.prog 7 #[.pointer (some ⟨p, 0, none⟩)] W9 fun e w' => e = .returned (.int .u64 lm2) ∧ w' = W9) := Lib.hid (by rw [← HLM2.out]; exact qo_limit hL9.qo)
            have HQ9 : Hid (∃ X, Lm w W9 p pw q k X ∧ X.lim = lm2) := Lib.hid ⟨X2, hL9, HLM2.out⟩
            clear hL9
            go_wp2_with (go_at_call 7; (with_reducible refine HLI9.out.mono ?_); rintro e w8 ⟨rfl, hw8⟩; rw [hw8]; clear hw8)
            go_roundg (60 - (i + 1))
            case measure => omega
            case rel => exact ⟨i + 1, lm2, by simp, rfl, by omega, by omega, by omega, HQ9⟩

      · clear e1 e5 e6
        have hY6 := HX6.out.drewN 1
        change Lm w W6.drew p pw q k X at hY6
        go_wp2_with fail
        go_still_tail 6, (by kernel_rfl)
        change wpList _ _ _ _ _ (World.drew W6)
        obtain ⟨Y, hY⟩ : ∃ Y, W6.drew = Y := ⟨_, rfl⟩
        rw [hY] at hY6 ⊢
        clear hY
        have HC := Lib.hid (lm_next hY6 dmost)
        rw [HLM.out] at HC
        clear hY6
        go_wp2_with (go_at_call 14; (with_reducible refine HC.out.mono ?_); rintro e w7 ⟨LF, fb, rfl, hN7⟩; have HN7 := Lib.hid hN7; clear hN7; obtain ⟨X2, hi2, st2, tk2, q2, l2, t2, h2, b2, zc2, hL2⟩ := HEND.out _ HN7.out)
        have HQ2 := Lib.hid q2
        have HL2 := Lib.hid hL2
        obtain ⟨lm2, hlm2⟩ : ∃ l, X2.lim = l := ⟨_, rfl⟩
        rw [hlm2] at HQ2 l2 t2 h2
        have HLM2 := Lib.hid hlm2
        skip
        obtain ⟨tz, htz⟩ : ∃ t, t = tk2 + k := ⟨_, rfl⟩
        have htzz : (tk2 : Int) + (k : Int) = (tz : Int) := by omega
        have htzb : tz ≤ 1099511640000 := by omega
        have D1 : Hid (decide (lm2 < lm) = false) := Lib.hid (by simp; omega)
        have D2 : Hid (decide (tz < lm2) = false) := Lib.hid (by simp; omega)
        have D3 : Hid (decide (lm2 < hi2) = false) := Lib.hid (by simp; omega)
        have n1 : ¬ (lm2 : Int) < (lm : Int) := by omega
        have n2 : ¬ (tz : Int) < (lm2 : Int) := by omega
        have n3 : ¬ (lm2 : Int) < (hi2 : Int) := by omega
        have htw : IntKind.u64.wrap (tz : Int) = (tz : Int) := by rw [IntKind.wrap_u64]; omega
        clear q2 hL2 hlm2 htz l2 t2 h2 HEND
        go_wp2_with fail
        have d1 := D1.out
        have d2 := D2.out
        have d3 := D3.out
        go_quiet ((first
          | (go_at_call 8; (with_reducible exact HQ2.out.hq _))
          | (go_at_call 7; (with_reducible exact HQ2.out.lq _))
          | (go_at_call 10; (with_reducible exact HQ2.out.tq _))))
        have hL9 := HL2.out.drewN nq
        obtain ⟨W9, hW9⟩ : ∃ W, World.drewN w7 nq = W := ⟨_, rfl⟩
        rw [hW9] at hL9 ⊢
        clear hW9 d1 d2 d3
        have zc9 := hL9.c0
        have HLI9 : Hid (Calls Try.prog 7 #[.pointer (some ⟨p, 0, none⟩)] W9 fun e w' => e = .returned (.int .u64 lm2) ∧ w' = W9) := Lib.hid (by rw [← HLM2.out]; exact qo_limit hL9.qo)
        have HQ9 : Hid (∃ X, Lm w W9 p pw q k X ∧ X.lim = lm2) := Lib.hid ⟨X2, hL9, HLM2.out⟩
        clear hL9
        go_wp2_with (go_at_call 7; (with_reducible refine HLI9.out.mono ?_); rintro e w8 ⟨rfl, hw8⟩; rw [hw8]; clear hw8)
        go_roundg (60 - (i + 1))
        case measure => omega
        case rel => exact ⟨i + 1, lm2, by simp, rfl, by omega, by omega, by omega, HQ9⟩
      · clear e1 e5 e6
        have hY6 := HX6.out.drewN 1
        change Lm w W6.drew p pw q k X at hY6
        go_wp2_with fail
        go_still_tail 6, (by kernel_rfl)
        change wpList _ _ _ _ _ (World.drew W6)
        obtain ⟨Y, hY⟩ : ∃ Y, W6.drew = Y := ⟨_, rfl⟩
        rw [hY] at hY6 ⊢
        clear hY
        have HC := Lib.hid (lm_read hY6 dmost HWM.out)
        rw [HLM.out] at HC
        clear hY6
        go_wp2_with (go_at_call 15; (with_reducible refine HC.out.mono ?_); rintro e w7 ⟨vA, vn, vc, vf, vcd, ver, rfl, hN7⟩; have HN7 := Lib.hid hN7; clear hN7; obtain ⟨X2, hi2, st2, tk2, q2, l2, t2, h2, b2, zc2, hL2⟩ := HEND.out _ HN7.out)
        have HQ2 := Lib.hid q2
        have HL2 := Lib.hid hL2
        obtain ⟨lm2, hlm2⟩ : ∃ l, X2.lim = l := ⟨_, rfl⟩
        rw [hlm2] at HQ2 l2 t2 h2
        have HLM2 := Lib.hid hlm2
        skip
        obtain ⟨tz, htz⟩ : ∃ t, t = tk2 + k := ⟨_, rfl⟩
        have htzz : (tk2 : Int) + (k : Int) = (tz : Int) := by omega
        have htzb : tz ≤ 1099511640000 := by omega
        have D1 : Hid (decide (lm2 < lm) = false) := Lib.hid (by simp; omega)
        have D2 : Hid (decide (tz < lm2) = false) := Lib.hid (by simp; omega)
        have D3 : Hid (decide (lm2 < hi2) = false) := Lib.hid (by simp; omega)
        have n1 : ¬ (lm2 : Int) < (lm : Int) := by omega
        have n2 : ¬ (tz : Int) < (lm2 : Int) := by omega
        have n3 : ¬ (lm2 : Int) < (hi2 : Int) := by omega
        have htw : IntKind.u64.wrap (tz : Int) = (tz : Int) := by rw [IntKind.wrap_u64]; omega
        clear q2 hL2 hlm2 htz l2 t2 h2 HEND
        go_wp2_with fail
        have d1 := D1.out
        have d2 := D2.out
        have d3 := D3.out
        go_quiet ((first
          | (go_at_call 8; (with_reducible exact HQ2.out.hq _))
          | (go_at_call 7; (with_reducible exact HQ2.out.lq _))
          | (go_at_call 10; (with_reducible exact HQ2.out.tq _))))
        have hL9 := HL2.out.drewN nq
        obtain ⟨W9, hW9⟩ : ∃ W, World.drewN w7 nq = W := ⟨_, rfl⟩
        rw [hW9] at hL9 ⊢
        clear hW9 d1 d2 d3
        have zc9 := hL9.c0
        have HLI9 : Hid (Calls Try.prog 7 #[.pointer (some ⟨p, 0, none⟩)] W9 fun e w' => e = .returned (.int .u64 lm2) ∧ w' = W9) := Lib.hid (by rw [← HLM2.out]; exact qo_limit hL9.qo)
        have HQ9 : Hid (∃ X, Lm w W9 p pw q k X ∧ X.lim = lm2) := Lib.hid ⟨X2, hL9, HLM2.out⟩
        clear hL9
        go_wp2_with (go_at_call 7; (with_reducible refine HLI9.out.mono ?_); rintro e w8 ⟨rfl, hw8⟩; rw [hw8]; clear hw8)
        go_roundg (60 - (i + 1))
        case measure => omega
        case rel => exact ⟨i + 1, lm2, by simp, rfl, by omega, by omega, by omega, HQ9⟩
    · have hgz : ¬ (i : Int) < (n : Int) ∨ ((i : Int) < (n : Int) ∧ ¬ (i : Int) < 60) := by omega
      obtain ⟨X, hX, hlm⟩ := hQ.out
      have HB := Lib.hid hX.qo.bl
      clear hX hlm hQ hkx hgo HU
      have hKB : Hid (∀ e w', (e = Ending.returned (.bool true) ∧ Below wr.heap.size wr w') → e = .returned (.bool true) ∧ Below w.heap.size w w') := Lib.hid (fun e w' h => ⟨h.1, HB.out.trans (h.2.mono HB.out.size)⟩)
      rcases hgz with hz | ⟨hz, hz2⟩
      all_goals
        go_wp2_with (first | (go_at_call 16; (with_reducible refine (HK.out _).mono ?_); rintro e w7 ⟨rfl, hb7⟩; have HB7 := Lib.hid (HB.out.trans (hb7.mono HB.out.size)); clear hb7) | fail)
        go_ret
        exact ⟨rfl, HB7.out⟩
end Go.Proofs.Ytahalbmcijbbmaa
