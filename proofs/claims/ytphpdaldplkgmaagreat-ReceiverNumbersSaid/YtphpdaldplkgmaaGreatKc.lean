/-
  The document's Add, the buffer a field.
-/
import Derived.Test.YtphpdaldplkgmaaGreatMq14
import Derived.Test.YtphpdaldplkgmaaGreatIo
namespace Go.Proofs.YtphpdaldplkgmaaGreat
set_option linter.unusedVariables false
set_option linter.unusedSimpArgs false
open Go.RowKit
section
variable {X : RX}
/-- What stands behind both stores. -/
theorem Rk.pad {Y W : World} {base q m1 c1 c2 : Nat} {vb vc : Value} {A1 A2 : Option Addr} {B : List Int} {C : List Bool} {S : BS} (hc : Rk X Y base q vb vc B C S) (hl : C.length < 2048)
    (h : St2 base Y W vb vc (.slice A1 m1 c1) (B.map (Value.int .u8) ++ [.int .u8 0]) (.slice A2 m1 c2) (C.map Value.bool ++ [.bool false]) none none) :
    Rk X ((W.setCell ⟨q, 11, none⟩ (.slice A2 m1 c2)).setCell ⟨q, 10, none⟩ (.slice A1 m1 c1)) base q (.slice A1 m1 c1) (.slice A2 m1 c2) (B ++ [0]) (C ++ [false]) S ∧ Kept (rO q vb vc) Y ((W.setCell ⟨q, 11, none⟩ (.slice A2 m1 c2)).setCell ⟨q, 10, none⟩ (.slice A1 m1 c1)) ∧
    ∀ j, rO q (.slice A1 m1 c1) (.slice A2 m1 c2) j → rO q vb vc j ∨ Y.heap.size ≤ j := by
  have hq := hc.at_.lt
  have kS : Kept (fun b => b = q) W ((W.setCell ⟨q, 11, none⟩ (.slice A2 m1 c2)).setCell ⟨q, 10, none⟩ (.slice A1 m1 c1)) := ((Kept.refl (fun b => b = q) W).setCell (p := ⟨q, 11, none⟩) (.inl rfl) _).setCell (p := ⟨q, 10, none⟩) (.inl rfl) _
  have n1 : ∀ j, (Value.slice A1 m1 c1).ownBlock = some j → ¬ j = q := fun j hj e => by
    rcases h.f1 j hj with h' | h'
    · exact hc.n1 (by rw [← e]; exact h')
    · omega
  have n2 : ∀ j, (Value.slice A2 m1 c2).ownBlock = some j → ¬ j = q := fun j hj e => by
    rcases h.f2 j hj with h' | h'
    · exact hc.n2 (by rw [← e]; exact h')
    · omega
  have e1 : (B ++ [0]).map (Value.int .u8) = B.map (Value.int .u8) ++ [.int .u8 0] := by simp
  have e2 : (C ++ [false]).map Value.bool = C.map Value.bool ++ [.bool false] := by simp
  have aW := hc.at_.kept h.k (fun e => e.elim hc.n1 hc.n2)
  refine ⟨⟨(aW.set 11 (.slice A2 m1 c2)).set 10 (.slice A1 m1 c1), ow_own (by rw [e1]; exact ow_kept h.r1 kS n1) (hc.ob.byt.app (Byt.one (by omega))), by rw [e2]; exact ow_kept h.r2 kS n2, fun e => n1 q e rfl, fun e => n2 q e rfl, h.d, hc.bq, hc.rm.pad hl⟩, ?_, ?_⟩
  · exact (h.k.mono fun j hj => .inl (.inr hj)).trans' kS fun j hj => .inl (.inl hj)
  · rintro j (rfl | hj | hj)
    · exact .inl (.inl rfl)
    · exact (h.f1 j hj).imp (fun e => .inr (.inl e)) id
    · exact (h.f2 j hj).imp (fun e => .inr (.inr e)) id
/-- What a call that changes the document's buffer leaves. -/
def YPost (X : RX) (r : Value) (base q : Nat) (O : Nat → Prop) (S' : BS) (w : World) (e : Ending) (w' : World) : Prop :=
  e = .returned r ∧ ∃ O', Rj X w' base q O' S' ∧ Kept O w w' ∧ ∀ j, O' j → O j ∨ w.heap.size ≤ j
/-- What Add keeps while it puts byte by byte. -/
structure Yl (X : RX) (w wr : World) (base q : Nat) (O : Nat → Prop) (S : BS) (off : Nat) (bs : List Int) (i : Nat) : Prop where
  bf : ∃ O', Rj X wr base q O' ⟨S.rd, S.hi, S.fi, S.en, addG S.g off (bs.take i)⟩ ∧ ∀ j, O' j → O j ∨ w.heap.size ≤ j
  k : Kept O w wr
/-- The like, with the two rows told. -/
structure Yc (X : RX) (w wr : World) (base q : Nat) (O : Nat → Prop) (S : BS) (off : Nat) (bs : List Int) (i : Nat) (vb vc : Value) (B : List Int) (C : List Bool) : Prop where
  rc : Rk X wr base q vb vc B C ⟨S.rd, S.hi, S.fi, S.en, addG S.g off (bs.take i)⟩
  o : ∀ j, rO q vb vc j → O j ∨ w.heap.size ≤ j
  k : Kept O w wr
section
variable {w wr : World} {base q : Nat} {O : Nat → Prop} {S : BS} {off : Nat} {bs : List Int} {i : Nat} {vb vc : Value} {B : List Int} {C : List Bool}
theorem Yl.open_ (h : Yl X w wr base q O S off bs i) : ∃ vb vc B C, Yc X w wr base q O S off bs i vb vc B C := by
  obtain ⟨⟨O', ⟨vb, vc, B, C, rfl, hc⟩, ho⟩, k⟩ := h
  exact ⟨vb, vc, B, C, hc, ho, k⟩
theorem Yc.al (h : Yc X w wr base q O S off bs i vb vc B C) : Yl X w wr base q O S off bs i := ⟨⟨_, ⟨vb, vc, B, C, rfl, h.rc⟩, h.o⟩, h.k⟩
theorem Yc.step {W : World} {vb' vc' : Value} {B' : List Int} {C' : List Bool} {i' : Nat} (h : Yc X w wr base q O S off bs i vb vc B C) (hr : Rk X W base q vb' vc' B' C' ⟨S.rd, S.hi, S.fi, S.en, addG S.g off (bs.take i')⟩) (k : Kept (rO q vb vc) wr W) (ho : ∀ j, rO q vb' vc' j → rO q vb vc j ∨ wr.heap.size ≤ j) : Yc X w W base q O S off bs i' vb' vc' B' C' :=
  ⟨hr, fun j hj => (ho j hj).elim (h.o j) fun h' => .inr (Nat.le_trans h.k.size h'), h.k.trans' k h.o⟩
theorem Yc.drew (h : Yc X w wr base q O S off bs i vb vc B C) : Yc X w wr.drew base q O S off bs i vb vc B C := ⟨h.rc.drewN 1, h.o, h.k.drew⟩
theorem Yl.drew (h : Yl X w wr base q O S off bs i) : Yl X w wr.drew base q O S off bs i := by
  obtain ⟨vb, vc, B, C, h⟩ := h.open_
  exact h.drew.al
end
theorem Rk.put {w : World} {base q : Nat} {vb vc : Value} {B : List Int} {C : List Bool} {S S' : BS} (h : Rk X w base q vb vc B C S) (j : Nat) (u : Value) (hr : S'.rd = S.rd) (hg : S'.g = S.g)
    (he : (rxL X [.int .u64 S.rd, .int .u64 S.hi, .int .u64 S.fi, .bool S.en, vb, vc]).set j u = rxL X [.int .u64 S'.rd, .int .u64 S'.hi, .int .u64 S'.fi, .bool S'.en, vb, vc]) :
    Rk X (w.setCell ⟨q, j, none⟩ u) base q vb vc B C S' := by
  have k : Kept (fun b => b = q) w (w.setCell ⟨q, j, none⟩ u) := (Kept.refl (fun b => b = q) w).setCell (p := ⟨q, j, none⟩) (.inl rfl) u
  exact ⟨he ▸ h.at_.set j u, h.ob.kept k fun j hj e => h.n1 (by rw [hj, e]), ow_kept h.oc k fun j hj e => h.n2 (by rw [hj, e]), h.n1, h.n2, h.n3, h.bq, by rw [hr, hg]; exact h.rm⟩
section
variable {w : World} {base q : Nat} {O : Nat → Prop} {S : BS}
theorem Rj.puthi (h : Rj X w base q O S) (x : Nat) : Rj X (w.setCell ⟨q, 7, none⟩ (.int .u64 x)) base q O ⟨S.rd, x, S.fi, S.en, S.g⟩ := by
  obtain ⟨vb, vc, B, C, e, h⟩ := h
  exact ⟨vb, vc, B, C, e, h.put 7 _ rfl rfl rfl⟩
theorem Rj.putfi (h : Rj X w base q O S) (x : Nat) : Rj X (w.setCell ⟨q, 8, none⟩ (.int .u64 x)) base q O ⟨S.rd, S.hi, x, S.en, S.g⟩ := by
  obtain ⟨vb, vc, B, C, e, h⟩ := h
  exact ⟨vb, vc, B, C, e, h.put 8 _ rfl rfl rfl⟩
theorem Rj.puten (h : Rj X w base q O S) (x : Bool) : Rj X (w.setCell ⟨q, 9, none⟩ (.bool x)) base q O ⟨S.rd, S.hi, S.fi, x, S.g⟩ := by
  obtain ⟨vb, vc, B, C, e, h⟩ := h
  exact ⟨vb, vc, B, C, e, h.put 9 _ rfl rfl rfl⟩
end
/-- Both stores of a byte. -/
theorem Rk.poke {W : World} {base q g1 g2 m c1 c2 k : Nat} {B : List Int} {C : List Bool} {S : BS} {x : Int} {g' : Nat → Option Int} (h : Rk X W base q (.slice (some ⟨g1, 0, none⟩) m c1) (.slice (some ⟨g2, 0, none⟩) m c2) B C S) (hm : C.length = m) (hk : k < m) (hn : C.getD k false = false) (hx : 0 ≤ x ∧ x < 256)
    (e : ∀ n, S.rd ≤ n → g' n = if n = S.rd + k then (S.g n).or (some x) else S.g n) :
    Rk X ((W.setCell ⟨g2, k, none⟩ (.bool true)).setCell ⟨g1, k, none⟩ (.int .u8 x)) base q (.slice (some ⟨g1, 0, none⟩) m c1) (.slice (some ⟨g2, 0, none⟩) m c2) (B.set k x) (C.set k true) ⟨S.rd, S.hi, S.fi, S.en, g'⟩ ∧
    Kept (rO q (.slice (some ⟨g1, 0, none⟩) m c1) (.slice (some ⟨g2, 0, none⟩) m c2)) W ((W.setCell ⟨g2, k, none⟩ (.bool true)).setCell ⟨g1, k, none⟩ (.int .u8 x)) := by
  have n12 : g1 ≠ g2 := fun e => h.n3 g1 rfl (by rw [e]; rfl)
  have nq1 : g1 ≠ q := fun e => h.n1 (by rw [← e]; rfl)
  have nq2 : g2 ≠ q := fun e => h.n2 (by rw [← e]; rfl)
  have k1 : Kept (fun b => b = g2) W (W.setCell ⟨g2, k, none⟩ (.bool true)) := (Kept.refl (fun b => b = g2) W).setCell (p := ⟨g2, k, none⟩) (.inl rfl) _
  have k2 : Kept (fun b => b = g1) (W.setCell ⟨g2, k, none⟩ (.bool true)) ((W.setCell ⟨g2, k, none⟩ (.bool true)).setCell ⟨g1, k, none⟩ (.int .u8 x)) := (Kept.refl (fun b => b = g1) _).setCell (p := ⟨g1, k, none⟩) (.inl rfl) _
  have hB : B.length = m := by rw [← h.rm.len]; exact hm
  have r2 := ow_set (k := k) h.oc (by rw [List.length_map]; exact hm) (.bool true)
  have r1 : Ow (W.setCell ⟨g2, k, none⟩ (.bool true)) base 5 (.slice (some ⟨g1, 0, none⟩) m c1) (B.map (Value.int .u8)) := ow_kept (own_ow h.ob) k1 fun j hj e => n12 (show g1 = g2 from (Option.some.inj hj).trans e)
  have r1' := ow_set (k := k) r1 (by rw [List.length_map]; exact hB) (.int .u8 x)
  have r2' := ow_kept r2 k2 fun j hj e => n12 (show g1 = g2 from e.symm.trans (Option.some.inj hj).symm)
  have e1 : (B.set k x).map (Value.int .u8) = (B.map (Value.int .u8)).set k (.int .u8 x) := List.map_set
  have e2 : (C.set k true).map Value.bool = (C.map Value.bool).set k (.bool true) := List.map_set
  have hbt : Byt (B.set k x) := fun y hy => by
    rcases List.mem_or_eq_of_mem_set hy with hy | hy
    · exact h.ob.byt y hy
    · rw [hy]; exact hx
  refine ⟨⟨(h.at_.kept k1 (fun e => nq2 e.symm)).kept k2 (fun e => nq1 e.symm), ow_own (by rw [e1]; exact r1') hbt, by rw [e2]; exact r2', h.n1, h.n2, h.n3, h.bq, h.rm.put (by omega) hn e⟩, ?_⟩
  exact (k1.mono fun j hj => .inl (.inr (.inr (by rw [hj]; rfl)))).trans' k2 fun j hj => .inl (.inr (.inl (by rw [hj]; rfl)))
set_option maxHeartbeats 80000000 in
set_option maxRecDepth 100000 in
theorem fadd_any (base q : Nat) (O : Nat → Prop) (S : BS) (off : Nat) (A : Option Addr) (n c : Nat) (bs : List Int) (fin : Bool) (w : World) (h : Rj X w base q O S) (hok : S.ok) (hb : base ≤ w.heap.size)
    (hr : RdP w (fun b => ¬ O b) A n bs) (hnc : n ≤ c) (ho : off < 18446744073709551616) (hn : n < 9223372036854775808) :
    Calls Tryz.prog 45 #[.pointer (some ⟨q, 6, none⟩), .int .u64 off, .slice A n c, .bool fin] w (YPost X (.int .i64 (addE S off n fin)) base q O (addR S off bs fin) w) := by
  have hlen := hr.len
  have hEQ : addE S off n fin = addE S off bs.length fin := by rw [hlen]
  have NO : addE S off n fin ≠ 0 → ∀ d, YPost X (.int .i64 (addE S off n fin)) base q O (addR S off bs fin) w (.returned (.int .i64 (addE S off n fin))) (w.drewN d) := fun hne d => by
    unfold addR
    rw [if_neg (by rw [← hEQ]; exact hne)]
    exact ⟨rfl, O, h.drewN d, (Kept.refl _ _).drewN d, fun j hj => .inl hj⟩
  by_cases c1 : 1099511627776 < off
  · have he : addE S off n fin = 1 := by unfold addE; rw [if_pos (.inl c1)]
    have HN := Lib.hid (NO (by rw [he]; decide) 0)
    rw [he] at HN ⊢
    have hcz : (1099511627776 : Int) < (off : Int) := by omega
    clear h hok hr hEQ NO he
    go_enter Tryz.func45, Tryz.ntmps45
    go_wp2
    go_ret
    exact HN.out
  by_cases c2 : 512 < n
  · have he : addE S off n fin = 1 := by unfold addE; rw [if_pos (.inr c2)]
    have HN := Lib.hid (NO (by rw [he]; decide) 0)
    rw [he] at HN ⊢
    have hcz : ¬ (1099511627776 : Int) < (off : Int) := by omega
    have hcn : (512 : Int) < (n : Int) := by omega
    clear h hok hr hEQ NO he
    go_enter Tryz.func45, Tryz.ntmps45
    go_wp2
    go_ret
    exact HN.out
  have hcz : ¬ (1099511627776 : Int) < (off : Int) := by omega
  have hcn : ¬ (512 : Int) < (n : Int) := by omega
  have ho' : off ≤ 1099511627776 := by omega
  have hn' : n ≤ 512 := by omega
  have hE1 : addE S off n fin = if agB S (off + n) fin = true then 30 else if S.rd + 2048 < off + n then 23 else 0 := by
    unfold addE agB
    rw [if_neg (by omega)]
  obtain ⟨E, hE⟩ : ∃ E, E = off + n := ⟨_, rfl⟩
  rw [← hE] at hE1
  clear ho hn c1 c2
  have hEz : (off : Int) + (n : Int) = (E : Int) := by omega
  have hEb : E ≤ 1099511630336 := by omega
  have HE := Lib.hid hE
  clear hE
  obtain ⟨u4, u5, hat⟩ := h.at_
  have h0 : w.cell? ⟨q, 6, none⟩ = some (.int .u64 S.rd) := by rw [hat.cell]; rfl
  have h1 : w.cell? ⟨q, 7, none⟩ = some (.int .u64 S.hi) := by rw [hat.cell]; rfl
  have h2 : w.cell? ⟨q, 8, none⟩ = some (.int .u64 S.fi) := by rw [hat.cell]; rfl
  have h3 : w.cell? ⟨q, 9, none⟩ = some (.bool S.en) := by rw [hat.cell]; rfl
  clear hat
  have hrd : S.rd ≤ 1099511628288 := by have := hok.rh; have := hok.hm; omega
  have hhi : S.hi ≤ 1099511628288 := hok.hm
  have HNO := Lib.hid NO
  have HEQ := Lib.hid hEQ
  have HE1 := Lib.hid hE1
  have HL := Lib.hid hlen
  have HA0 : Hid (Yl X w w base q O S off bs 0) := Lib.hid ⟨⟨O, by rw [List.take_zero, addG_nil]; exact h, fun j hj => .inl hj⟩, Kept.refl _ _⟩
  have HRD := Lib.hid hr
  have HOK := Lib.hid hok
  have HLT := Lib.hid h.lt
  have HOQ : Hid (O q) := Lib.hid h.own_
  clear h hok hr hEQ NO hE1 hlen
  go_enter Tryz.func45, Tryz.ntmps45
  go_upto_region 4 with fail
  go_cut [58] from 25 to 58 (fun s wx => s = .bool (agB S E fin) ∧ wx = w)
  case first =>
    clear HNO HEQ HE1 HL HA0 HRD HOK HLT HOQ
    obtain ⟨rd, hi, fi, en, g⟩ := S
    simp only at h0 h1 h2 h3 hrd hhi
    cases en <;> cases fin
    · go_wp2_with fail
      go_meet
      exact ⟨by unfold agB; simp, rfl⟩
    · by_cases hc : E < hi
      · have hcz1 : (E : Int) < (hi : Int) := by omega
        go_wp2_with fail
        go_meet
        exact ⟨by unfold agB; simp [hc], rfl⟩
      · have hcz1 : ¬ (E : Int) < (hi : Int) := by omega
        go_wp2_with fail
        go_meet
        exact ⟨by unfold agB; simp [hc], rfl⟩
    · by_cases hc : fi < E
      · have hcz1 : (fi : Int) < (E : Int) := by omega
        go_wp2_with fail
        go_meet
        exact ⟨by unfold agB; simp [hc], rfl⟩
      · have hcz1 : ¬ (fi : Int) < (E : Int) := by omega
        go_wp2_with fail
        go_meet
        exact ⟨by unfold agB; simp [hc], rfl⟩
    · rcases Nat.lt_trichotomy fi E with hc | rfl | hc
      · have hcz1 : (fi : Int) < (E : Int) := by omega
        go_wp2_with fail
        go_meet
        exact ⟨by unfold agB; simp [hc], rfl⟩
      · have hcz1 : ¬ (fi : Int) < (fi : Int) := by omega
        by_cases hc2 : fi < hi
        · have hcz2 : (fi : Int) < (hi : Int) := by omega
          go_wp2_with fail
          go_meet
          exact ⟨by unfold agB; simp [hc2], rfl⟩
        · have hcz2 : ¬ (fi : Int) < (hi : Int) := by omega
          go_wp2_with fail
          go_meet
          exact ⟨by unfold agB; simp [hc2], rfl⟩
      · have hcz1 : ¬ (fi : Int) < (E : Int) := by omega
        have hne : ¬ (E : Int) = (fi : Int) := by omega
        have hnn : ¬ E = fi := by omega
        go_wp2_with fail
        go_meet
        exact ⟨by unfold agB; simp [hnn], rfl⟩
  case rest =>
    obtain ⟨rfl, hwc⟩ := hcut
    rw [hwc]
    clear hwc
    by_cases c3 : agB S E fin = true
    · have he := HE1.out
      rw [if_pos c3] at he
      have HN := Lib.hid (HNO.out (by rw [he]; decide) 0)
      have HE9 := Lib.hid he
      rw [c3]
      clear c3 HE1 HNO HEQ he
      go_wp2
      go_ret
      have h := HN.out
      rw [HE9.out] at h ⊢
      exact h
    have c3' : agB S E fin = false := by simpa using c3
    rw [c3']
    by_cases c4 : S.rd + 2048 < E
    · have he := HE1.out
      rw [if_neg c3, if_pos c4] at he
      have HN := Lib.hid (HNO.out (by rw [he]; decide) 0)
      have HE9 := Lib.hid he
      have hc4z : (S.rd : Int) + 2048 < (E : Int) := by omega
      clear c3 c3' HE1 HNO HEQ he
      go_wp2
      go_ret
      have h := HN.out
      rw [HE9.out] at h ⊢
      exact h
    have he := HE1.out
    rw [if_neg c3, if_neg c4] at he
    have hc4z : ¬ (S.rd : Int) + 2048 < (E : Int) := by omega
    have hR : addR S off bs fin = addS S off bs fin := by unfold addR; rw [if_pos (by rw [← HEQ.out]; exact he)]
    have HR9 := Lib.hid hR
    have HE9 := Lib.hid he
    have HS : Hid (addS S off bs fin = ⟨S.rd, max S.hi E, if fin then E else S.fi, S.en || fin, addG S.g off bs⟩) := Lib.hid (by unfold addS; rw [HL.out, ← HE.out])
    have HBS : Hid (Byt bs) := Lib.hid HRD.out.1.2.1
    clear c3 c3' HE1 HNO HEQ he hR h1 h2 h3
    go_wp2
    clear h0
    go_loopg [10] n (fun kx s10 wr => ∃ i : Nat, s10 = .int .i64 i ∧ i ≤ n ∧ n - i ≤ kx ∧ Hid (Yl X w wr base q O S off bs i))
    case atStart => exact ⟨0, rfl, Nat.zero_le _, Nat.le_refl _, HA0⟩
    case round =>
      clear HA0
      obtain ⟨i, rfl, hin, hkx, hA⟩ := hrel
      by_cases hlt : i < n
      · have hiz : (i : Int) < (n : Int) := by omega
        obtain ⟨vb, vc, B, C, hAc⟩ := hA.out.open_
        have HAC := Lib.hid hAc
        have d0 := hAc.rc.c0
        obtain ⟨T, hT⟩ : ∃ T, T = off + i := ⟨_, rfl⟩
        have hTz : (off : Int) + (i : Int) = (T : Int) := by omega
        have hTb : T ≤ 1099511630336 := by omega
        have HT := Lib.hid hT
        have hTE : T < E := by have := HE.out; omega
        clear hT hAc
        have hwi : IntKind.u64.wrap (i : Int) = (i : Int) := by rw [IntKind.wrap_u64]; omega
        have hwT : IntKind.u64.wrap (T : Int) = (T : Int) := by rw [IntKind.wrap_u64]; omega
        by_cases hTr : T < S.rd
        · have hTrz : (T : Int) < (S.rd : Int) := by omega
          have HNX : Hid (Yl X w wr base q O S off bs (i + 1)) := Lib.hid (by
            have e : addG S.g off (bs.take (i + 1)) = addG S.g off (bs.take i) := addG_skip HOK.out (by have := HT.out; omega) (by rw [HL.out]; exact hlt)
            have := hA.out
            exact ⟨by rw [e]; exact this.bf, this.k⟩)
          clear HAC hA
          go_wp2
          go_roundg (n - (i + 1))
          case measure => omega
          case rel => exact ⟨i + 1, by simp, by omega, Nat.le_refl _, HNX⟩
        · have hTrz : ¬ (T : Int) < (S.rd : Int) := by omega
          obtain ⟨k, hk⟩ : ∃ k, k = T - S.rd := ⟨_, rfl⟩
          have hkz : (T : Int) - (S.rd : Int) = (k : Int) := by omega
          have hkb : k < 2048 := by omega
          have hkT : T = S.rd + k := by omega
          have HKT := Lib.hid hkT
          clear hk hkT
          have hwk : IntKind.u64.wrap (k : Int) = (k : Int) := by rw [IntKind.wrap_u64]; omega
          have hwk2 : IntKind.i64.wrap (k : Int) = (k : Int) := by rw [IntKind.wrap_i64]; omega
          have HIN : Hid (∃ vb vc B C, Yc X w wr base q O S off bs i vb vc B C) := Lib.hid ⟨vb, vc, B, C, HAC.out⟩
          clear hA
          go_wp2
          clear HAC d0
          have hms := Nat.lt_of_lt_of_le (show n - (i + 1) < n - i by omega) hkx
          go_loopg [89] (k + 1) (fun kx s89 wr => ∃ vb vc B C, k + 1 - C.length ≤ kx ∧ Hid (Yc X w wr base q O S off bs i vb vc B C))
          case atStart =>
            obtain ⟨vb, vc, B, C, h⟩ := HIN.out
            exact ⟨vb, vc, B, C, by omega, Lib.hid h⟩
          case round =>
            clear HIN
            obtain ⟨vb, vc, B, C, hkx2, hAc⟩ := hrel
            have hc := hAc.out.rc
            have e5 := hc.c5
            have hwl := hc.rm.wl
            have hBl := hc.rm.len
            obtain ⟨AB, cB, eB, hnB, hmB, _⟩ := ow_open (own_ow hc.ob)
            obtain ⟨AC, cC, eC, hnC, hmC, _⟩ := ow_open hc.oc
            rw [List.length_map] at eB hnB eC hnC
            rw [← hBl] at eB hnB
            subst eB; subst eC
            have HC := Lib.hid hc
            obtain ⟨m, hm⟩ : ∃ m, m = C.length := ⟨_, rfl⟩
            have HM := Lib.hid hm
            rw [← hm] at e5 hnB hnC hwl hkx2
            have hAc2 : Hid (Yc X w wr base q O S off bs i (.slice AB m cB) (.slice AC m cC) B C) := Lib.hid (by rw [hm]; exact hAc.out)
            have hc2 : Hid (Rk X wr base q (.slice AB m cB) (.slice AC m cC) B C ⟨S.rd, S.hi, S.fi, S.en, addG S.g off (bs.take i)⟩) := Lib.hid hAc2.out.rc
            have HBL : Hid (B.length = m) := Lib.hid (by rw [← hBl, hm])
            clear hc hAc hm hBl HC
            have hcmB : cB ≤ 9223372036854775807 := by unfold maxLen at hmB; omega
            have hcmC : cC ≤ 9223372036854775807 := by unfold maxLen at hmC; omega
            by_cases hmk : m ≤ k
            · have hmz : (m : Int) ≤ (k : Int) := by omega
              have hms3 := Nat.lt_of_lt_of_le (show k + 1 - (m + 1) < k + 1 - m by omega) hkx2
              go_wp2_with fail
              have HACY : Hid (Yc X w wr.drew base q O S off bs i (.slice AB m cB) (.slice AC m cC) B C) := Lib.hid hAc2.out.drew
              have HRY := Lib.hid HACY.out.rc
              generalize hY0 : wr.drew = Y at HACY HRY
              have HATY : Hid (∀ W, Kept (fun b => (Value.slice AB m cB).ownBlock = some b ∨ (Value.slice AC m cC).ownBlock = some b) Y W → At W q 56 (rxL X [.int .u64 S.rd, .int .u64 S.hi, .int .u64 S.fi, .bool S.en, .slice AB m cB, .slice AC m cC])) := Lib.hid (fun W k => HRY.out.at_.kept k fun e => e.elim HRY.out.n1 HRY.out.n2)
              have HLD : Hid (∀ W, Kept (fun b => (Value.slice AB m cB).ownBlock = some b ∨ (Value.slice AC m cC).ownBlock = some b) Y W → (fun W => W.cell? ⟨q, 10, none⟩ = some (.slice AB m cB) ∧ W.cell? ⟨q, 11, none⟩ = some (.slice AC m cC)) W) := Lib.hid (fun W hW => by have := HATY.out W hW; exact ⟨by rw [this.cell]; rfl, by rw [this.cell]; rfl⟩)
              have hS0 : St2 base Y Y (.slice AB m cB) (.slice AC m cC) (.slice AB m cB) (B.map (Value.int .u8)) (.slice AC m cC) (C.map Value.bool) none none := St2.start (own_ow HRY.out.ob) HRY.out.oc HRY.out.n3
              have hHeld : (fun W => W.cell? ⟨q, 10, none⟩ = some (.slice AB m cB) ∧ W.cell? ⟨q, 11, none⟩ = some (.slice AC m cC)) Y := HLD.out _ (Kept.refl _ _)
              have hbY : base ≤ Y.heap.size := Nat.le_trans hb HACY.out.k.size
              have HLB : Hid ((B.map (Value.int .u8)).length = m) := Lib.hid (by rw [List.length_map]; exact HBL.out)
              have HLC : Hid ((C.map Value.bool).length = m) := Lib.hid (by rw [List.length_map]; exact HM.out.symm)
              have HPD : Hid (∀ (A1 A2 : Option Addr) (c1 c2 : Nat) (W : World), St2 base Y W (.slice AB m cB) (.slice AC m cC) (.slice A1 (m + 1) c1) (B.map (Value.int .u8) ++ [.int .u8 0]) (.slice A2 (m + 1) c2) (C.map Value.bool ++ [.bool false]) none none → St2 base Y W (.slice AB m cB) (.slice AC m cC) (.slice A1 (m + 1) c1) (B.map (Value.int .u8) ++ [.int .u8 0]) (.slice A2 (m + 1) c2) (C.map Value.bool ++ [.bool false]) none none) := Lib.hid (fun _ _ _ _ _ h => h)
              clear hAc2 hc2 e5
              refine wp_region_tail (S := (fun W => W.cell? ⟨q, 10, none⟩ = some (.slice AB m cB) ∧ W.cell? ⟨q, 11, none⟩ = some (.slice AC m cC))) (D := 16) (by kernel_rfl) ?_
              rw [hY0]
              clear hY0
              refine tail_pure 0 (some 96) (v := ?_) rfl (Or.inl ⟨by rfl, ?_⟩) (fun _ => hHeld) ?_
              rotate_left
              · intro w hSw; (try dsimp only at hSw); go_simp; first | done | (with_reducible rfl)
              simp only [Act.put, List.setIfInBounds_toArray, List.set_cons_zero, List.set_cons_succ]
              refine tail_pure 1 (some 97) (v := ?_) rfl (Or.inl ⟨by rfl, ?_⟩) (fun _ => hHeld) ?_
              rotate_left
              · intro w hSw; (try dsimp only at hSw); go_simp; first | done | (with_reducible rfl)
              simp only [Act.put, List.setIfInBounds_toArray, List.set_cons_zero, List.set_cons_succ]
              refine tail_pure 2 (some 98) (v := ?_) rfl (Or.inl ⟨by rfl, ?_⟩) (fun _ => hHeld) ?_
              rotate_left
              · intro w hSw; (try dsimp only at hSw); go_simp; first | done | (with_reducible rfl)
              simp only [Act.put, List.setIfInBounds_toArray, List.set_cons_zero, List.set_cons_succ]
              refine tail_pure 3 (some 99) (v := ?_) rfl (Or.inl ⟨by rfl, ?_⟩) (fun _ => hHeld) ?_
              rotate_left
              · intro w hSw; (try dsimp only at hSw); go_simp; first | done | (with_reducible rfl)
              simp only [Act.put, List.setIfInBounds_toArray, List.set_cons_zero, List.set_cons_succ]
              refine tail_pure 4 (some 100) (v := ?_) rfl (Or.inl ⟨by rfl, ?_⟩) (fun _ => hHeld) ?_
              rotate_left
              · intro w hSw; (try dsimp only at hSw); go_simp; first | done | (with_reducible rfl)
              simp only [Act.put, List.setIfInBounds_toArray, List.set_cons_zero, List.set_cons_succ]
              refine tail_load 5 (some 101) [7, 16] (v := ?_) rfl (Or.inl ⟨by rfl, ?_⟩) hHeld ?_
              rotate_left
              · intro w hSw; (try dsimp only at hSw); go_simp; first | done | (with_reducible rfl)
              simp only [Act.put, List.setIfInBounds_toArray, List.set_cons_zero, List.set_cons_succ]
              refine tail_pure 8 (some 104) (v := ?_) rfl (Or.inl ⟨by rfl, ?_⟩) (fun _ => hHeld) ?_
              rotate_left
              · intro w hSw; (try dsimp only at hSw); go_simp; first | done | (with_reducible rfl)
              simp only [Act.put, List.setIfInBounds_toArray, List.set_cons_zero, List.set_cons_succ]
              refine tail_pure 9 (some 105) (v := ?_) rfl (Or.inl ⟨by rfl, ?_⟩) (fun _ => hHeld) ?_
              rotate_left
              · intro w hSw; (try dsimp only at hSw); go_simp; first | done | (with_reducible rfl)
              simp only [Act.put, List.setIfInBounds_toArray, List.set_cons_zero, List.set_cons_succ]
              refine tail_pure 10 (some 106) (v := ?_) rfl (Or.inl ⟨by rfl, ?_⟩) (fun _ => hHeld) ?_
              rotate_left
              · intro w hSw; (try dsimp only at hSw); go_simp; first | done | (with_reducible rfl)
              simp only [Act.put, List.setIfInBounds_toArray, List.set_cons_zero, List.set_cons_succ]
              refine tail_load 11 (some 107) [13, 16] (v := ?_) rfl (Or.inl ⟨by rfl, ?_⟩) hHeld ?_
              rotate_left
              · intro w hSw; (try dsimp only at hSw); go_simp; first | done | (with_reducible rfl)
              simp only [Act.put, List.setIfInBounds_toArray, List.set_cons_zero, List.set_cons_succ]
              refine wpTail.ready (rs := [6, 12]) (by kernel_rfl) (by simp) ?_
              refine AllTail.cons rfl (fun K hK => ?_) (AllTail.cons rfl (fun K hK => ?_) (AllTail.nil))
              · go_simp
                go_wp2_with (fail)
                have hS1 := hS0.b2
                obtain ⟨z1, hz1⟩ : ∃ g, Y.heap.size = g := ⟨_, rfl⟩
                rw [hz1] at hS1 ⊢
                generalize hW1 : Y.alloc (.cells #[.bool false] 4) = W1 at hS1 ⊢
                clear hW1 hz1
                refine hK.out _ _ (HLD.out _ hS1.k) (fun hHeld => ?_)
                clear hK K
                refine wpTail.ready (rs := [7, 12]) (by kernel_rfl) (by simp) ?_
                refine AllTail.cons rfl (fun K hK => ?_) (AllTail.cons rfl (fun K hK => ?_) (AllTail.nil))
                · refine hS1.a2 (Nat.le_trans hbY hS1.k.size) rfl (.tmp 101) (.tmp 102) rfl (by simp [Act.eval, Act.put]) (by simp [Act.eval, Act.put]) (by rw [HLC.out]; omega) (m + 1) (by rw [HLC.out]) ?_
                  intro A2 c2 W2 hS2
                  refine hK.out _ _ (HLD.out _ hS2.k) (fun hHeld => ?_)
                  clear hK K
                  refine wpTail.ready (rs := [12]) (by kernel_rfl) (by simp) ?_
                  refine AllTail.cons rfl (fun K hK => ?_) (AllTail.nil)
                  · go_simp
                    go_wp2_with (fail)
                    have hS3 := hS2.b1
                    obtain ⟨z3, hz3⟩ : ∃ g, W2.heap.size = g := ⟨_, rfl⟩
                    rw [hz3] at hS3 ⊢
                    generalize hW3 : W2.alloc (.cells #[.int .u8 0] 5) = W3 at hS3 ⊢
                    clear hW3 hz3
                    refine hK.out _ _ (HLD.out _ hS3.k) (fun hHeld => ?_)
                    clear hK K
                    refine wpTail.ready (rs := [13]) (by kernel_rfl) (by simp) ?_
                    refine AllTail.cons rfl (fun K hK => ?_) (AllTail.nil)
                    · refine hS3.a1 (Nat.le_trans hbY hS3.k.size) rfl (.tmp 107) (.tmp 108) rfl (by simp [Act.eval, Act.put]) (by simp [Act.eval, Act.put]) (by rw [HLB.out]; omega) (m + 1) (by rw [HLB.out]) ?_
                      intro A1 c1 W4 hS4
                      refine hK.out _ _ (HLD.out _ hS4.k) (fun hHeld => ?_)
                      clear hK K
                      refine tail_pure 14 (some 110) (v := ?_) rfl (Or.inl ⟨by rfl, ?_⟩) (fun _ => hHeld) ?_
                      rotate_left
                      · intro w hSw; (try dsimp only at hSw); go_simp; first | done | (with_reducible rfl)
                      simp only [Act.put, List.setIfInBounds_toArray, List.set_cons_zero, List.set_cons_succ]
                      refine tail_pure 15 (some 111) (v := ?_) rfl (Or.inl ⟨by rfl, ?_⟩) (fun _ => hHeld) ?_
                      rotate_left
                      · intro w hSw; (try dsimp only at hSw); go_simp; first | done | (with_reducible rfl)
                      simp only [Act.put, List.setIfInBounds_toArray, List.set_cons_zero, List.set_cons_succ]
                      refine wpTail.ready (rs := [16]) (by kernel_rfl) (by simp) ?_
                      refine AllTail.late rfl (by kernel_rfl) (fun K hK => ?_) AllTail.nil
                      have hq5 := HATY.out _ hS4.k
                      have lq4 := hq5.cell 10
                      have lq5 := hq5.cell 11
                      have fq4 := hq5.frozen 10
                      have fq5 := hq5.frozen 11
                      simp [rxL] at lq4 lq5
                      go_simp
                      go_wp2_with (fail)
                      refine hK.out _ _ ?_
                      clear hK K
                      refine tail_late 17 (some 112) (v := ?_) rfl (Or.inl ⟨by rfl, ?_⟩) ?_
                      rotate_left
                      · intro w hSw; (try dsimp only at hSw); go_simp; first | done | (with_reducible rfl)
                      simp only [Act.put, List.setIfInBounds_toArray, List.set_cons_zero, List.set_cons_succ]
                      refine tail_late 18 (some 113) (v := ?_) rfl (Or.inl ⟨by rfl, ?_⟩) ?_
                      rotate_left
                      · intro w hSw; (try dsimp only at hSw); go_simp; first | done | (with_reducible rfl)
                      simp only [Act.put, List.setIfInBounds_toArray, List.set_cons_zero, List.set_cons_succ]
                      refine wpTail.ready (rs := [19]) (by kernel_rfl) (by simp) ?_
                      refine AllTail.late rfl (by kernel_rfl) (fun K hK => ?_) AllTail.nil
                      go_simp
                      go_wp2_with (fail)
                      refine hK.out _ _ ?_
                      clear hK K
                      refine wpTail.done (by kernel_rfl) ?_ _
                      have hpd := HRY.out.pad (by rw [← HM.out]; omega) (HPD.out _ _ _ _ _ hS4)
                      have HNX := Lib.hid (HACY.out.step (i' := i) hpd.1 hpd.2.1 hpd.2.2)
                      clear hpd
                      go_wp2_with fail
                      go_roundg (k + 1 - (m + 1))
                      case measure => exact hms3
                      case rel => exact ⟨_, _, _, _, by rw [List.length_append, ← HM.out]; exact Nat.le_refl _, HNX⟩
                · go_simp
                  go_wp2_with (fail)
                  have hS5 := hS1.b1
                  obtain ⟨z5, hz5⟩ : ∃ g, W1.heap.size = g := ⟨_, rfl⟩
                  rw [hz5] at hS5 ⊢
                  generalize hW5 : W1.alloc (.cells #[.int .u8 0] 5) = W5 at hS5 ⊢
                  clear hW5 hz5
                  refine hK.out _ _ (HLD.out _ hS5.k) (fun hHeld => ?_)
                  clear hK K
                  refine wpTail.ready (rs := [7]) (by kernel_rfl) (by simp) ?_
                  refine AllTail.cons rfl (fun K hK => ?_) (AllTail.nil)
                  · refine hS5.a2 (Nat.le_trans hbY hS5.k.size) rfl (.tmp 101) (.tmp 102) rfl (by simp [Act.eval, Act.put]) (by simp [Act.eval, Act.put]) (by rw [HLC.out]; omega) (m + 1) (by rw [HLC.out]) ?_
                    intro A2 c2 W6 hS6
                    refine hK.out _ _ (HLD.out _ hS6.k) (fun hHeld => ?_)
                    clear hK K
                    refine wpTail.ready (rs := [13]) (by kernel_rfl) (by simp) ?_
                    refine AllTail.cons rfl (fun K hK => ?_) (AllTail.nil)
                    · refine hS6.a1 (Nat.le_trans hbY hS6.k.size) rfl (.tmp 107) (.tmp 108) rfl (by simp [Act.eval, Act.put]) (by simp [Act.eval, Act.put]) (by rw [HLB.out]; omega) (m + 1) (by rw [HLB.out]) ?_
                      intro A1 c1 W7 hS7
                      refine hK.out _ _ (HLD.out _ hS7.k) (fun hHeld => ?_)
                      clear hK K
                      refine tail_pure 14 (some 110) (v := ?_) rfl (Or.inl ⟨by rfl, ?_⟩) (fun _ => hHeld) ?_
                      rotate_left
                      · intro w hSw; (try dsimp only at hSw); go_simp; first | done | (with_reducible rfl)
                      simp only [Act.put, List.setIfInBounds_toArray, List.set_cons_zero, List.set_cons_succ]
                      refine tail_pure 15 (some 111) (v := ?_) rfl (Or.inl ⟨by rfl, ?_⟩) (fun _ => hHeld) ?_
                      rotate_left
                      · intro w hSw; (try dsimp only at hSw); go_simp; first | done | (with_reducible rfl)
                      simp only [Act.put, List.setIfInBounds_toArray, List.set_cons_zero, List.set_cons_succ]
                      refine wpTail.ready (rs := [16]) (by kernel_rfl) (by simp) ?_
                      refine AllTail.late rfl (by kernel_rfl) (fun K hK => ?_) AllTail.nil
                      have hq5 := HATY.out _ hS7.k
                      have lq4 := hq5.cell 10
                      have lq5 := hq5.cell 11
                      have fq4 := hq5.frozen 10
                      have fq5 := hq5.frozen 11
                      simp [rxL] at lq4 lq5
                      go_simp
                      go_wp2_with (fail)
                      refine hK.out _ _ ?_
                      clear hK K
                      refine tail_late 17 (some 112) (v := ?_) rfl (Or.inl ⟨by rfl, ?_⟩) ?_
                      rotate_left
                      · intro w hSw; (try dsimp only at hSw); go_simp; first | done | (with_reducible rfl)
                      simp only [Act.put, List.setIfInBounds_toArray, List.set_cons_zero, List.set_cons_succ]
                      refine tail_late 18 (some 113) (v := ?_) rfl (Or.inl ⟨by rfl, ?_⟩) ?_
                      rotate_left
                      · intro w hSw; (try dsimp only at hSw); go_simp; first | done | (with_reducible rfl)
                      simp only [Act.put, List.setIfInBounds_toArray, List.set_cons_zero, List.set_cons_succ]
                      refine wpTail.ready (rs := [19]) (by kernel_rfl) (by simp) ?_
                      refine AllTail.late rfl (by kernel_rfl) (fun K hK => ?_) AllTail.nil
                      go_simp
                      go_wp2_with (fail)
                      refine hK.out _ _ ?_
                      clear hK K
                      refine wpTail.done (by kernel_rfl) ?_ _
                      have hpd := HRY.out.pad (by rw [← HM.out]; omega) (HPD.out _ _ _ _ _ hS7)
                      have HNX := Lib.hid (HACY.out.step (i' := i) hpd.1 hpd.2.1 hpd.2.2)
                      clear hpd
                      go_wp2_with fail
                      go_roundg (k + 1 - (m + 1))
                      case measure => exact hms3
                      case rel => exact ⟨_, _, _, _, by rw [List.length_append, ← HM.out]; exact Nat.le_refl _, HNX⟩
              · go_simp
                go_wp2_with (fail)
                have hS8 := hS0.b1
                obtain ⟨z8, hz8⟩ : ∃ g, Y.heap.size = g := ⟨_, rfl⟩
                rw [hz8] at hS8 ⊢
                generalize hW8 : Y.alloc (.cells #[.int .u8 0] 5) = W8 at hS8 ⊢
                clear hW8 hz8
                refine hK.out _ _ (HLD.out _ hS8.k) (fun hHeld => ?_)
                clear hK K
                refine wpTail.ready (rs := [6]) (by kernel_rfl) (by simp) ?_
                refine AllTail.cons rfl (fun K hK => ?_) (AllTail.nil)
                · go_simp
                  go_wp2_with (fail)
                  have hS9 := hS8.b2
                  obtain ⟨z9, hz9⟩ : ∃ g, W8.heap.size = g := ⟨_, rfl⟩
                  rw [hz9] at hS9 ⊢
                  generalize hW9 : W8.alloc (.cells #[.bool false] 4) = W9 at hS9 ⊢
                  clear hW9 hz9
                  refine hK.out _ _ (HLD.out _ hS9.k) (fun hHeld => ?_)
                  clear hK K
                  refine wpTail.ready (rs := [7]) (by kernel_rfl) (by simp) ?_
                  refine AllTail.cons rfl (fun K hK => ?_) (AllTail.nil)
                  · refine hS9.a2 (Nat.le_trans hbY hS9.k.size) rfl (.tmp 101) (.tmp 102) rfl (by simp [Act.eval, Act.put]) (by simp [Act.eval, Act.put]) (by rw [HLC.out]; omega) (m + 1) (by rw [HLC.out]) ?_
                    intro A2 c2 W10 hS10
                    refine hK.out _ _ (HLD.out _ hS10.k) (fun hHeld => ?_)
                    clear hK K
                    refine wpTail.ready (rs := [13]) (by kernel_rfl) (by simp) ?_
                    refine AllTail.cons rfl (fun K hK => ?_) (AllTail.nil)
                    · refine hS10.a1 (Nat.le_trans hbY hS10.k.size) rfl (.tmp 107) (.tmp 108) rfl (by simp [Act.eval, Act.put]) (by simp [Act.eval, Act.put]) (by rw [HLB.out]; omega) (m + 1) (by rw [HLB.out]) ?_
                      intro A1 c1 W11 hS11
                      refine hK.out _ _ (HLD.out _ hS11.k) (fun hHeld => ?_)
                      clear hK K
                      refine tail_pure 14 (some 110) (v := ?_) rfl (Or.inl ⟨by rfl, ?_⟩) (fun _ => hHeld) ?_
                      rotate_left
                      · intro w hSw; (try dsimp only at hSw); go_simp; first | done | (with_reducible rfl)
                      simp only [Act.put, List.setIfInBounds_toArray, List.set_cons_zero, List.set_cons_succ]
                      refine tail_pure 15 (some 111) (v := ?_) rfl (Or.inl ⟨by rfl, ?_⟩) (fun _ => hHeld) ?_
                      rotate_left
                      · intro w hSw; (try dsimp only at hSw); go_simp; first | done | (with_reducible rfl)
                      simp only [Act.put, List.setIfInBounds_toArray, List.set_cons_zero, List.set_cons_succ]
                      refine wpTail.ready (rs := [16]) (by kernel_rfl) (by simp) ?_
                      refine AllTail.late rfl (by kernel_rfl) (fun K hK => ?_) AllTail.nil
                      have hq5 := HATY.out _ hS11.k
                      have lq4 := hq5.cell 10
                      have lq5 := hq5.cell 11
                      have fq4 := hq5.frozen 10
                      have fq5 := hq5.frozen 11
                      simp [rxL] at lq4 lq5
                      go_simp
                      go_wp2_with (fail)
                      refine hK.out _ _ ?_
                      clear hK K
                      refine tail_late 17 (some 112) (v := ?_) rfl (Or.inl ⟨by rfl, ?_⟩) ?_
                      rotate_left
                      · intro w hSw; (try dsimp only at hSw); go_simp; first | done | (with_reducible rfl)
                      simp only [Act.put, List.setIfInBounds_toArray, List.set_cons_zero, List.set_cons_succ]
                      refine tail_late 18 (some 113) (v := ?_) rfl (Or.inl ⟨by rfl, ?_⟩) ?_
                      rotate_left
                      · intro w hSw; (try dsimp only at hSw); go_simp; first | done | (with_reducible rfl)
                      simp only [Act.put, List.setIfInBounds_toArray, List.set_cons_zero, List.set_cons_succ]
                      refine wpTail.ready (rs := [19]) (by kernel_rfl) (by simp) ?_
                      refine AllTail.late rfl (by kernel_rfl) (fun K hK => ?_) AllTail.nil
                      go_simp
                      go_wp2_with (fail)
                      refine hK.out _ _ ?_
                      clear hK K
                      refine wpTail.done (by kernel_rfl) ?_ _
                      have hpd := HRY.out.pad (by rw [← HM.out]; omega) (HPD.out _ _ _ _ _ hS11)
                      have HNX := Lib.hid (HACY.out.step (i' := i) hpd.1 hpd.2.1 hpd.2.2)
                      clear hpd
                      go_wp2_with fail
                      go_roundg (k + 1 - (m + 1))
                      case measure => exact hms3
                      case rel => exact ⟨_, _, _, _, by rw [List.length_append, ← HM.out]; exact Nat.le_refl _, HNX⟩
            · have hmz : ¬ (m : Int) ≤ (k : Int) := by omega
              have hkm : (k : Int) < (m : Int) := by omega
              obtain ⟨g2, c2', eq2, hcel⟩ := hc2.out.bool (i := k) (by rw [← HM.out]; omega)
              rw [← HM.out] at eq2
              injection eq2 with eq2 _ eq3
              subst eq2; subst eq3
              have hnx : ∀ p, S.rd ≤ p → addG S.g off (bs.take (i + 1)) p = if p = S.rd + k then (addG S.g off (bs.take i) p).or (some (bs.getD i 0)) else addG S.g off (bs.take i) p := fun p _ => by
                rw [addG_next S.g off i bs p (by rw [HL.out]; exact hlt), show off + i = S.rd + k by have := HT.out; have := HKT.out; omega]
              cases hck : C.getD k false with
              | true =>
                rw [hck] at hcel
                have HNX : Hid (Yl X w wr base q O S off bs (i + 1)) := Lib.hid (by
                  have h1 := hc2.out
                  exact (hAc2.out.step (i' := i + 1) (vb' := .slice AB m cB) (vc' := .slice (some ⟨g2, 0, none⟩) m cC) (B' := B) (C' := C) { h1 with rm := h1.rm.stay hck hnx } (Kept.refl _ _) (fun j hj => .inl hj)).al)
                clear hnx hc2 hAc2
                go_wp2_with fail
                go_roundg (n - (i + 1))
                case measure => exact hms
                case rel => exact ⟨i + 1, by simp, by omega, Nat.le_refl _, HNX⟩
              | false =>
                rw [hck] at hcel
                obtain ⟨g1, cB', curB, eq1, _, _, hA1, _, _, _, _⟩ := own_some hc2.out.ob (by rw [HBL.out]; omega)
                rw [HBL.out] at eq1
                injection eq1 with eq1 _ eq4
                subst eq1; subst eq4
                have hpk := hc2.out.poke HM.out.symm (by omega) hck (HBS.out.getD i) hnx
                have HNX : Hid (Yl X w ((wr.setCell ⟨g2, k, none⟩ (.bool true)).setCell ⟨g1, k, none⟩ (.int .u8 (bs.getD i 0))) base q O S off bs (i + 1)) := Lib.hid (hAc2.out.step hpk.1 hpk.2 (fun j hj => .inl hj)).al
                obtain ⟨ab, ao, eA, hab, hcd⟩ := HRD.out.1.2.2 (by omega)
                subst eA
                have hx0 := (HRD.out.kept hAc2.out.k (fun b hb => hb)).1.2.2 (by omega)
                obtain ⟨ab', ao', eA', _, hcd'⟩ := hx0
                injection eA' with eA'
                injection eA' with eA1 eA2
                subst eA1; subst eA2
                have hx := hcd' i hlt
                have nO : ¬ O ab := HRD.out.2 ab ao (by omega) rfl
                have n1 : g1 ≠ ab := fun e => (hAc2.out.o g1 (.inr (.inl rfl))).elim (fun h => nO (e ▸ h)) fun h => by omega
                have n2 : g2 ≠ ab := fun e => (hAc2.out.o g2 (.inr (.inr rfl))).elim (fun h => nO (e ▸ h)) fun h => by omega
                have n3 : g1 ≠ q := fun e => hc2.out.n1 (by rw [← e]; rfl)
                have n4 : g2 ≠ q := fun e => hc2.out.n2 (by rw [← e]; rfl)
                have n5 : g2 ≠ g1 := fun e => hc2.out.n3 g1 rfl (by rw [← e]; rfl)
                have e4 := hc2.out.c4
                have f2 : wr.frozen? ⟨g2, k, none⟩ = false := by
                  obtain ⟨A', c', e, _, _, ho⟩ := ow_open hc2.out.oc
                  injection e with e _ _
                  rcases ho with ⟨h, _⟩ | ⟨g', cur', h, _, _, hA', _⟩
                  · rw [← e] at h; cases h
                  · rw [← e] at h
                    injection h with h
                    injection h with h
                    rw [h]
                    exact hA'.frozen k
                have f1 := hA1.frozen k
                have hB1 : ∃ y, wr.cell? ⟨g1, k, none⟩ = some (.int .u8 y) := by
                  have := (Own.open_n hc2.out.ob m HBL.out)
                  obtain ⟨A', c', e, _, _, hR⟩ := this
                  injection e with e _ _
                  subst e
                  obtain ⟨b', o', e', _, hcc⟩ := hR.2.2 (by omega)
                  injection e' with e'
                  injection e' with e1 e2
                  subst e1; subst e2
                  have := hcc k (by omega)
                  rw [Nat.zero_add] at this
                  exact ⟨_, this⟩
                obtain ⟨y0, hy0⟩ := hB1
                obtain ⟨x, hxx⟩ : ∃ x, bs.getD i 0 = x := ⟨_, rfl⟩
                rw [hxx] at hx HNX
                have HXX := Lib.hid hxx
                clear hxx hnx hc2 hAc2 hpk hcd hcd' hA1 hab
                have hcd0 : (i : Int) < (n : Int) := hiz
                go_wp2_with fail
                go_region_held3 (fun W => W.cell? ⟨q, 11, none⟩ = some (.slice (some ⟨g2, 0, none⟩) m cC) ∧ W.cell? ⟨q, 10, none⟩ = some (.slice (some ⟨g1, 0, none⟩) m cB) ∧ W.cell? ⟨ab, ao + i, none⟩ = some (.int .u8 x)) (go_keep) (fail)
                all_goals go_wp2_with fail
                go_roundg (n - (i + 1))
                case measure => exact hms
                case rel => exact ⟨i + 1, by simp, by omega, Nat.le_refl _, Lib.hid HNX.out.drew⟩
      · obtain rfl : i = n := by omega
        have hiz : ¬ (i : Int) < (i : Int) := by omega
        have hB : Hid (∃ O', Rj X wr base q O' ⟨S.rd, S.hi, S.fi, S.en, addG S.g off bs⟩ ∧ Kept O w wr ∧ ∀ j, O' j → O j ∨ w.heap.size ≤ j) := Lib.hid (by
          obtain ⟨⟨O', h1, h2⟩, h3⟩ := hA.out
          rw [List.take_of_length_le (by rw [HL.out]; exact Nat.le_refl _)] at h1
          exact ⟨O', h1, h3, h2⟩)
        obtain ⟨O2, hB2, hK2, hO2⟩ := hB.out
        obtain ⟨u6, u7, ha2⟩ := hB2.at_
        have d1 : wr.cell? ⟨q, 7, none⟩ = some (.int .u64 S.hi) := by rw [ha2.cell]; rfl
        have d2 : wr.cell? ⟨q, 8, none⟩ = some (.int .u64 S.fi) := by rw [ha2.cell]; rfl
        have d3 : wr.cell? ⟨q, 9, none⟩ = some (.bool S.en) := by rw [ha2.cell]; rfl
        have f1 := ha2.frozen 7
        have f2 := ha2.frozen 8
        have f3 := ha2.frozen 9
        have HB := Lib.hid hB2
        have HK := Lib.hid hK2
        have HO2 := Lib.hid hO2
        clear hA hB hB2 hK2 hO2 ha2
        rcases Nat.lt_or_ge S.hi E with hmm | hmm
        · have hmx : max S.hi E = E := by omega
          rw [hmx] at HS
          have hmz : (S.hi : Int) < (E : Int) := by omega
          clear hmx hmm
          cases fin
          · have HS2 : Hid (addS S off bs false = ⟨S.rd, E, S.fi, S.en, addG S.g off bs⟩) := Lib.hid (by rw [HS.out]; simp)
            go_wp2
            go_ret
            have hb2 := (HB.out.puthi E)
            rw [HE9.out, HR9.out]
            refine ⟨rfl, O2, ?_, (HK.out.setCell (p := ⟨q, 7, none⟩) (.inl HOQ.out) (.int .u64 E)), HO2.out⟩
            rw [HS2.out]
            exact hb2
          · have HS2 : Hid (addS S off bs true = ⟨S.rd, E, E, true, addG S.g off bs⟩) := Lib.hid (by rw [HS.out]; simp)
            go_wp2
            go_ret
            have hb2 := (((HB.out.puthi E).putfi E).puten true)
            rw [HE9.out, HR9.out]
            refine ⟨rfl, O2, ?_, (((HK.out.setCell (p := ⟨q, 7, none⟩) (.inl HOQ.out) (.int .u64 E)).setCell (p := ⟨q, 8, none⟩) (.inl HOQ.out) (.int .u64 E)).setCell (p := ⟨q, 9, none⟩) (.inl HOQ.out) (.bool true)), HO2.out⟩
            rw [HS2.out]
            exact hb2
        · have hmx : max S.hi E = S.hi := by omega
          rw [hmx] at HS
          have hmz : ¬ (S.hi : Int) < (E : Int) := by omega
          clear hmx
          cases fin
          · have HS2 : Hid (addS S off bs false = ⟨S.rd, S.hi, S.fi, S.en, addG S.g off bs⟩) := Lib.hid (by rw [HS.out]; simp)
            go_wp2
            go_ret
            have hb2 := (HB.out.puthi S.hi)
            rw [HE9.out, HR9.out]
            refine ⟨rfl, O2, ?_, (HK.out.setCell (p := ⟨q, 7, none⟩) (.inl HOQ.out) (.int .u64 S.hi)), HO2.out⟩
            rw [HS2.out]
            exact hb2
          · have HS2 : Hid (addS S off bs true = ⟨S.rd, S.hi, E, true, addG S.g off bs⟩) := Lib.hid (by rw [HS.out]; simp)
            go_wp2
            go_ret
            have hb2 := (((HB.out.puthi S.hi).putfi E).puten true)
            rw [HE9.out, HR9.out]
            refine ⟨rfl, O2, ?_, (((HK.out.setCell (p := ⟨q, 7, none⟩) (.inl HOQ.out) (.int .u64 S.hi)).setCell (p := ⟨q, 8, none⟩) (.inl HOQ.out) (.int .u64 E)).setCell (p := ⟨q, 9, none⟩) (.inl HOQ.out) (.bool true)), HO2.out⟩
            rw [HS2.out]
            exact hb2
end
end Go.Proofs.YtphpdaldplkgmaaGreat
