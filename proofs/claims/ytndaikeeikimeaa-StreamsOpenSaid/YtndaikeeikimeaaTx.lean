/-
  streams.Set: take.
-/
import Derived.Test.YtndaikeeikimeaaMq23
import Derived.Test.YtndaikeeikimeaaMq19
import Derived.Test.YtndaikeeikimeaaTt
import Derived.Test.YtndaikeeikimeaaMq21
import Derived.Test.YtndaikeeikimeaaMq9
import Derived.Deep.Cut
import Derived.Deep.CutRange
namespace Go.Proofs.Ytndaikeeikimeaa
set_option linter.unusedVariables false
set_option linter.unusedSimpArgs false
open Go.RowKit
/-- What may still come of all. -/
def leftS (lim got : Nat) : Nat := (lim + (18446744073709551616 - got)) % 18446744073709551616
def flowB (T : TS) (lim got en : Nat) : Bool := decide (T.r.st = 1 ∧ highQ T.r < en ∧ leftS lim got < en - highQ T.r)
/-- What came and was not read, behind a frame that was let by. -/
def cameT (T : TS) (r' : QS) (k : Int) (o en : Nat) : TS := { T with r := r', cb := takenQ r', cz := (if k = 8 then addM T.cb T.cz o en else T.cz).drop (takenQ r' - T.cb) }
def tkE (T : TS) (lim got en : Nat) (m : FN) (n : Nat) : Int := if flowB T lim got en = true then 3 else if onE T.r m n = 23 then 3 else if onE T.r m n = 30 then 6 else 0
def tkX (T : TS) (lim got en : Nat) (m : FN) (bs : List Int) : TS := if flowB T lim got en = true then T else if onE T.r m bs.length = 0 then cameT T (onX T.r m bs) m.k m.o.toNat en else T
theorem onX_ok18 {X : QS} (h : X.ok) (m : FN) (bs : List Int) (hm : m.wf) (hb : Byt bs) : (onX X m bs).ok := by
  have c0 := hm.c0
  have c1 := hm.c1
  unfold onX
  split
  · split
    · exact onSX_ok h _ _ _ hb
    · split
      · exact onRX_ok h _ _ (by omega)
      · exact h
  · exact h
theorem onX_no {Q : QS} {m : FN} {bs : List Int} (h : onE Q m bs.length ≠ 0) : onX Q m bs = Q := by
  unfold onE at h
  unfold onX
  split
  · rename_i hs
    rw [if_pos hs] at h
    split
    · rename_i h8
      rw [if_pos h8] at h
      unfold onSX
      rw [if_neg fun hh => h hh.1]
    · rename_i h8
      rw [if_neg h8] at h
      split
      · rename_i h4
        rw [if_pos h4] at h
        unfold onRX
        rw [if_neg fun hh => h hh.1]
      · rfl
  · rfl
section
variable {w0 W W' wr : World} {s x q p : Nat} {v0 v1 va vc : Value} {E0 E1 : List En} {X : XS} {T : TS} {Oq Op : Nat → Prop}
theorem Sq.below (h : Sq w0 W x q p Oq Op va vc T) (k : Below W.heap.size W W') : Sq w0 W' x q p Oq Op va vc T := h.kept (Kept.of_below k fun _ => False) (fun _ _ h => h) (fun _ h => h.elim)
theorem Sq.drewN (h : Sq w0 W x q p Oq Op va vc T) (n : Nat) : Sq w0 (W.drewN n) x q p Oq Op va vc T := h.below (belowN (Below.refl _ _) n)
theorem Sq.post (h : Sq w0 W x q p Oq Op va vc T) {W1 : World} {T' : TS} {Oq' Op' : Nat → Prop} {va' vc' : Value} (h' : Sq w0 W1 x q p Oq' Op' va' vc' T') (k : Kept (sqO x Oq Op va vc) W W1) (ho : ∀ j, sqO x Oq' Op' va' vc' j → sqO x Oq Op va vc j ∨ W.heap.size ≤ j) : StPost w0 x (sqO x Oq Op va vc) T' W W1 :=
  ⟨_, ⟨q, p, Oq', Op', va', vc', rfl, h'⟩, k, ho⟩
set_option maxRecDepth 100000 in
set_option maxHeartbeats 16000000 in
theorem take18_any (hT : Tt w0 W s v0 v1 E0 E1 X) (h0 : E0.length ≤ 100000) (h1 : E1.length ≤ 100000) (hx : Sq w0 W x q p Oq Op va vc T) (m : FN) (d r : Sl) (bs : List Int) (hm : m.wf) (hd : RdP W (fun b => ¬ sqO x Oq Op va vc b) d.A d.n bs) (hdc : d.n ≤ d.c) (hdn : d.n < 9223372036854775808)
    (en : Nat) (hen : en < 18446744073709551616) (hlim : X.limit < 18446744073709551616) (hcb : T.cb ≤ 1099511640000) (hcz : T.cz.length ≤ 100000) (hadd : onE T.r m bs.length = 0 → m.k = 8 → en ≤ T.cb + 100000) (htk : onE T.r m bs.length = 0 → T.cb ≤ takenQ (onX T.r m bs) ∧ takenQ (onX T.r m bs) < 18446744073709551616) :
    Calls Try.prog 34 #[.pointer (some ⟨s, 0, none⟩), .pointer (some ⟨x, 0, none⟩), frV m d r, .int .u64 en] W fun e w' => e = .returned (.int .i64 (tkE T X.limit (gotS (rise E0 E1)) en m bs.length)) ∧ StPost w0 x (sqO x Oq Op va vc) (tkX T X.limit (gotS (rise E0 E1)) en m bs) W w' := by
  obtain ⟨L, W1, hfv, hL, hW1, hB, hlt, hA, d0, d1, d2, d3, d4, d5, d6, d7⟩ := fr_box8 W m d r
  have hT1 := hT.below hB
  have hx1 := hx.below hB
  have hLl : L.length = 19 := by rw [hL]; rfl
  have HLl := Lib.hid hLl
  have HL0 := Lib.hid (show L[0]? = some (.int .i64 m.k) by rw [hL]; rfl)
  obtain ⟨mo, hmoe⟩ : ∃ n, m.o.toNat = n := ⟨_, rfl⟩
  have hmo : (mo : Int) = m.o := by have := hm.o0; omega
  have hmo2 : mo < 18446744073709551616 := by have := hm.o1; omega
  have HL2 := Lib.hid (show L[2]? = some (.int .u64 (mo : Int)) by rw [hL, hmo]; rfl)
  have hfv2 := hfv
  have hokR : (onX T.r m bs).ok := onX_ok18 hx.ok m bs hm hd.byt
  have c2 := hx1.c2
  have c27 := hT1.c27
  have hws := hT.bl.size
  have hq := hx1.ri
  have hok := hx.ok
  have HST := Lib.hid (q_state hq)
  have hgl : gotS (rise E0 E1) < 18446744073709551616 := by unfold gotS; omega
  generalize hg : gotS (rise E0 E1) = got at *
  have HGOT : Hid (∀ W9, Below W1.heap.size W1 W9 → Calls Try.prog 7 #[.pointer (some ⟨s, 0, none⟩)] W9 fun e w' => e = .returned (.int .u64 got) ∧ Below W9.heap.size W9 w') := Lib.hid (fun W9 k => by rw [← hg]; exact got_any (hT1.below k) h0 h1)
  have HSQ : Hid (∀ W9, Below W1.heap.size W1 W9 → Sq w0 W9 x q p Oq Op va vc T) := Lib.hid (fun W9 k => hx1.below k)
  have HFB : Hid (flowB T X.limit got en = decide (T.r.st = 1 ∧ highQ T.r < en ∧ leftS X.limit got < en - highQ T.r)) := Lib.hid rfl
  have hqh : highQ T.r < 18446744073709551616 := by
    have a := hok.b.rh
    have b := hok.b.hm
    have c := hok.lw
    have d := hok.win
    unfold highQ
    split
    · have e := hok.fl (by assumption)
      omega
    · omega
  obtain ⟨fb, hfb⟩ : ∃ b, flowB T X.limit got en = b := ⟨_, rfl⟩
  have HE : Hid (tkE T X.limit got en m bs.length = if fb = true then 3 else if onE T.r m bs.length = 23 then 3 else if onE T.r m bs.length = 30 then 6 else 0) := Lib.hid (by unfold tkE; rw [hfb])
  have HX : Hid (tkX T X.limit got en m bs = if fb = true then T else if onE T.r m bs.length = 0 then cameT T (onX T.r m bs) m.k m.o.toNat en else T) := Lib.hid (by unfold tkX; rw [hfb])
  rw [hfb] at HFB
  rw [hmoe] at HX
  have HMO := Lib.hid hmoe
  clear hmoe hmo
  obtain ⟨sl, hsl⟩ : ∃ l, leftS X.limit got = l := ⟨_, rfl⟩
  have hwl : IntKind.u64.wrap ((X.limit : Int) - (got : Int)) = (sl : Int) := by rw [← hsl, IntKind.wrap_u64]; unfold leftS; omega
  rw [hsl] at HFB
  have HHI := Lib.hid (fun W9 (k : Below W1.heap.size W1 W9) => q_high ((hx1.below k).ri) hok)
  have HST2 := Lib.hid (fun W9 (k : Below W1.heap.size W1 W9) => q_state ((hx1.below k).ri))
  rw [hfv]
  clear HST hg hsl hfb hT1 hq hfv hL hLl hT
  go_enter Try.func34, Try.ntmps34
  go_upto_region 1 with fail
  obtain ⟨g, hgg⟩ : ∃ g, W.heap.size = g := ⟨_, rfl⟩
  (try rw [hgg])
  go_cut [40] from 9 to 71 (fun s40 wx => s40 = .bool fb ∧ Hid (Below W1.heap.size W1 wx))
  case first =>
    clear HE HX HSQ hx hx1 hadd htk
    have hbd : Below W1.heap.size W1 W1.drew := belowN (Below.refl _ _) 1
    have q2 : W1.drew.cell? ⟨x, 2, none⟩ = some (.pointer (some ⟨p, 0, none⟩)) := c2
    have q27 : W1.drew.cell? ⟨s, 27, none⟩ = some (.int .u64 X.limit) := c27
    obtain ⟨Y, hY⟩ : ∃ Y, W1.drew = Y := ⟨_, rfl⟩
    have hST := HST2.out _ hbd
    have hH1 := HHI.out _ hbd
    have hGO := HGOT.out _ hbd
    clear HHI HST2 HGOT
    generalize highQ T.r = hi at *
    by_cases hs1 : T.r.st = 1
    · by_cases hge : hi < en
      · have hgeI : (hi : Int) < (en : Int) := by omega
        have hsub : IntKind.u64.wrap ((en : Int) - (hi : Int)) = ((en - hi : Nat) : Int) := by rw [IntKind.wrap_u64]; omega
        refine wp_region_held_drew (S := fun w => w.cell? ⟨x, 2, none⟩ = some (.pointer (some ⟨p, 0, none⟩)) ∧ w.cell? ⟨s, 27, none⟩ = some (.int .u64 X.limit)) (by kernel_rfl) (⟨by first | exact q2 | (rw [hY]; exact q2), by first | exact q27 | (rw [hY]; exact q27)⟩) (fun hHeld => ?_)
        rw [hY] at q2 q27 hbd hST hH1 hGO ⊢
        have hHeld : Y.cell? ⟨x, 2, none⟩ = some (.pointer (some ⟨p, 0, none⟩)) ∧ Y.cell? ⟨s, 27, none⟩ = some (.int .u64 X.limit) := ⟨q2, q27⟩
        have hST := Lib.hid hST
        have hH1 := Lib.hid hH1
        have hGO := Lib.hid hGO
        clear hY
        refine tkq 0 (some 9) (v := ?_) rfl (Or.inl ⟨by rfl, ?_⟩) (by assumption) ?_
        rotate_left
        · intro w hSw; (try dsimp only at hSw); go_simp; first | done | (with_reducible rfl)
        simp only [Act.put, List.setIfInBounds_toArray, List.set_cons_zero, List.set_cons_succ]
        refine tkq 1 (some 10) (v := ?_) rfl (Or.inl ⟨by rfl, ?_⟩) (by assumption) ?_
        rotate_left
        · intro w hSw; (try dsimp only at hSw); go_simp; first | done | (with_reducible rfl)
        simp only [Act.put, List.setIfInBounds_toArray, List.set_cons_zero, List.set_cons_succ]
        refine tkq 2 (some 11) (v := ?_) rfl (Or.inl ⟨by rfl, ?_⟩) (by assumption) ?_
        rotate_left
        · intro w hSw; (try dsimp only at hSw); go_simp; first | done | (with_reducible rfl)
        simp only [Act.put, List.setIfInBounds_toArray, List.set_cons_zero, List.set_cons_succ]
        refine tkq 3 (some 12) (v := ?_) rfl (Or.inl ⟨by rfl, ?_⟩) (by assumption) ?_
        rotate_left
        · intro w hSw; (try dsimp only at hSw); go_simp; first | done | (with_reducible rfl)
        simp only [Act.put, List.setIfInBounds_toArray, List.set_cons_zero, List.set_cons_succ]
        refine wpAnyH_ready (rs := [4]) (by kernel_rfl) (by simp) ?_
        refine AllReadyH.cons rfl (fun K hK => ?_) AllReadyH.nil
        go_simp
        go_wp2_with (go_at_call 40; (with_reducible refine hST.out.mono ?_); rintro e w9 ⟨rfl, e2⟩; rw [e2]; clear e2)
        refine hK.out _ _ (⟨q2, q27⟩) (fun hHeld => ?_)
        clear hK K
        refine tkq 5 (some 14) (v := .bool true) rfl (Or.inl ⟨by rfl, ?_⟩) (by assumption) ?_
        · intro w hSw; (try dsimp only at hSw); go_simp; first | done | rfl | (rw [hs1]; rfl) | (simp [hs1])
        simp only [Act.put, List.setIfInBounds_toArray, List.set_cons_zero, List.set_cons_succ]
        refine tkq 6 (some 15) (v := ?_) rfl (Or.inl ⟨by rfl, ?_⟩) (by assumption) ?_
        rotate_left
        · intro w hSw; (try dsimp only at hSw); go_simp; first | done | (with_reducible rfl)
        simp only [Act.put, List.setIfInBounds_toArray, List.set_cons_zero, List.set_cons_succ]
        refine tkq 7 (some 16) (v := ?_) rfl (Or.inl ⟨by rfl, ?_⟩) (by assumption) ?_
        rotate_left
        · intro w hSw; (try dsimp only at hSw); go_simp; first | done | (with_reducible rfl)
        simp only [Act.put, List.setIfInBounds_toArray, List.set_cons_zero, List.set_cons_succ]
        refine tkq 8 (some 17) (v := ?_) rfl (Or.inl ⟨by rfl, ?_⟩) (by assumption) ?_
        rotate_left
        · intro w hSw; (try dsimp only at hSw); go_simp; first | done | (with_reducible rfl)
        simp only [Act.put, List.setIfInBounds_toArray, List.set_cons_zero, List.set_cons_succ]
        refine tkq 9 (some 18) (v := ?_) rfl (Or.inl ⟨by rfl, ?_⟩) (by assumption) ?_
        rotate_left
        · intro w hSw; (try dsimp only at hSw); go_simp; first | done | (with_reducible rfl)
        simp only [Act.put, List.setIfInBounds_toArray, List.set_cons_zero, List.set_cons_succ]
        refine tkq 10 (some 19) (v := ?_) rfl (Or.inl ⟨by rfl, ?_⟩) (by assumption) ?_
        rotate_left
        · intro w hSw; (try dsimp only at hSw); go_simp; first | done | (with_reducible rfl)
        simp only [Act.put, List.setIfInBounds_toArray, List.set_cons_zero, List.set_cons_succ]
        refine tkq 11 (some 20) (v := ?_) rfl (Or.inl ⟨by rfl, ?_⟩) (by assumption) ?_
        rotate_left
        · intro w hSw; (try dsimp only at hSw); go_simp; first | done | (with_reducible rfl)
        simp only [Act.put, List.setIfInBounds_toArray, List.set_cons_zero, List.set_cons_succ]
        refine wpAnyH_ready (rs := [12]) (by kernel_rfl) (by simp) ?_
        refine AllReadyH.cons rfl (fun K hK => ?_) AllReadyH.nil
        go_simp
        go_wp2_with (go_at_call 20; (with_reducible refine hH1.out.mono ?_); rintro e w9 ⟨rfl, e2⟩; rw [e2]; clear e2)
        refine hK.out _ _ (⟨q2, q27⟩) (fun hHeld => ?_)
        clear hK K
        refine tkq 13 (some 22) (v := .bool true) rfl (Or.inl ⟨by rfl, ?_⟩) (by assumption) ?_
        · intro w hSw; (try dsimp only at hSw); go_simp; first | done | rfl | (simp; omega)
        simp only [Act.put, List.setIfInBounds_toArray, List.set_cons_zero, List.set_cons_succ]
        refine tkq 14 (some 23) (v := ?_) rfl (Or.inl ⟨by rfl, ?_⟩) (by assumption) ?_
        rotate_left
        · intro w hSw; (try dsimp only at hSw); go_simp; first | done | (with_reducible rfl)
        simp only [Act.put, List.setIfInBounds_toArray, List.set_cons_zero, List.set_cons_succ]
        refine tkq 15 (some 24) (v := ?_) rfl (Or.inl ⟨by rfl, ?_⟩) (by assumption) ?_
        rotate_left
        · intro w hSw; (try dsimp only at hSw); go_simp; first | done | (with_reducible rfl)
        simp only [Act.put, List.setIfInBounds_toArray, List.set_cons_zero, List.set_cons_succ]
        refine tkq 16 (some 25) (v := ?_) rfl (Or.inl ⟨by rfl, ?_⟩) (by assumption) ?_
        rotate_left
        · intro w hSw; (try dsimp only at hSw); go_simp; first | done | (with_reducible rfl)
        simp only [Act.put, List.setIfInBounds_toArray, List.set_cons_zero, List.set_cons_succ]
        refine tkq 17 (some 26) (v := ?_) rfl (Or.inl ⟨by rfl, ?_⟩) (by assumption) ?_
        rotate_left
        · intro w hSw; (try dsimp only at hSw); go_simp; first | done | (with_reducible rfl)
        simp only [Act.put, List.setIfInBounds_toArray, List.set_cons_zero, List.set_cons_succ]
        refine tkq 18 (some 27) (v := ?_) rfl (Or.inl ⟨by rfl, ?_⟩) (by assumption) ?_
        rotate_left
        · intro w hSw; (try dsimp only at hSw); go_simp; first | done | (with_reducible rfl)
        simp only [Act.put, List.setIfInBounds_toArray, List.set_cons_zero, List.set_cons_succ]
        refine tkq 19 (some 28) (v := ?_) rfl (Or.inl ⟨by rfl, ?_⟩) (by assumption) ?_
        rotate_left
        · intro w hSw; (try dsimp only at hSw); go_simp; first | done | (with_reducible rfl)
        simp only [Act.put, List.setIfInBounds_toArray, List.set_cons_zero, List.set_cons_succ]
        refine tkq 20 (some 29) (v := ?_) rfl (Or.inl ⟨by rfl, ?_⟩) (by assumption) ?_
        rotate_left
        · intro w hSw; (try dsimp only at hSw); go_simp; first | done | (with_reducible rfl)
        simp only [Act.put, List.setIfInBounds_toArray, List.set_cons_zero, List.set_cons_succ]
        refine tkq 23 (some 32) (v := ?_) rfl (Or.inl ⟨by rfl, ?_⟩) (by assumption) ?_
        rotate_left
        · intro w hSw; (try dsimp only at hSw); go_simp; first | done | (with_reducible rfl)
        simp only [Act.put, List.setIfInBounds_toArray, List.set_cons_zero, List.set_cons_succ]
        refine tkq 24 (some 33) (v := ?_) rfl (Or.inl ⟨by rfl, ?_⟩) (by assumption) ?_
        rotate_left
        · intro w hSw; (try dsimp only at hSw); go_simp; first | done | (with_reducible rfl)
        simp only [Act.put, List.setIfInBounds_toArray, List.set_cons_zero, List.set_cons_succ]
        refine tkq 25 (some 34) (v := ?_) rfl (Or.inl ⟨by rfl, ?_⟩) (by assumption) ?_
        rotate_left
        · intro w hSw; (try dsimp only at hSw); go_simp; first | done | (with_reducible rfl)
        simp only [Act.put, List.setIfInBounds_toArray, List.set_cons_zero, List.set_cons_succ]
        refine tkq 26 (some 35) (v := ?_) rfl (Or.inl ⟨by rfl, ?_⟩) (by assumption) ?_
        rotate_left
        · intro w hSw; (try dsimp only at hSw); go_simp; first | done | (with_reducible rfl)
        simp only [Act.put, List.setIfInBounds_toArray, List.set_cons_zero, List.set_cons_succ]
        refine tkq 27 (some 36) (v := ?_) rfl (Or.inl ⟨by rfl, ?_⟩) (by assumption) ?_
        rotate_left
        · intro w hSw; (try dsimp only at hSw); go_simp; first | done | (with_reducible rfl)
        simp only [Act.put, List.setIfInBounds_toArray, List.set_cons_zero, List.set_cons_succ]
        refine wpAnyH_ready (rs := [21]) (by kernel_rfl) (by simp) ?_
        refine AllReadyH.cons rfl (fun K hK => ?_) AllReadyH.nil
        go_simp
        go_wp2_with (go_at_call 20; (with_reducible refine hH1.out.mono ?_); rintro e w9 ⟨rfl, e2⟩; rw [e2]; clear e2)
        refine hK.out _ _ (⟨q2, q27⟩) (fun hHeld => ?_)
        clear hK K
        refine tkq 22 (some 31) (v := .int .u64 ((en - hi : Nat) : Int)) rfl (Or.inl ⟨by rfl, ?_⟩) (by assumption) ?_
        · intro w hSw; (try dsimp only at hSw); go_simp; first | done | rfl | (rw [hsub])
        simp only [Act.put, List.setIfInBounds_toArray, List.set_cons_zero, List.set_cons_succ]
        refine wpAnyH_ready (rs := [28]) (by kernel_rfl) (by simp) ?_
        refine AllReadyH.cons rfl (fun K hK => ?_) AllReadyH.nil
        go_simp
        go_wp2_with (go_at_call 7; (with_reducible refine hGO.out.mono ?_); rintro e Y2 ⟨rfl, hb2⟩)
        have q2b := (hb2.cell (p := ⟨x, 2, none⟩) (cell_lt q2)).trans q2
        have q27b := (hb2.cell (p := ⟨s, 27, none⟩) (cell_lt q27)).trans q27
        have hbd2 := hbd.trans (hb2.mono hbd.size)
        refine hK.out _ _ (⟨q2b, q27b⟩) (fun hHeld => ?_)
        clear hK K
        refine tkq 29 (some 38) (v := .int .u64 (sl : Int)) rfl (Or.inl ⟨by rfl, ?_⟩) (by assumption) ?_
        · intro w hSw; (try dsimp only at hSw); go_simp; first | done | rfl | (rw [hwl])
        simp only [Act.put, List.setIfInBounds_toArray, List.set_cons_zero, List.set_cons_succ]
        refine tkq 30 (some 39) (v := .bool (decide ((sl : Int) < ((en - hi : Nat) : Int)))) rfl (Or.inl ⟨by rfl, ?_⟩) (by assumption) ?_
        · intro w hSw; (try dsimp only at hSw); go_simp; first | done | rfl
        simp only [Act.put, List.setIfInBounds_toArray, List.set_cons_zero, List.set_cons_succ]
        refine tkq 31 (some 40) (v := ?_) rfl (Or.inl ⟨by rfl, ?_⟩) (by assumption) ?_
        rotate_left
        · intro w hSw; (try dsimp only at hSw); go_simp; first | done | (with_reducible rfl)
        simp only [Act.put, List.setIfInBounds_toArray, List.set_cons_zero, List.set_cons_succ]
        refine wpAnyH_done (by kernel_rfl) ?_ _
        (try go_wp2_with fail)
        go_meet
        exact ⟨by rw [HFB.out]; exact congrArg Value.bool (decide_eq_decide.2 ⟨fun h => ⟨hs1, hge, by omega⟩, fun h => by have := h.2.2; omega⟩), Lib.hid hbd2⟩
      · have hgeI : ¬ (hi : Int) < (en : Int) := by omega
        refine wp_region_held_drew (S := fun w => w.cell? ⟨x, 2, none⟩ = some (.pointer (some ⟨p, 0, none⟩)) ∧ w.cell? ⟨s, 27, none⟩ = some (.int .u64 X.limit)) (by kernel_rfl) (⟨q2, q27⟩) (fun hHeld => ?_)
        rw [hY] at q2 q27 hbd hST hH1 hGO ⊢
        have hHeld : Y.cell? ⟨x, 2, none⟩ = some (.pointer (some ⟨p, 0, none⟩)) ∧ Y.cell? ⟨s, 27, none⟩ = some (.int .u64 X.limit) := ⟨q2, q27⟩
        have hST := Lib.hid hST
        have hH1 := Lib.hid hH1
        have hGO := Lib.hid hGO
        clear hY
        refine tkq 0 (some 9) (v := ?_) rfl (Or.inl ⟨by rfl, ?_⟩) (by assumption) ?_
        rotate_left
        · intro w hSw; (try dsimp only at hSw); go_simp; first | done | (with_reducible rfl)
        simp only [Act.put, List.setIfInBounds_toArray, List.set_cons_zero, List.set_cons_succ]
        refine tkq 1 (some 10) (v := ?_) rfl (Or.inl ⟨by rfl, ?_⟩) (by assumption) ?_
        rotate_left
        · intro w hSw; (try dsimp only at hSw); go_simp; first | done | (with_reducible rfl)
        simp only [Act.put, List.setIfInBounds_toArray, List.set_cons_zero, List.set_cons_succ]
        refine tkq 2 (some 11) (v := ?_) rfl (Or.inl ⟨by rfl, ?_⟩) (by assumption) ?_
        rotate_left
        · intro w hSw; (try dsimp only at hSw); go_simp; first | done | (with_reducible rfl)
        simp only [Act.put, List.setIfInBounds_toArray, List.set_cons_zero, List.set_cons_succ]
        refine tkq 3 (some 12) (v := ?_) rfl (Or.inl ⟨by rfl, ?_⟩) (by assumption) ?_
        rotate_left
        · intro w hSw; (try dsimp only at hSw); go_simp; first | done | (with_reducible rfl)
        simp only [Act.put, List.setIfInBounds_toArray, List.set_cons_zero, List.set_cons_succ]
        refine wpAnyH_ready (rs := [4]) (by kernel_rfl) (by simp) ?_
        refine AllReadyH.cons rfl (fun K hK => ?_) AllReadyH.nil
        go_simp
        go_wp2_with (go_at_call 40; (with_reducible refine hST.out.mono ?_); rintro e w9 ⟨rfl, e2⟩; rw [e2]; clear e2)
        refine hK.out _ _ (⟨q2, q27⟩) (fun hHeld => ?_)
        clear hK K
        refine tkq 5 (some 14) (v := .bool true) rfl (Or.inl ⟨by rfl, ?_⟩) (by assumption) ?_
        · intro w hSw; (try dsimp only at hSw); go_simp; first | done | rfl | (rw [hs1]; rfl) | (simp [hs1])
        simp only [Act.put, List.setIfInBounds_toArray, List.set_cons_zero, List.set_cons_succ]
        refine tkq 6 (some 15) (v := ?_) rfl (Or.inl ⟨by rfl, ?_⟩) (by assumption) ?_
        rotate_left
        · intro w hSw; (try dsimp only at hSw); go_simp; first | done | (with_reducible rfl)
        simp only [Act.put, List.setIfInBounds_toArray, List.set_cons_zero, List.set_cons_succ]
        refine tkq 7 (some 16) (v := ?_) rfl (Or.inl ⟨by rfl, ?_⟩) (by assumption) ?_
        rotate_left
        · intro w hSw; (try dsimp only at hSw); go_simp; first | done | (with_reducible rfl)
        simp only [Act.put, List.setIfInBounds_toArray, List.set_cons_zero, List.set_cons_succ]
        refine tkq 8 (some 17) (v := ?_) rfl (Or.inl ⟨by rfl, ?_⟩) (by assumption) ?_
        rotate_left
        · intro w hSw; (try dsimp only at hSw); go_simp; first | done | (with_reducible rfl)
        simp only [Act.put, List.setIfInBounds_toArray, List.set_cons_zero, List.set_cons_succ]
        refine tkq 9 (some 18) (v := ?_) rfl (Or.inl ⟨by rfl, ?_⟩) (by assumption) ?_
        rotate_left
        · intro w hSw; (try dsimp only at hSw); go_simp; first | done | (with_reducible rfl)
        simp only [Act.put, List.setIfInBounds_toArray, List.set_cons_zero, List.set_cons_succ]
        refine tkq 10 (some 19) (v := ?_) rfl (Or.inl ⟨by rfl, ?_⟩) (by assumption) ?_
        rotate_left
        · intro w hSw; (try dsimp only at hSw); go_simp; first | done | (with_reducible rfl)
        simp only [Act.put, List.setIfInBounds_toArray, List.set_cons_zero, List.set_cons_succ]
        refine tkq 11 (some 20) (v := ?_) rfl (Or.inl ⟨by rfl, ?_⟩) (by assumption) ?_
        rotate_left
        · intro w hSw; (try dsimp only at hSw); go_simp; first | done | (with_reducible rfl)
        simp only [Act.put, List.setIfInBounds_toArray, List.set_cons_zero, List.set_cons_succ]
        refine wpAnyH_ready (rs := [12]) (by kernel_rfl) (by simp) ?_
        refine AllReadyH.cons rfl (fun K hK => ?_) AllReadyH.nil
        go_simp
        go_wp2_with (go_at_call 20; (with_reducible refine hH1.out.mono ?_); rintro e w9 ⟨rfl, e2⟩; rw [e2]; clear e2)
        refine hK.out _ _ (⟨q2, q27⟩) (fun hHeld => ?_)
        clear hK K
        refine tkq 13 (some 22) (v := .bool false) rfl (Or.inl ⟨by rfl, ?_⟩) (by assumption) ?_
        · intro w hSw; (try dsimp only at hSw); go_simp; first | done | rfl | (simp; omega)
        simp only [Act.put, List.setIfInBounds_toArray, List.set_cons_zero, List.set_cons_succ]
        refine tkq 14 (some 23) (v := ?_) rfl (Or.inl ⟨by rfl, ?_⟩) (by assumption) ?_
        rotate_left
        · intro w hSw; (try dsimp only at hSw); go_simp; first | done | (with_reducible rfl)
        simp only [Act.put, List.setIfInBounds_toArray, List.set_cons_zero, List.set_cons_succ]
        refine tkq 15 (some 24) (v := ?_) rfl (Or.inl ⟨by rfl, ?_⟩) (by assumption) ?_
        rotate_left
        · intro w hSw; (try dsimp only at hSw); go_simp; first | done | (with_reducible rfl)
        simp only [Act.put, List.setIfInBounds_toArray, List.set_cons_zero, List.set_cons_succ]
        refine tkq 16 (some 25) (v := undef) rfl (Or.inr ⟨by rfl, rfl⟩) (by assumption) ?_
        simp only [Act.put, List.setIfInBounds_toArray, List.set_cons_zero, List.set_cons_succ]
        refine tkq 17 (some 26) (v := undef) rfl (Or.inr ⟨by rfl, rfl⟩) (by assumption) ?_
        simp only [Act.put, List.setIfInBounds_toArray, List.set_cons_zero, List.set_cons_succ]
        refine tkq 18 (some 27) (v := undef) rfl (Or.inr ⟨by rfl, rfl⟩) (by assumption) ?_
        simp only [Act.put, List.setIfInBounds_toArray, List.set_cons_zero, List.set_cons_succ]
        refine tkq 19 (some 28) (v := undef) rfl (Or.inr ⟨by rfl, rfl⟩) (by assumption) ?_
        simp only [Act.put, List.setIfInBounds_toArray, List.set_cons_zero, List.set_cons_succ]
        refine tkq 20 (some 29) (v := undef) rfl (Or.inr ⟨by rfl, rfl⟩) (by assumption) ?_
        simp only [Act.put, List.setIfInBounds_toArray, List.set_cons_zero, List.set_cons_succ]
        refine tkq 21 (some 30) (v := undef) rfl (Or.inr ⟨by rfl, rfl⟩) (by assumption) ?_
        simp only [Act.put, List.setIfInBounds_toArray, List.set_cons_zero, List.set_cons_succ]
        refine tkq 22 (some 31) (v := undef) rfl (Or.inr ⟨by rfl, rfl⟩) (by assumption) ?_
        simp only [Act.put, List.setIfInBounds_toArray, List.set_cons_zero, List.set_cons_succ]
        refine tkq 23 (some 32) (v := undef) rfl (Or.inr ⟨by rfl, rfl⟩) (by assumption) ?_
        simp only [Act.put, List.setIfInBounds_toArray, List.set_cons_zero, List.set_cons_succ]
        refine tkq 24 (some 33) (v := undef) rfl (Or.inr ⟨by rfl, rfl⟩) (by assumption) ?_
        simp only [Act.put, List.setIfInBounds_toArray, List.set_cons_zero, List.set_cons_succ]
        refine tkq 25 (some 34) (v := undef) rfl (Or.inr ⟨by rfl, rfl⟩) (by assumption) ?_
        simp only [Act.put, List.setIfInBounds_toArray, List.set_cons_zero, List.set_cons_succ]
        refine tkq 26 (some 35) (v := undef) rfl (Or.inr ⟨by rfl, rfl⟩) (by assumption) ?_
        simp only [Act.put, List.setIfInBounds_toArray, List.set_cons_zero, List.set_cons_succ]
        refine tkq 27 (some 36) (v := undef) rfl (Or.inr ⟨by rfl, rfl⟩) (by assumption) ?_
        simp only [Act.put, List.setIfInBounds_toArray, List.set_cons_zero, List.set_cons_succ]
        refine tkq 28 (some 37) (v := undef) rfl (Or.inr ⟨by rfl, rfl⟩) (by assumption) ?_
        simp only [Act.put, List.setIfInBounds_toArray, List.set_cons_zero, List.set_cons_succ]
        refine tkq 29 (some 38) (v := undef) rfl (Or.inr ⟨by rfl, rfl⟩) (by assumption) ?_
        simp only [Act.put, List.setIfInBounds_toArray, List.set_cons_zero, List.set_cons_succ]
        refine tkq 30 (some 39) (v := undef) rfl (Or.inr ⟨by rfl, rfl⟩) (by assumption) ?_
        simp only [Act.put, List.setIfInBounds_toArray, List.set_cons_zero, List.set_cons_succ]
        refine tkq 31 (some 40) (v := ?_) rfl (Or.inl ⟨by rfl, ?_⟩) (by assumption) ?_
        rotate_left
        · intro w hSw; (try dsimp only at hSw); go_simp; first | done | (with_reducible rfl)
        simp only [Act.put, List.setIfInBounds_toArray, List.set_cons_zero, List.set_cons_succ]
        refine wpAnyH_done (by kernel_rfl) ?_ _
        (try go_wp2_with fail)
        go_meet
        exact ⟨by rw [HFB.out]; exact congrArg Value.bool ((decide_eq_false fun h => hge h.2.1).symm), Lib.hid hbd⟩
    · have hs1I : ((T.r.st : Int) == 1) = false := by simp; omega
      refine wp_region_held_drew (S := fun w => w.cell? ⟨x, 2, none⟩ = some (.pointer (some ⟨p, 0, none⟩)) ∧ w.cell? ⟨s, 27, none⟩ = some (.int .u64 X.limit)) (by kernel_rfl) (⟨q2, q27⟩) (fun hHeld => ?_)
      rw [hY] at q2 q27 hbd hST hH1 hGO ⊢
      have hHeld : Y.cell? ⟨x, 2, none⟩ = some (.pointer (some ⟨p, 0, none⟩)) ∧ Y.cell? ⟨s, 27, none⟩ = some (.int .u64 X.limit) := ⟨q2, q27⟩
      have hST := Lib.hid hST
      have hH1 := Lib.hid hH1
      have hGO := Lib.hid hGO
      clear hY
      refine tkq 0 (some 9) (v := ?_) rfl (Or.inl ⟨by rfl, ?_⟩) (by assumption) ?_
      rotate_left
      · intro w hSw; (try dsimp only at hSw); go_simp; first | done | (with_reducible rfl)
      simp only [Act.put, List.setIfInBounds_toArray, List.set_cons_zero, List.set_cons_succ]
      refine tkq 1 (some 10) (v := ?_) rfl (Or.inl ⟨by rfl, ?_⟩) (by assumption) ?_
      rotate_left
      · intro w hSw; (try dsimp only at hSw); go_simp; first | done | (with_reducible rfl)
      simp only [Act.put, List.setIfInBounds_toArray, List.set_cons_zero, List.set_cons_succ]
      refine tkq 2 (some 11) (v := ?_) rfl (Or.inl ⟨by rfl, ?_⟩) (by assumption) ?_
      rotate_left
      · intro w hSw; (try dsimp only at hSw); go_simp; first | done | (with_reducible rfl)
      simp only [Act.put, List.setIfInBounds_toArray, List.set_cons_zero, List.set_cons_succ]
      refine tkq 3 (some 12) (v := ?_) rfl (Or.inl ⟨by rfl, ?_⟩) (by assumption) ?_
      rotate_left
      · intro w hSw; (try dsimp only at hSw); go_simp; first | done | (with_reducible rfl)
      simp only [Act.put, List.setIfInBounds_toArray, List.set_cons_zero, List.set_cons_succ]
      refine wpAnyH_ready (rs := [4]) (by kernel_rfl) (by simp) ?_
      refine AllReadyH.cons rfl (fun K hK => ?_) AllReadyH.nil
      go_simp
      go_wp2_with (go_at_call 40; (with_reducible refine hST.out.mono ?_); rintro e w9 ⟨rfl, e2⟩; rw [e2]; clear e2)
      refine hK.out _ _ (⟨q2, q27⟩) (fun hHeld => ?_)
      clear hK K
      refine tkq 5 (some 14) (v := .bool false) rfl (Or.inl ⟨by rfl, ?_⟩) (by assumption) ?_
      · intro w hSw; (try dsimp only at hSw); go_simp; first | done | rfl | (rw [hs1I])
      simp only [Act.put, List.setIfInBounds_toArray, List.set_cons_zero, List.set_cons_succ]
      refine tkq 6 (some 15) (v := ?_) rfl (Or.inl ⟨by rfl, ?_⟩) (by assumption) ?_
      rotate_left
      · intro w hSw; (try dsimp only at hSw); go_simp; first | done | (with_reducible rfl)
      simp only [Act.put, List.setIfInBounds_toArray, List.set_cons_zero, List.set_cons_succ]
      refine tkq 7 (some 16) (v := undef) rfl (Or.inr ⟨by rfl, rfl⟩) (by assumption) ?_
      simp only [Act.put, List.setIfInBounds_toArray, List.set_cons_zero, List.set_cons_succ]
      refine tkq 8 (some 17) (v := undef) rfl (Or.inr ⟨by rfl, rfl⟩) (by assumption) ?_
      simp only [Act.put, List.setIfInBounds_toArray, List.set_cons_zero, List.set_cons_succ]
      refine tkq 9 (some 18) (v := undef) rfl (Or.inr ⟨by rfl, rfl⟩) (by assumption) ?_
      simp only [Act.put, List.setIfInBounds_toArray, List.set_cons_zero, List.set_cons_succ]
      refine tkq 10 (some 19) (v := undef) rfl (Or.inr ⟨by rfl, rfl⟩) (by assumption) ?_
      simp only [Act.put, List.setIfInBounds_toArray, List.set_cons_zero, List.set_cons_succ]
      refine tkq 11 (some 20) (v := undef) rfl (Or.inr ⟨by rfl, rfl⟩) (by assumption) ?_
      simp only [Act.put, List.setIfInBounds_toArray, List.set_cons_zero, List.set_cons_succ]
      refine tkq 12 (some 21) (v := undef) rfl (Or.inr ⟨by rfl, rfl⟩) (by assumption) ?_
      simp only [Act.put, List.setIfInBounds_toArray, List.set_cons_zero, List.set_cons_succ]
      refine tkq 13 (some 22) (v := undef) rfl (Or.inr ⟨by rfl, rfl⟩) (by assumption) ?_
      simp only [Act.put, List.setIfInBounds_toArray, List.set_cons_zero, List.set_cons_succ]
      refine tkq 14 (some 23) (v := ?_) rfl (Or.inl ⟨by rfl, ?_⟩) (by assumption) ?_
      rotate_left
      · intro w hSw; (try dsimp only at hSw); go_simp; first | done | (with_reducible rfl)
      simp only [Act.put, List.setIfInBounds_toArray, List.set_cons_zero, List.set_cons_succ]
      refine tkq 15 (some 24) (v := ?_) rfl (Or.inl ⟨by rfl, ?_⟩) (by assumption) ?_
      rotate_left
      · intro w hSw; (try dsimp only at hSw); go_simp; first | done | (with_reducible rfl)
      simp only [Act.put, List.setIfInBounds_toArray, List.set_cons_zero, List.set_cons_succ]
      refine tkq 16 (some 25) (v := undef) rfl (Or.inr ⟨by rfl, rfl⟩) (by assumption) ?_
      simp only [Act.put, List.setIfInBounds_toArray, List.set_cons_zero, List.set_cons_succ]
      refine tkq 17 (some 26) (v := undef) rfl (Or.inr ⟨by rfl, rfl⟩) (by assumption) ?_
      simp only [Act.put, List.setIfInBounds_toArray, List.set_cons_zero, List.set_cons_succ]
      refine tkq 18 (some 27) (v := undef) rfl (Or.inr ⟨by rfl, rfl⟩) (by assumption) ?_
      simp only [Act.put, List.setIfInBounds_toArray, List.set_cons_zero, List.set_cons_succ]
      refine tkq 19 (some 28) (v := undef) rfl (Or.inr ⟨by rfl, rfl⟩) (by assumption) ?_
      simp only [Act.put, List.setIfInBounds_toArray, List.set_cons_zero, List.set_cons_succ]
      refine tkq 20 (some 29) (v := undef) rfl (Or.inr ⟨by rfl, rfl⟩) (by assumption) ?_
      simp only [Act.put, List.setIfInBounds_toArray, List.set_cons_zero, List.set_cons_succ]
      refine tkq 21 (some 30) (v := undef) rfl (Or.inr ⟨by rfl, rfl⟩) (by assumption) ?_
      simp only [Act.put, List.setIfInBounds_toArray, List.set_cons_zero, List.set_cons_succ]
      refine tkq 22 (some 31) (v := undef) rfl (Or.inr ⟨by rfl, rfl⟩) (by assumption) ?_
      simp only [Act.put, List.setIfInBounds_toArray, List.set_cons_zero, List.set_cons_succ]
      refine tkq 23 (some 32) (v := undef) rfl (Or.inr ⟨by rfl, rfl⟩) (by assumption) ?_
      simp only [Act.put, List.setIfInBounds_toArray, List.set_cons_zero, List.set_cons_succ]
      refine tkq 24 (some 33) (v := undef) rfl (Or.inr ⟨by rfl, rfl⟩) (by assumption) ?_
      simp only [Act.put, List.setIfInBounds_toArray, List.set_cons_zero, List.set_cons_succ]
      refine tkq 25 (some 34) (v := undef) rfl (Or.inr ⟨by rfl, rfl⟩) (by assumption) ?_
      simp only [Act.put, List.setIfInBounds_toArray, List.set_cons_zero, List.set_cons_succ]
      refine tkq 26 (some 35) (v := undef) rfl (Or.inr ⟨by rfl, rfl⟩) (by assumption) ?_
      simp only [Act.put, List.setIfInBounds_toArray, List.set_cons_zero, List.set_cons_succ]
      refine tkq 27 (some 36) (v := undef) rfl (Or.inr ⟨by rfl, rfl⟩) (by assumption) ?_
      simp only [Act.put, List.setIfInBounds_toArray, List.set_cons_zero, List.set_cons_succ]
      refine tkq 28 (some 37) (v := undef) rfl (Or.inr ⟨by rfl, rfl⟩) (by assumption) ?_
      simp only [Act.put, List.setIfInBounds_toArray, List.set_cons_zero, List.set_cons_succ]
      refine tkq 29 (some 38) (v := undef) rfl (Or.inr ⟨by rfl, rfl⟩) (by assumption) ?_
      simp only [Act.put, List.setIfInBounds_toArray, List.set_cons_zero, List.set_cons_succ]
      refine tkq 30 (some 39) (v := undef) rfl (Or.inr ⟨by rfl, rfl⟩) (by assumption) ?_
      simp only [Act.put, List.setIfInBounds_toArray, List.set_cons_zero, List.set_cons_succ]
      refine tkq 31 (some 40) (v := ?_) rfl (Or.inl ⟨by rfl, ?_⟩) (by assumption) ?_
      rotate_left
      · intro w hSw; (try dsimp only at hSw); go_simp; first | done | (with_reducible rfl)
      simp only [Act.put, List.setIfInBounds_toArray, List.set_cons_zero, List.set_cons_succ]
      refine wpAnyH_done (by kernel_rfl) ?_ _
      (try go_wp2_with fail)
      go_meet
      exact ⟨by rw [HFB.out]; exact congrArg Value.bool ((decide_eq_false fun h => hs1 h.1).symm), Lib.hid hbd⟩
  case rest =>
  obtain ⟨rfl, hcut⟩ := hcut
  have hbc := hcut.out
  have hx2 := HSQ.out wc hbc
  have hBc := hB.trans (hbc.mono hB.size)
  have hA2 : At wc g 34 L := by rw [← hgg]; exact hA.below hbc hA.lt
  have hgO : ∀ j, sqO x Oq Op va vc j → j ≠ g := fun j hj => by have := (hx.lt j hj).2; omega
  have hgw : w0.heap.size ≤ g := by omega
  clear hcut hbc HSQ HFB HHI HST2 HGOT c27 c2 hA hwl d1 d2 d3 d4 d5 d6 d7 hx1
  have hfin : ∀ (j : Nat) (Oq' Op' : Nat → Prop) (va' vc' : Value), (sqO x Oq' Op' va' vc' j → sqO x Oq Op va vc j ∨ wc.heap.size ≤ j) → (sqO x Oq' Op' va' vc' j → sqO x Oq Op va vc j ∨ W.heap.size ≤ j) := fun j Oq' Op' va' vc' h hj => (h hj).imp id fun e => Nat.le_trans hBc.size e
  cases fb with
  | true =>
    rw [if_pos rfl] at HE HX
    go_wp2_with fail
    go_ret
    rw [HE.out, HX.out]
    exact ⟨rfl, hx.post hx2 (Kept.of_below hBc _) (fun j hj => .inl hj)⟩
  | false =>
    rw [if_neg (by simp)] at HE HX
    have d0c : wc.cell? ⟨g, 0, none⟩ = some (.int .i64 m.k) := by rw [hA2.cell, HL0.out]
    have d2c : wc.cell? ⟨g, 2, none⟩ = some (.int .u64 (mo : Int)) := by rw [hA2.cell, HL2.out]
    have hdY : RdP wc.drew (fun b => ¬ Op b) d.A d.n bs := (hd.kept (Kept.of_below (belowN hBc 1) (fun _ => False)) fun _ _ h => h).mono fun b _ hb e => hb (.inr (.inr (.inl e)))
    have hx3 := hx2.drewN 1
    rw [show wc.drewN 1 = wc.drew from rfl] at hx3
    have hb3 : Below W.heap.size W wc.drew := belowN hBc 1
    have hA3 : At wc.drew g 34 L := hA2.drew
    have HON := q_on hx3.ri hok (by have := hb3.size; omega) m d r bs hm hdY hdc hdn
    have hg3 := hA3.lt
    clear hdY hx2 hA2 d0c d2c hBc hd
    obtain ⟨Y, hY⟩ : ∃ Y, wc.drew = Y := ⟨_, rfl⟩
    rw [hfv2] at HON
    generalize hEE : onE T.r m bs.length = EE at *
    generalize hRR : onX T.r m bs = RR at *
    go_wp2_with fail
    refine wp_region_held_drew (S := fun w => w.cell? ⟨x, 2, none⟩ = some (.pointer (some ⟨p, 0, none⟩)) ∧ w.rangeAt g 0 L) (by kernel_rfl) (⟨hx3.c2, hA3.rangeAt⟩) (fun hHeld => ?_)
    rw [hY] at hx3 hb3 hA3 HON hg3 ⊢
    have HON := Lib.hid HON
    have hHeld : Y.cell? ⟨x, 2, none⟩ = some (.pointer (some ⟨p, 0, none⟩)) ∧ Y.rangeAt g 0 L := ⟨hx3.c2, hA3.rangeAt⟩
    have hb3k : Kept (sqO x Oq Op va vc) W Y := Kept.of_below hb3 _
    clear hY
    refine tkq 0 (some 41) (v := ?_) rfl (Or.inl ⟨by rfl, ?_⟩) (by assumption) ?_
    rotate_left
    · intro w hSw; (try dsimp only at hSw); go_simp; first | done | (with_reducible rfl)
    simp only [Act.put, List.setIfInBounds_toArray, List.set_cons_zero, List.set_cons_succ]
    refine tkq 1 (some 42) (v := ?_) rfl (Or.inl ⟨by rfl, ?_⟩) (by assumption) ?_
    rotate_left
    · intro w hSw; (try dsimp only at hSw); go_simp; first | done | (with_reducible rfl)
    simp only [Act.put, List.setIfInBounds_toArray, List.set_cons_zero, List.set_cons_succ]
    refine tkq 2 (some 43) (v := ?_) rfl (Or.inl ⟨by rfl, ?_⟩) (by assumption) ?_
    rotate_left
    · intro w hSw; (try dsimp only at hSw); go_simp; first | done | (with_reducible rfl)
    simp only [Act.put, List.setIfInBounds_toArray, List.set_cons_zero, List.set_cons_succ]
    refine tkq 3 (some 44) (v := ?_) rfl (Or.inl ⟨by rfl, ?_⟩) (by assumption) ?_
    rotate_left
    · intro w hSw; (try dsimp only at hSw); go_simp; first | done | (with_reducible rfl)
    simp only [Act.put, List.setIfInBounds_toArray, List.set_cons_zero, List.set_cons_succ]
    refine tkq 4 (some 45) (v := ?_) rfl ?_ (by assumption) ?_
    rotate_left
    · refine yl_any 34 (.tmp 6) ?_ g 0 ?_ L _ ?_ Try.underlying34 rfl ?_ ?_
      · rfl
      · rfl
      · intro w hSw; exact hSw.2
      · rw [HLl.out]; exact fr_info
      · rfl
    simp only [Act.put, List.setIfInBounds_toArray, List.set_cons_zero, List.set_cons_succ]
    refine wpAnyH_ready (rs := [5]) (by kernel_rfl) (by simp) ?_
    refine AllReadyH.cons rfl (fun K hK => ?_) AllReadyH.nil
    go_simp
    go_wp2_with (go_at_call 41; (with_reducible refine HON.out.mono ?_); rintro e w5 ⟨rfl, Op', hq5, hk5, ho5⟩)
    have h5 := hx3.recv hq5 hk5 ho5 hokR
    have hA5 := hA3.kept hk5 (fun e => hgO g (.inr (.inr (.inl e))) rfl)
    have hk5' : Kept (sqO x Oq Op va vc) W w5 := hb3k.trans (hk5.mono fun j hj => .inl (.inr (.inr (.inl hj))))
    have hs5 := hk5.size
    clear HON hx3 hA3
    refine hK.out _ _ (⟨h5.c2, hA5.rangeAt⟩) (fun hHeld => ?_)
    clear hK K
    refine wpAnyH_done (by kernel_rfl) ?_ _
    have d0 : w5.cell? ⟨g, 0, none⟩ = some (.int .i64 m.k) := by rw [hA5.cell, HL0.out]
    have d2 : w5.cell? ⟨g, 2, none⟩ = some (.int .u64 (mo : Int)) := by rw [hA5.cell, HL2.out]
    by_cases e23 : EE = 23
    · rw [e23]
      have hT0 : { T with r := RR } = T := by rw [← hRR, onX_no (by rw [hEE]; omega)]
      rw [hT0] at h5
      go_wp2_with fail
      go_ret
      rw [HE.out, HX.out, if_pos e23, if_neg (by omega)]
      exact ⟨rfl, hx.post h5 hk5' (fun j hj => by
        rcases hj with e | e | e | e | e
        · exact .inl (.inl e)
        · exact .inl (.inr (.inl e))
        · exact (ho5 j e).imp (fun e => .inr (.inr (.inl e))) (fun e => by have := hb3.size; omega)
        · exact .inl (.inr (.inr (.inr (.inl e))))
        · exact .inl (.inr (.inr (.inr (.inr e)))))⟩
    · have n23 : (EE == 23) = false := by simp [e23]
      by_cases e30 : EE = 30
      · rw [e30]
        have hT0 : { T with r := RR } = T := by rw [← hRR, onX_no (by rw [hEE]; omega)]
        rw [hT0] at h5
        go_wp2_with fail
        go_ret
        rw [HE.out, HX.out, if_neg e23, if_pos e30, if_neg (by omega)]
        exact ⟨rfl, hx.post h5 hk5' (fun j hj => by
        rcases hj with e | e | e | e | e
        · exact .inl (.inl e)
        · exact .inl (.inr (.inl e))
        · exact (ho5 j e).imp (fun e => .inr (.inr (.inl e))) (fun e => by have := hb3.size; omega)
        · exact .inl (.inr (.inr (.inr (.inl e))))
        · exact .inl (.inr (.inr (.inr (.inr e)))))⟩
      · have n30 : (EE == 30) = false := by simp [e30]
        by_cases e0 : EE = 0
        · rw [e0]
          have htk2 := htk e0
          rw [if_neg e23, if_neg e30] at HE
          rw [if_pos e0] at HX
          by_cases h8 : m.k = 8
          · rw [h8] at d0
            have hadd2 := hadd e0 h8
            have h6 := h5.drewN 1
            have d2Y : w5.drew.cell? ⟨g, 2, none⟩ = some (.int .u64 (mo : Int)) := d2
            have hk6s : Kept (sqO x Oq Op va vc) W w5.drew := hk5'.trans' ((Kept.refl (fun _ => False) w5).drewN 1) (fun _ e => e.elim)
            have hs6 : W.heap.size ≤ w5.drew.heap.size := hk6s.size
            rw [show w5.drewN 1 = w5.drew from rfl] at h6
            obtain ⟨Y6, hY6⟩ : ∃ Y, w5.drew = Y := ⟨_, rfl⟩
            have HAD := mk_add h6.mkC (by omega) mo en hmo2 hcb hadd2 hcz
            rw [hY6] at h6 d2Y hk6s hs6 HAD
            have HAD := Lib.hid HAD
            go_wp2_with fail
            refine wp_region_held_drew (S := fun w => w.cell? ⟨x, 2, none⟩ = some (.pointer (some ⟨p, 0, none⟩)) ∧ w.cell? ⟨g, 2, none⟩ = some (.int .u64 (mo : Int))) (by kernel_rfl) (⟨by first | exact h6.c2 | (rw [hY6]; exact h6.c2), by first | exact d2Y | (rw [hY6]; exact d2Y)⟩) (fun hHeld => ?_)
            rw [hY6]
            clear hY6
            have hHeld : Y6.cell? ⟨x, 2, none⟩ = some (.pointer (some ⟨p, 0, none⟩)) ∧ Y6.cell? ⟨g, 2, none⟩ = some (.int .u64 (mo : Int)) := ⟨h6.c2, d2Y⟩
            refine tkq 0 (some 56) (v := ?_) rfl (Or.inl ⟨by rfl, ?_⟩) (by assumption) ?_
            rotate_left
            · intro w hSw; (try dsimp only at hSw); go_simp; first | done | (with_reducible rfl)
            simp only [Act.put, List.setIfInBounds_toArray, List.set_cons_zero, List.set_cons_succ]
            refine tkq 1 (some 57) (v := ?_) rfl (Or.inl ⟨by rfl, ?_⟩) (by assumption) ?_
            rotate_left
            · intro w hSw; (try dsimp only at hSw); go_simp; first | done | (with_reducible rfl)
            simp only [Act.put, List.setIfInBounds_toArray, List.set_cons_zero, List.set_cons_succ]
            refine tkq 2 (some 58) (v := ?_) rfl (Or.inl ⟨by rfl, ?_⟩) (by assumption) ?_
            rotate_left
            · intro w hSw; (try dsimp only at hSw); go_simp; first | done | (with_reducible rfl)
            simp only [Act.put, List.setIfInBounds_toArray, List.set_cons_zero, List.set_cons_succ]
            refine tkq 3 (some 59) (v := ?_) rfl (Or.inl ⟨by rfl, ?_⟩) (by assumption) ?_
            rotate_left
            · intro w hSw; (try dsimp only at hSw); go_simp; first | done | (with_reducible rfl)
            simp only [Act.put, List.setIfInBounds_toArray, List.set_cons_zero, List.set_cons_succ]
            refine tkq 4 (some 60) (v := .int .u64 (mo : Int)) rfl (Or.inl ⟨by rfl, ?_⟩) (by assumption) ?_
            · intro w hSw; (try dsimp only at hSw); have hz := hSw.2; go_simp; first | done | rfl
            simp only [Act.put, List.setIfInBounds_toArray, List.set_cons_zero, List.set_cons_succ]
            refine tkq 5 (some 61) (v := ?_) rfl (Or.inl ⟨by rfl, ?_⟩) (by assumption) ?_
            rotate_left
            · intro w hSw; (try dsimp only at hSw); go_simp; first | done | (with_reducible rfl)
            simp only [Act.put, List.setIfInBounds_toArray, List.set_cons_zero, List.set_cons_succ]
            refine wpAnyH_ready (rs := [6]) (by kernel_rfl) (by simp) ?_
            refine AllReadyH.cons rfl (fun K hK => ?_) AllReadyH.nil
            go_simp
            go_wp2_with (go_at_call 42; (with_reducible refine HAD.out.mono ?_); intro e w6 hP; obtain ⟨rfl, vc6, h6', hk6, hv6⟩ := h6.came hP; clear hP)
            clear HAD
            refine hK.out _ _ (⟨h6'.c2, (hk6.cell (p := ⟨g, 2, none⟩) (cell_lt d2Y) (fun e => e.elim (fun e => hgO x (.inl rfl) e.symm) (fun e => by first | exact absurd rfl (hgO g (.inr (.inr (.inr (.inr e))))) | exact hgO g (.inr (.inr (.inr (.inr e)))) rfl))).trans d2Y⟩) (fun hHeld => ?_)
            clear hK K
            refine wpAnyH_done (by kernel_rfl) ?_ _
            have hs6b := hk6.size
            have HCT : Hid (∀ W9 Oq9 Op9 vc9, Sq w0 W9 x q p Oq9 Op9 va vc9 { ({ ({ T with r := RR } : TS) with cb := T.cb, cz := addM T.cb T.cz mo en } : TS) with cb := takenQ RR, cz := (addM T.cb T.cz mo en).drop (takenQ RR - T.cb) } → Sq w0 W9 x q p Oq9 Op9 va vc9 (cameT T RR m.k mo en)) := Lib.hid (fun _ _ _ _ h => by unfold cameT; rw [if_pos h8]; exact h)
            have h7 := h6'.drewN 1
            have hk7 : Kept (sqO x Oq Op va vc) W w6.drew := (hk6s.trans' hk6 (fun j e => e.elim (fun e => .inl (.inl e)) fun e => .inl (.inr (.inr (.inr (.inr e)))))).trans' ((Kept.refl (fun _ => False) w6).drewN 1) (fun _ e => e.elim)
            have hs7 : W.heap.size ≤ w6.drew.heap.size := hk7.size
            rw [show w6.drewN 1 = w6.drew from rfl] at h7
            obtain ⟨Y7, hY7⟩ : ∃ Y, w6.drew = Y := ⟨_, rfl⟩
            have HTA := q_taken h7.ri hokR
            have HCU := mk_cut h7.mkC (by omega) (takenQ RR) htk2.1 htk2.2 (by show (addM T.cb T.cz mo en).length ≤ 2000000; unfold addM; rw [List.length_map, List.length_range]; split <;> omega)
            rw [hY7] at h7 hk7 hs7 HTA HCU
            have HTA := Lib.hid HTA
            have HCU := Lib.hid HCU
            go_wp2_with fail
            refine wp_region_held_drew (S := fun w => w.cell? ⟨x, 2, none⟩ = some (.pointer (some ⟨p, 0, none⟩))) (by kernel_rfl) (by first | exact h7.c2 | (rw [hY7]; exact h7.c2)) (fun hHeld => ?_)
            rw [hY7]
            clear hY7
            have hHeld : Y7.cell? ⟨x, 2, none⟩ = some (.pointer (some ⟨p, 0, none⟩)) := h7.c2
            refine tkq 0 (some 63) (v := ?_) rfl (Or.inl ⟨by rfl, ?_⟩) (by assumption) ?_
            rotate_left
            · intro w hSw; (try dsimp only at hSw); go_simp; first | done | (with_reducible rfl)
            simp only [Act.put, List.setIfInBounds_toArray, List.set_cons_zero, List.set_cons_succ]
            refine tkq 1 (some 64) (v := ?_) rfl (Or.inl ⟨by rfl, ?_⟩) (by assumption) ?_
            rotate_left
            · intro w hSw; (try dsimp only at hSw); go_simp; first | done | (with_reducible rfl)
            simp only [Act.put, List.setIfInBounds_toArray, List.set_cons_zero, List.set_cons_succ]
            refine tkq 2 (some 65) (v := ?_) rfl (Or.inl ⟨by rfl, ?_⟩) (by assumption) ?_
            rotate_left
            · intro w hSw; (try dsimp only at hSw); go_simp; first | done | (with_reducible rfl)
            simp only [Act.put, List.setIfInBounds_toArray, List.set_cons_zero, List.set_cons_succ]
            refine tkq 3 (some 66) (v := ?_) rfl (Or.inl ⟨by rfl, ?_⟩) (by assumption) ?_
            rotate_left
            · intro w hSw; (try dsimp only at hSw); go_simp; first | done | (with_reducible rfl)
            simp only [Act.put, List.setIfInBounds_toArray, List.set_cons_zero, List.set_cons_succ]
            refine tkq 4 (some 67) (v := ?_) rfl (Or.inl ⟨by rfl, ?_⟩) (by assumption) ?_
            rotate_left
            · intro w hSw; (try dsimp only at hSw); go_simp; first | done | (with_reducible rfl)
            simp only [Act.put, List.setIfInBounds_toArray, List.set_cons_zero, List.set_cons_succ]
            refine tkq 5 (some 68) (v := ?_) rfl (Or.inl ⟨by rfl, ?_⟩) (by assumption) ?_
            rotate_left
            · intro w hSw; (try dsimp only at hSw); go_simp; first | done | (with_reducible rfl)
            simp only [Act.put, List.setIfInBounds_toArray, List.set_cons_zero, List.set_cons_succ]
            refine tkq 6 (some 69) (v := ?_) rfl (Or.inl ⟨by rfl, ?_⟩) (by assumption) ?_
            rotate_left
            · intro w hSw; (try dsimp only at hSw); go_simp; first | done | (with_reducible rfl)
            simp only [Act.put, List.setIfInBounds_toArray, List.set_cons_zero, List.set_cons_succ]
            refine wpAnyH_ready (rs := [7]) (by kernel_rfl) (by simp) ?_
            refine AllReadyH.cons rfl (fun K hK => ?_) AllReadyH.nil
            go_simp
            go_wp2_with (go_at_call 44; (with_reducible refine HTA.out.mono ?_); rintro e w9 ⟨rfl, e2⟩; rw [e2]; clear e2)
            refine hK.out _ _ (h7.c2) (fun hHeld => ?_)
            clear hK K
            refine wpAnyH_ready (rs := [8]) (by kernel_rfl) (by simp) ?_
            refine AllReadyH.cons rfl (fun K hK => ?_) AllReadyH.nil
            go_simp
            go_wp2_with (go_at_call 43; (with_reducible refine HCU.out.mono ?_); intro e w8 hP; obtain ⟨rfl, vc8, h8, hk8, hv8⟩ := h7.came hP; clear hP)
            clear HCU HTA
            refine hK.out _ _ (h8.c2) (fun hHeld => ?_)
            clear hK K
            refine wpAnyH_done (by kernel_rfl) ?_ _
            go_wp2_with fail
            go_ret
            rw [HE.out, HX.out]
            refine ⟨rfl, hx.post (T' := cameT T RR m.k mo en) (HCT.out _ _ _ _ h8) (hk7.trans' hk8 ?_) ?_⟩
            · rintro j (e | e)
              · exact .inl (.inl e)
              · exact (hv6 j e).elim (fun e => .inl (.inr (.inr (.inr (.inr e))))) (fun e => .inr (by omega))
            · intro j hj
              rcases hj with e | e | e | e | e
              · exact .inl (.inl e)
              · exact .inl (.inr (.inl e))
              · exact (ho5 j e).imp (fun e => .inr (.inr (.inl e))) (fun e => by have := hb3.size; omega)
              · exact .inl (.inr (.inr (.inr (.inl e))))
              · rcases hv8 j e with e | e
                · exact (hv6 j e).elim (fun e => .inl (.inr (.inr (.inr (.inr e))))) (fun e => .inr (by omega))
                · exact .inr (by omega)
          · have n8 : (m.k == 8) = false := by simp [h8]
            have HCT : Hid (∀ W9 Oq9 Op9 vc9, Sq w0 W9 x q p Oq9 Op9 va vc9 { ({ T with r := RR } : TS) with cb := takenQ RR, cz := T.cz.drop (takenQ RR - T.cb) } → Sq w0 W9 x q p Oq9 Op9 va vc9 (cameT T RR m.k mo en)) := Lib.hid (fun _ _ _ _ h => by unfold cameT; rw [if_neg h8]; exact h)
            have h7 := h5.drewN 1
            have hk7 : Kept (sqO x Oq Op va vc) W w5.drew := (hk5').trans' ((Kept.refl (fun _ => False) w5).drewN 1) (fun _ e => e.elim)
            have hs7 : W.heap.size ≤ w5.drew.heap.size := hk7.size
            rw [show w5.drewN 1 = w5.drew from rfl] at h7
            obtain ⟨Y7, hY7⟩ : ∃ Y, w5.drew = Y := ⟨_, rfl⟩
            have HTA := q_taken h7.ri hokR
            have HCU := mk_cut h7.mkC (by omega) (takenQ RR) htk2.1 htk2.2 (by show T.cz.length ≤ 2000000; omega)
            rw [hY7] at h7 hk7 hs7 HTA HCU
            have HTA := Lib.hid HTA
            have HCU := Lib.hid HCU
            go_wp2_with fail
            refine wp_region_held_drew (S := fun w => w.cell? ⟨x, 2, none⟩ = some (.pointer (some ⟨p, 0, none⟩))) (by kernel_rfl) (by first | exact h7.c2 | (rw [hY7]; exact h7.c2)) (fun hHeld => ?_)
            rw [hY7]
            clear hY7
            have hHeld : Y7.cell? ⟨x, 2, none⟩ = some (.pointer (some ⟨p, 0, none⟩)) := h7.c2
            refine tkq 0 (some 63) (v := ?_) rfl (Or.inl ⟨by rfl, ?_⟩) (by assumption) ?_
            rotate_left
            · intro w hSw; (try dsimp only at hSw); go_simp; first | done | (with_reducible rfl)
            simp only [Act.put, List.setIfInBounds_toArray, List.set_cons_zero, List.set_cons_succ]
            refine tkq 1 (some 64) (v := ?_) rfl (Or.inl ⟨by rfl, ?_⟩) (by assumption) ?_
            rotate_left
            · intro w hSw; (try dsimp only at hSw); go_simp; first | done | (with_reducible rfl)
            simp only [Act.put, List.setIfInBounds_toArray, List.set_cons_zero, List.set_cons_succ]
            refine tkq 2 (some 65) (v := ?_) rfl (Or.inl ⟨by rfl, ?_⟩) (by assumption) ?_
            rotate_left
            · intro w hSw; (try dsimp only at hSw); go_simp; first | done | (with_reducible rfl)
            simp only [Act.put, List.setIfInBounds_toArray, List.set_cons_zero, List.set_cons_succ]
            refine tkq 3 (some 66) (v := ?_) rfl (Or.inl ⟨by rfl, ?_⟩) (by assumption) ?_
            rotate_left
            · intro w hSw; (try dsimp only at hSw); go_simp; first | done | (with_reducible rfl)
            simp only [Act.put, List.setIfInBounds_toArray, List.set_cons_zero, List.set_cons_succ]
            refine tkq 4 (some 67) (v := ?_) rfl (Or.inl ⟨by rfl, ?_⟩) (by assumption) ?_
            rotate_left
            · intro w hSw; (try dsimp only at hSw); go_simp; first | done | (with_reducible rfl)
            simp only [Act.put, List.setIfInBounds_toArray, List.set_cons_zero, List.set_cons_succ]
            refine tkq 5 (some 68) (v := ?_) rfl (Or.inl ⟨by rfl, ?_⟩) (by assumption) ?_
            rotate_left
            · intro w hSw; (try dsimp only at hSw); go_simp; first | done | (with_reducible rfl)
            simp only [Act.put, List.setIfInBounds_toArray, List.set_cons_zero, List.set_cons_succ]
            refine tkq 6 (some 69) (v := ?_) rfl (Or.inl ⟨by rfl, ?_⟩) (by assumption) ?_
            rotate_left
            · intro w hSw; (try dsimp only at hSw); go_simp; first | done | (with_reducible rfl)
            simp only [Act.put, List.setIfInBounds_toArray, List.set_cons_zero, List.set_cons_succ]
            refine wpAnyH_ready (rs := [7]) (by kernel_rfl) (by simp) ?_
            refine AllReadyH.cons rfl (fun K hK => ?_) AllReadyH.nil
            go_simp
            go_wp2_with (go_at_call 44; (with_reducible refine HTA.out.mono ?_); rintro e w9 ⟨rfl, e2⟩; rw [e2]; clear e2)
            refine hK.out _ _ (h7.c2) (fun hHeld => ?_)
            clear hK K
            refine wpAnyH_ready (rs := [8]) (by kernel_rfl) (by simp) ?_
            refine AllReadyH.cons rfl (fun K hK => ?_) AllReadyH.nil
            go_simp
            go_wp2_with (go_at_call 43; (with_reducible refine HCU.out.mono ?_); intro e w8 hP; obtain ⟨rfl, vc8, h8, hk8, hv8⟩ := h7.came hP; clear hP)
            clear HCU HTA
            refine hK.out _ _ (h8.c2) (fun hHeld => ?_)
            clear hK K
            refine wpAnyH_done (by kernel_rfl) ?_ _
            go_wp2_with fail
            go_ret
            rw [HE.out, HX.out]
            refine ⟨rfl, hx.post (T' := cameT T RR m.k mo en) (HCT.out _ _ _ _ h8) (hk7.trans' hk8 ?_) ?_⟩
            · rintro j (e | e)
              · exact .inl (.inl e)
              · exact .inl (.inr (.inr (.inr (.inr e))))
            · intro j hj
              rcases hj with e | e | e | e | e
              · exact .inl (.inl e)
              · exact .inl (.inr (.inl e))
              · exact (ho5 j e).imp (fun e => .inr (.inr (.inl e))) (fun e => by have := hb3.size; omega)
              · exact .inl (.inr (.inr (.inr (.inl e))))
              · rcases hv8 j e with e | e
                · exact .inl (.inr (.inr (.inr (.inr e))))
                · exact .inr (by omega)
        · have n0 : (EE == 0) = false := by simp [e0]
          have hT0 : { T with r := RR } = T := by rw [← hRR, onX_no (by rw [hEE]; exact e0)]
          rw [hT0] at h5
          go_wp2_with fail
          go_ret
          rw [HE.out, HX.out, if_neg e23, if_neg e30, if_neg e0]
          exact ⟨rfl, hx.post h5 hk5' (fun j hj => by
        rcases hj with e | e | e | e | e
        · exact .inl (.inl e)
        · exact .inl (.inr (.inl e))
        · exact (ho5 j e).imp (fun e => .inr (.inr (.inl e))) (fun e => by have := hb3.size; omega)
        · exact .inl (.inr (.inr (.inr (.inl e))))
        · exact .inl (.inr (.inr (.inr (.inr e)))))⟩
end
end Go.Proofs.Ytndaikeeikimeaa
