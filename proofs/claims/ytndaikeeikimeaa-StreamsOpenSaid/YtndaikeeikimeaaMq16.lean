/-
  inbuf.Buffer: lay, fill.
-/
import Derived.Test.YtndaikeeikimeaaMq15
import Derived.Test.YtndaikeeikimeaaQi
import Derived.Deep.LoopGhost
import Derived.StillTailTactics
namespace Go.Proofs.Ytndaikeeikimeaa
section
set_option linter.unusedVariables false
set_option linter.unusedSimpArgs false
open Go.RowKit
theorem own_some {w : World} {base : Nat} {T : TypeId} {v : Value} {W : List Int} (h : Own w base T v W) (h0 : 0 < W.length) :
    ∃ g c cur, v = .slice (some ⟨g, 0, none⟩) W.length c ∧ base ≤ g ∧ g < w.heap.size ∧ At w g T cur ∧ W.length ≤ c ∧ c ≤ maxLen ∧ cur.length = c ∧ cur.take W.length = W.map (Value.int .u8) := by
  obtain ⟨A, c, e, h1, h2, h3⟩ := ow_open (own_ow h)
  rw [List.length_map] at e h1 h3
  rcases h3 with ⟨_, _, hx⟩ | ⟨g, cur, rfl, hb, hlt, hA, hl, ht⟩
  · simp at hx; subst hx; simp at h0
  · exact ⟨g, c, cur, e, hb, hlt, hA, h1, h2, hl, ht⟩
theorem splice_take_in {α : Type} (L cs : List α) (o N : Nat) (h1 : o + cs.length ≤ N) (h2 : N ≤ L.length) : (splice L o cs).take N = splice (L.take N) o cs := by
  have hl : (L.take N).length = N := by simp; omega
  apply List.ext_getElem?
  intro i
  by_cases hi : i < N
  · rw [List.getElem?_take_of_lt hi]
    by_cases hc : o ≤ i ∧ i < o + cs.length
    · rw [splice_get_in _ _ _ _ hc.1 hc.2 (by omega), splice_get_in _ _ _ _ hc.1 hc.2 (by omega)]
    · rw [splice_get_out _ _ _ _ (by omega) (by omega), splice_get_out _ _ _ _ (by omega) (by omega), List.getElem?_take_of_lt hi]
  · rw [List.getElem?_eq_none (by rw [List.length_take]; omega), List.getElem?_eq_none (by rw [length_splice _ _ _ (by omega)]; omega)]
/-- Bytes laid into a row of the call's own. -/
theorem own_splice {w : World} {base g c o : Nat} {T : TypeId} {cur : List Value} {W bs : List Int} (hW : Byt W) (hb : Byt bs) (hbg : base ≤ g) (hA : At w g T (splice cur o (bs.map (Value.int .u8)))) (hn : W.length ≤ c) (hc : c ≤ maxLen) (hl : cur.length = c)
    (ht : cur.take W.length = W.map (Value.int .u8)) (ho : o + bs.length ≤ W.length) : Own w base T (.slice (some ⟨g, 0, none⟩) W.length c) (splice W o bs) := by
  have hls : (splice W o bs).length = W.length := length_splice _ _ _ ho
  refine Own.of_block (splice_byt hW hb o) hls hA hbg hn hc (by simp only [List.size_toArray]; rw [length_splice _ _ _ (by simp; omega)]; exact hl) ?_
  simp only [List.toList_toArray]
  rw [← splice_map, ← ht, splice_take_in _ _ _ _ (by rw [List.length_map]; exact ho) (by omega)]
/-- A row that was made longer is stored. -/
theorem Bc.grow {w w1 : World} {base p ps : Nat} {vs vw v1 : Value} {l : RL} {W : List Int} {S : BS} (h : Bc w base p ps vs vw l W S) (N : Nat) (hN : N ≤ 2048) (h1 : Own w1 base 5 v1 (padW W N))
    (k : Kept (fun b => vw.ownBlock = some b) w w1) (hv : ∀ j, v1.ownBlock = some j → vw.ownBlock = some j ∨ w.heap.size ≤ j) :
    Bc (w1.setCell ⟨p, 5, none⟩ v1) base p ps vs v1 l (padW W N) S ∧ Kept (bO p ps vs vw) w (w1.setCell ⟨p, 5, none⟩ v1) := by
  have hl := h.lt
  have hp := hl p (.inl rfl)
  have hps := hl ps (.inr (.inl rfl))
  have n3 : v1.ownBlock ≠ some p := fun e => (hv p e).elim h.n3 fun h' => by omega
  have n4 : v1.ownBlock ≠ some ps := fun e => (hv ps e).elim h.n4 fun h' => by omega
  have n5 : ∀ k, vs.ownBlock = some k → v1.ownBlock ≠ some k := fun k hk e => (hv k e).elim (h.n5 k hk) fun h' => by have := (hl k (.inr (.inr (.inl hk)))).2; omega
  have k2 : Kept (bO p ps vs vw) w (w1.setCell ⟨p, 5, none⟩ v1) := (k.mono fun j hj => .inl (.inr (.inr (.inr hj)))).setCell (.inl (.inl rfl)) _
  have hpl := padW_len W N
  refine ⟨⟨(h.at_.kept k h.n3).set 5 v1, ?_, h1.keep fun j hj => Below.heap_setCell _ _ _ _ (by rintro rfl; exact n3 hj), h.n1, h.n2, n3, n4, n5, h.bp, ⟨h.pm.gd, fun r hr => ⟨(h.pm.rng r hr).1, by have := (h.pm.rng r hr).2; omega⟩, by have := h.pm.wl; omega, h.pm.has, fun n x hn hx => padW_get (h.pm.byt n x hn hx)⟩⟩, k2⟩
  refine (h.set_.kept k h.n4 fun j hj => h.n5 j hj).kept ((Kept.refl (fun b => b = p) w1).setCell (.inl rfl) v1) (fun e => h.n1 e.symm) (fun j hj e => h.n2 (by rw [hj, e]))
/-- What stands behind the copy and behind Add. -/
theorem Bc.fin {w X w5 w6 : World} {base p ps g1 m c1 : Nat} {vs vw r : Value} {e : Ending} {l l' : RL} {W1 W5 : List Int} {S : BS} {g' : Nat → Option Int} (hB : Bc X base p ps vs (.slice (some ⟨g1, 0, none⟩) m c1) l W1 S)
    (h5 : Own w5 base 5 (.slice (some ⟨g1, 0, none⟩) m c1) W5) (k5 : Kept (· = g1) X w5) (hA : SetPost r base ps 2048 vs l' w5 e w6) (hp : Pm S.rd l' W5 g') (hk : Kept (bO p ps vs vw) w X) (hv : vw.ownBlock = some g1 ∨ w.heap.size ≤ g1) :
    BPost (.tuple #[]) base p (bO p ps vs vw) ⟨S.rd, S.hi, S.fi, S.en, g'⟩ w (.returned (.tuple #[])) w6 := by
  obtain ⟨_, v', hs', k6, hv'⟩ := hA
  have hl := hB.lt
  have hpl := (hl p (.inl rfl)).2
  have hpsl := (hl ps (.inr (.inl rfl))).2
  have hgl := (hl g1 (.inr (.inr (.inr rfl)))).2
  have hpg : p ≠ g1 := fun e => hB.n3 (by rw [e]; rfl)
  have hpsg : ps ≠ g1 := fun e => hB.n4 (by rw [e]; rfl)
  have hsg : ∀ k, vs.ownBlock = some k → k ≠ g1 := fun k hk e => hB.n5 k hk (by rw [e]; rfl)
  have hsz := k5.size
  refine ⟨rfl, _, ⟨ps, v', .slice (some ⟨g1, 0, none⟩) m c1, l', W5, rfl, ⟨?_, hs', ?_, hB.n1, ?_, hB.n3, hB.n4, ?_, hB.bp, hp⟩⟩, ?_, ?_⟩
  · exact (hB.at_.kept k5 hpg).kept k6 fun e => e.elim hB.n1 fun e => hB.n2 e
  · refine h5.kept k6 fun j hj e => ?_
    injection hj with hj
    subst hj
    exact e.elim (fun e => hpsg e.symm) fun e => hsg _ e rfl
  · intro e
    rcases hv' p e with h | h
    · exact hB.n2 h
    · omega
  · intro k hk' e
    injection e with e
    subst e
    rcases hv' g1 hk' with h | h
    · exact hsg _ h rfl
    · omega
  · refine (hk.trans' k5 fun j hj => ?_).trans' k6 fun j hj => ?_
    · subst hj
      exact hv.imp (fun h => .inr (.inr (.inr h))) id
    · exact .inl (hj.elim (fun h => .inr (.inl h)) fun h => .inr (.inr (.inl h)))
  · rintro j (rfl | rfl | hj | hj)
    · exact .inl (.inl rfl)
    · exact .inl (.inr (.inl rfl))
    · rcases hv' j hj with h | h
      · exact .inl (.inr (.inr (.inl h)))
      · exact .inr (by have := hk.size; omega)
    · injection hj with hj
      subst hj
      exact hv.imp (fun h => .inr (.inr (.inr h))) id
set_option maxHeartbeats 4000000 in
set_option maxRecDepth 100000 in
theorem lay_any (base p : Nat) (O : Nat → Prop) (S : BS) (off : Nat) (A : Option Addr) (n c : Nat) (bs : List Int) (w : World) (h : Bf w base p O S) (hb : base ≤ w.heap.size) (hm : S.rd ≤ 1099511628288)
    (hr : RdP w (fun b => ¬ O b) A n bs) (h0 : 0 < n) (h1 : S.rd ≤ off) (h2 : off + n ≤ S.rd + 2048) (hno : ∀ m, off ≤ m → m < off + n → S.g m = none) :
    Calls Try.prog 59 #[.pointer (some ⟨p, 0, none⟩), .int .u64 off, .slice A n c] w (BPost (.tuple #[]) base p O ⟨S.rd, S.hi, S.fi, S.en, addG S.g off bs⟩ w) := by
  obtain ⟨ps, vs, vw, l, W, rfl, hc⟩ := h
  have hlen := hr.len
  have hpm := pm_lay (bs := bs) hc.pm h1 (by omega) hm (by rw [hlen]; exact hno)
  rw [hlen] at hpm
  have hbyt := hr.byt
  obtain ⟨rd, hi, fi, en, g⟩ := S
  simp only at hc hpm h1 h2 hm hno ⊢
  have hWb := hc.own.byt
  have hwl := hc.pm.wl
  have hgd := hc.pm.gd
  have hll := hc.pm.len
  have hPL := padW_len W (off + n - rd)
  obtain ⟨E, hE⟩ : ∃ E, E = off + n := ⟨_, rfl⟩
  obtain ⟨N, hN⟩ : ∃ N, N = E - rd := ⟨_, rfl⟩
  obtain ⟨o, ho⟩ : ∃ o, o = off - rd := ⟨_, rfl⟩
  rw [← hE, ← ho, ← hN] at hpm
  rw [← hE, ← hN] at hPL
  have HADD : Hid (∀ w2, SetV w2 base ps 2048 vs l → base ≤ w2.heap.size → Calls Try.prog 62 #[.pointer (some ⟨ps, 0, none⟩), .int .u64 off, .int .u64 E] w2 (SetPost (.bool (addB l off E 2048)) base ps 2048 vs (addV l off E 2048) w2)) := Lib.hid (fun w2 hs hb2 => add_any' base ps 2048 vs l w2 hs (by omega) hgd hb2 (by omega) off E (by omega))
  have HPM := Lib.hid hpm
  have HRD : Hid (∀ X, Kept (bO p ps vs vw) w X → Rd X X.heap.size A n bs) := Lib.hid (fun X k => (hr.kept k fun b hb => hb).1)
  have HBY := Lib.hid hbyt
  have HL := Lib.hid hlen
  clear hpm hno hr hbyt hgd
  have hEz : (off : Int) + (n : Int) = (E : Int) := by omega
  have hoz : (off : Int) - (rd : Int) = (o : Int) := by omega
  have hNz : (E : Int) - (rd : Int) = (N : Int) := by omega
  have hEb : E ≤ 1099511630336 := by omega
  have hoN : o + n = N := by omega
  have HC := Lib.hid hc
  have hplt := hc.at_.lt
  have hcells0 := hc.c0
  have hcells4 := hc.c4
  have hcells5 := hc.c5
  have HE := Lib.hid hE
  have HNN := Lib.hid hN
  have HOO := Lib.hid ho
  have HLW : Hid (∀ B, Hid (B = W.length) → B ≤ 2048) := Lib.hid (fun B h => by rw [h.out]; exact hwl)
  clear hE hN ho
  by_cases hlk : W.length < N
  · -- the row grows
    obtain ⟨k, hk⟩ : ∃ k, N = W.length + k := ⟨N - W.length, by omega⟩
    have hPW : Hid (padW W N = W ++ List.replicate k 0) := Lib.hid (by unfold padW; rw [hk]; congr 2; omega)
    have how := own_ow hc.own
    have hWl : (W.map (Value.int .u8)).length = W.length := List.length_map ..
    obtain ⟨A1, c1, e1, hn1, hc1, _⟩ := hc.own.open_
    subst e1
    have hGR : Hid (∀ w1 g2 c2, Ow w1 base 5 (.slice (some ⟨g2, 0, none⟩) N c2) (W.map (Value.int .u8) ++ List.replicate k (Value.int .u8 0)) → Own w1 base 5 (.slice (some ⟨g2, 0, none⟩) N c2) (padW W N)) := Lib.hid (fun w1 g2 c2 h => by
      rw [hPW.out]
      refine ow_own (by rw [List.map_append, List.map_replicate]; exact h) ?_
      rw [← hPW.out]
      exact padW_byt hWb _)
    have HOW : Hid (∀ d, Ow (w.drewN d) base 5 (.slice A1 W.length c1) (W.map (Value.int .u8))) := Lib.hid (fun d => ow_keep how fun _ _ => rfl)
    have HPN : Hid ((padW W N).length = N) := Lib.hid (by rw [hPL]; omega)
    have HWB := Lib.hid hWb
    clear hc hPW how hPL hWb
    have hkz : (N : Int) - (W.length : Int) = (k : Int) := by omega
    have hkp : (0 : Int) < (k : Int) := by omega
    have hmk : W.length + k = N := by omega
    have hm' : W.length ≤ 2048 := hwl
    generalize hm : W.length = m at *
    have HM := Lib.hid hm
    clear hm hk hlk
    go_enter Try.func59, Try.ntmps59
    go_wp2
    go_quiet (fail)
    generalize hWW : World.drewN w _ = W3
    obtain ⟨d, hd⟩ : ∃ d, W3 = w.drewN d := ⟨_, hWW.symm⟩
    clear hWW
    have hc3 : W3.cell? ⟨p, 5, none⟩ = some (.slice A1 m c1) := by rw [hd]; exact hcells5
    have hO3 : Ow W3 base 5 (.slice A1 m c1) (W.map (Value.int .u8)) := by rw [hd]; exact HOW.out d
    have hB3 : Hid (Bc W3 base p ps vs (.slice A1 m c1) l W ⟨rd, hi, fi, en, g⟩) := Lib.hid (by rw [hd]; exact HC.out.drewN d)
    have hk3 : Hid (Kept (bO p ps vs (.slice A1 m c1)) w W3) := Lib.hid (by rw [hd]; exact (Kept.refl _ _).drewN d)
    have hs3 : Hid (W3.heap.size = w.heap.size) := Lib.hid (by rw [hd]; rfl)
    have hb3 : base ≤ W3.heap.size := by rw [hs3.out]; exact hb
    clear hd hcells5 hcells0 hcells4
    go_wp2_with (at_builtin; refine wpList_zeros1 o8 3 Try.underlying3 rfl (.tmp 32) (.tmp 33) rfl base m c1 A1 (W.map (Value.int .u8)) rfl hO3 hWl k rfl (by omega) (by omega) hb3 ?_; intro w1 g1 c2 hO4 hn4 hc4 hbg hg4 hgr4 hal4; rw [hmk] at hO4 hn4; have hk4 := grown_kept hgr4; have hp4 := hB3.out.at_.kept hk4 hB3.out.n3; have hf4 := hp4.frozen 5; have hc4' : w1.cell? ⟨p, 5, none⟩ = some (.slice A1 m c1) := (by rw [hp4.cell]; rfl); have HG := Lib.hid (hB3.out.grow N (by omega) (hGR.out w1 g1 c2 hO4) hk4 (fun j hj => (by injection hj with hj; subst hj; exact hal4.imp (fun h => (by rw [h]; rfl)) (fun h => Nat.le_of_eq h.symm)))); clear hp4 hk4 hO4)
    generalize hXX : World.setCell w1 _ _ = X at *
    have HB := Lib.hid HG.out.1
    have HK := Lib.hid (hk3.out.trans HG.out.2)
    have HV : Hid ((Value.slice A1 m c1).ownBlock = some g1 ∨ w.heap.size ≤ g1) := Lib.hid (hal4.imp (fun h => by rw [h]; rfl) fun h => by rw [h, hs3.out]; exact Nat.le_refl _)
    have HCM := Lib.hid hc4
    have HBG := Lib.hid hbg
    have hc2m : c2 ≤ 9223372036854775807 := by unfold maxLen at hc4; omega
    clear hf4 hc4' hgr4 hal4 hXX HG hc3 hO3 hc4 hbg
    have hcX5 : X.cell? ⟨p, 5, none⟩ = some (.slice (some ⟨g1, 0, none⟩) N c2) := HB.out.c5
    have hcX0 : X.cell? ⟨p, 0, none⟩ = some (.int .u64 rd) := HB.out.c0
    obtain ⟨cur, hAX, hcl, hct⟩ : ∃ cur, At X g1 5 cur ∧ Hid (cur.length = c2) ∧ Hid (cur.take N = (padW W N).map (Value.int .u8)) := by
      obtain ⟨A', c', e, _, _, ho⟩ := ow_open (own_ow HB.out.own)
      rw [List.length_map, HPN.out] at e ho
      injection e with e1 _ e3
      subst e1; subst e3
      rcases ho with ⟨h, _⟩ | ⟨g', cur, h, _, _, hA, hl, ht⟩
      · cases h
      · injection h with h
        injection h with h
        subst h
        exact ⟨cur, hA, Lib.hid hl, Lib.hid ht⟩
    have hrX := HRD.out X HK.out
    have hsX := HB.out.set_
    have HSX := Lib.hid hsX
    clear hsX
    have hbX : base ≤ X.heap.size := Nat.le_trans hb HK.out.size
    have mixed : Try.prog.follows .mixedOrders = true := by kernel_rfl
    have hocz : (o : Int) ≤ (c2 : Int) := by omega
    have hwo : IntKind.u64.wrap (o : Int) = (o : Int) := by rw [IntKind.wrap_u64]; omega
    have hoMz : (o : Int) ≤ (N : Int) := by omega
    have hco : ¬ c2 = o := by omega
    have hAX' : At X.drew g1 5 cur := hAX
    have hrX' : Rd X.drew X.drew.heap.size A n bs := hrX
    have hlen' : (bs.map (Value.int .u8)).length = n := by rw [List.length_map]; exact HL.out
    have hmn : Nat.min n (N - o) = n := Nat.min_eq_left (by omega)
    have hsrc := rd_src hrX'
    have h1b := oneCell_u8 bs
    obtain ⟨xs, hxs⟩ : ∃ xs, bs.map (Value.int .u8) = xs := ⟨_, rfl⟩
    rw [hxs] at hlen' hsrc h1b
    have HXS := Lib.hid hxs
    clear hxs hAX hrX
    have HF5 : Hid (∀ w5, At w5 g1 5 (splice cur o xs) → Kept (· = g1) X.drew w5 → Own w5 base 5 (.slice (some ⟨g1, 0, none⟩) N c2) (splice (padW W N) o bs) ∧ Kept (· = g1) X w5 ∧ SetV w5 base ps 2048 vs l ∧ w5.cell? ⟨p, 4, none⟩ = some (.pointer (some ⟨ps, 0, none⟩)) ∧ base ≤ w5.heap.size) := Lib.hid (by
      intro w5 h5 k5
      have k5' := k5.from_drew
      have hpg : p ≠ g1 := fun e => HB.out.n3 (by rw [e]; rfl)
      have hpsg : ps ≠ g1 := fun e => HB.out.n4 (by rw [e]; rfl)
      have hsg : ∀ k, vs.ownBlock = some k → k ≠ g1 := fun k hk e => HB.out.n5 k hk (by rw [e]; rfl)
      refine ⟨?_, k5', HSX.out.kept k5' hpsg hsg, by rw [(HB.out.at_.kept k5' hpg).cell]; rfl, Nat.le_trans hbX k5'.size⟩
      have e : (padW W N).length = N := HPN.out
      have := own_splice (W := padW W N) (bs := bs) (padW_byt HWB.out N) HBY.out HBG.out (by rw [HXS.out]; exact h5) (by omega) HCM.out hcl.out (by rw [e]; exact hct.out) (by rw [HL.out]; omega)
      rw [e] at this
      exact this)
    have hfit : o + xs.length ≤ cur.length := by rw [hlen', hcl.out]; omega
    have HFIN : Hid (∀ w5 w6 e, Kept (· = g1) X.drew w5 → At w5 g1 5 (splice cur o xs) → SetPost (.bool (addB l off E 2048)) base ps 2048 vs (addV l off E 2048) w5 e w6 → BPost (.tuple #[]) base p (bO p ps vs (.slice A1 m c1)) ⟨rd, hi, fi, en, addG g off bs⟩ w (.returned (.tuple #[])) w6) := Lib.hid (fun w5 w6 e k5 h5 hP => Bc.fin HB.out (HF5.out w5 h5 k5).1 k5.from_drew hP HPM.out HK.out HV.out)
    clear hcl hct
    go_wp2_with fail
    go_region_law_o (refine step_copy1 o8 rfl (.tmp 47) (.tmp 48) rfl (some ⟨g1, o, none⟩) A (N - o) (c2 - o) n c g1 o cur _ xs (by simp [Act.eval, Act.put]) (by simp [Act.eval, Act.put]) hAX' (by rw [hmn]; exact hlen') (fun _ => rfl) (fun _ => hsrc h0) hfit h1b ?_; intro w5 h5 k5; obtain ⟨q1, q2, q3, q4, q5⟩ := HF5.out w5 h5 k5; have HA5 := Lib.hid (HADD.out w5 q3 q5); have H5 := Lib.hid (And.intro k5 h5); clear q1 q2 q3 q5 k5 h5)
    all_goals go_wp2_with (go_at_call 62; refine HA5.out.mono ?_; intro e w6 hP; have HP6 := Lib.hid (HFIN.out _ w6 e H5.out.1 H5.out.2 hP); obtain ⟨rfl, _⟩ := hP)
    all_goals go_end0
    all_goals exact HP6.out
  · -- there is room
    have hPI : padW W N = W := padW_id (by omega)
    obtain ⟨g1, c2, cur0, e1, hbg, hg1, hA0, hn4, hc4, hcl0, hct0⟩ := own_some hc.own (by omega)
    subst e1
    have HPN : Hid ((padW W N).length = W.length) := Lib.hid (by rw [hPI])
    have HWB := Lib.hid hWb
    have HCM := Lib.hid hc4
    have HBG := Lib.hid hbg
    have hc2m : c2 ≤ 9223372036854775807 := by unfold maxLen at hc4; omega
    have hkz : ¬ (0 : Int) < (N : Int) - (W.length : Int) := by omega
    have hmN : N ≤ W.length := by omega
    have hm' : W.length ≤ 2048 := hwl
    have HC : Hid (Bc w base p ps vs (.slice (some ⟨g1, 0, none⟩) W.length c2) l (padW W N) ⟨rd, hi, fi, en, g⟩) := Lib.hid (by rw [hPI]; exact HC.out)
    clear hc hPL hWb hA0 hcl0 hct0 hPI hlk hbg hc4
    generalize hm : W.length = m at *
    have HM := Lib.hid hm
    clear hm
    go_enter Try.func59, Try.ntmps59
    go_wp2
    go_quiet (fail)
    generalize hWW : World.drewN w _ = X
    obtain ⟨d, hd⟩ : ∃ d, X = w.drewN d := ⟨_, hWW.symm⟩
    clear hWW
    have HB : Hid (Bc X base p ps vs (.slice (some ⟨g1, 0, none⟩) m c2) l (padW W N) ⟨rd, hi, fi, en, g⟩) := Lib.hid (by rw [hd]; exact HC.out.drewN d)
    have HK : Hid (Kept (bO p ps vs (.slice (some ⟨g1, 0, none⟩) m c2)) w X) := Lib.hid (by rw [hd]; exact (Kept.refl _ _).drewN d)
    have HV : Hid ((Value.slice (some ⟨g1, 0, none⟩) m c2).ownBlock = some g1 ∨ w.heap.size ≤ g1) := Lib.hid (.inl rfl)
    clear hd hcells5 hcells0 hcells4
    have hcX5 : X.cell? ⟨p, 5, none⟩ = some (.slice (some ⟨g1, 0, none⟩) m c2) := HB.out.c5
    have hcX0 : X.cell? ⟨p, 0, none⟩ = some (.int .u64 rd) := HB.out.c0
    obtain ⟨cur, hAX, hcl, hct⟩ : ∃ cur, At X g1 5 cur ∧ Hid (cur.length = c2) ∧ Hid (cur.take m = (padW W N).map (Value.int .u8)) := by
      obtain ⟨A', c', e, _, _, ho⟩ := ow_open (own_ow HB.out.own)
      rw [List.length_map, HPN.out] at e ho
      injection e with e1 _ e3
      subst e1; subst e3
      rcases ho with ⟨h, _⟩ | ⟨g', cur, h, _, _, hA, hl, ht⟩
      · cases h
      · injection h with h
        injection h with h
        subst h
        exact ⟨cur, hA, Lib.hid hl, Lib.hid ht⟩
    have hrX := HRD.out X HK.out
    have hsX := HB.out.set_
    have HSX := Lib.hid hsX
    clear hsX
    have hbX : base ≤ X.heap.size := Nat.le_trans hb HK.out.size
    have mixed : Try.prog.follows .mixedOrders = true := by kernel_rfl
    have hocz : (o : Int) ≤ (c2 : Int) := by omega
    have hwo : IntKind.u64.wrap (o : Int) = (o : Int) := by rw [IntKind.wrap_u64]; omega
    have hoMz : (o : Int) ≤ (m : Int) := by omega
    have hco : ¬ c2 = o := by omega
    have hAX' : At X.drew g1 5 cur := hAX
    have hrX' : Rd X.drew X.drew.heap.size A n bs := hrX
    have hlen' : (bs.map (Value.int .u8)).length = n := by rw [List.length_map]; exact HL.out
    have hmn : Nat.min n (m - o) = n := Nat.min_eq_left (by omega)
    have hsrc := rd_src hrX'
    have h1b := oneCell_u8 bs
    obtain ⟨xs, hxs⟩ : ∃ xs, bs.map (Value.int .u8) = xs := ⟨_, rfl⟩
    rw [hxs] at hlen' hsrc h1b
    have HXS := Lib.hid hxs
    clear hxs hAX hrX
    have HF5 : Hid (∀ w5, At w5 g1 5 (splice cur o xs) → Kept (· = g1) X.drew w5 → Own w5 base 5 (.slice (some ⟨g1, 0, none⟩) m c2) (splice (padW W N) o bs) ∧ Kept (· = g1) X w5 ∧ SetV w5 base ps 2048 vs l ∧ w5.cell? ⟨p, 4, none⟩ = some (.pointer (some ⟨ps, 0, none⟩)) ∧ base ≤ w5.heap.size) := Lib.hid (by
      intro w5 h5 k5
      have k5' := k5.from_drew
      have hpg : p ≠ g1 := fun e => HB.out.n3 (by rw [e]; rfl)
      have hpsg : ps ≠ g1 := fun e => HB.out.n4 (by rw [e]; rfl)
      have hsg : ∀ k, vs.ownBlock = some k → k ≠ g1 := fun k hk e => HB.out.n5 k hk (by rw [e]; rfl)
      refine ⟨?_, k5', HSX.out.kept k5' hpsg hsg, by rw [(HB.out.at_.kept k5' hpg).cell]; rfl, Nat.le_trans hbX k5'.size⟩
      have e : (padW W N).length = m := HPN.out
      have := own_splice (W := padW W N) (bs := bs) (padW_byt HWB.out N) HBY.out HBG.out (by rw [HXS.out]; exact h5) (by omega) HCM.out hcl.out (by rw [e]; exact hct.out) (by rw [HL.out]; omega)
      rw [e] at this
      exact this)
    have hfit : o + xs.length ≤ cur.length := by rw [hlen', hcl.out]; omega
    have HFIN : Hid (∀ w5 w6 e, Kept (· = g1) X.drew w5 → At w5 g1 5 (splice cur o xs) → SetPost (.bool (addB l off E 2048)) base ps 2048 vs (addV l off E 2048) w5 e w6 → BPost (.tuple #[]) base p (bO p ps vs (.slice (some ⟨g1, 0, none⟩) m c2)) ⟨rd, hi, fi, en, addG g off bs⟩ w (.returned (.tuple #[])) w6) := Lib.hid (fun w5 w6 e k5 h5 hP => Bc.fin HB.out (HF5.out w5 h5 k5).1 k5.from_drew hP HPM.out HK.out HV.out)
    clear hcl hct
    go_wp2_with fail
    go_region_law_o (refine step_copy1 o8 rfl (.tmp 47) (.tmp 48) rfl (some ⟨g1, o, none⟩) A (m - o) (c2 - o) n c g1 o cur _ xs (by simp [Act.eval, Act.put]) (by simp [Act.eval, Act.put]) hAX' (by rw [hmn]; exact hlen') (fun _ => rfl) (fun _ => hsrc h0) hfit h1b ?_; intro w5 h5 k5; obtain ⟨q1, q2, q3, q4, q5⟩ := HF5.out w5 h5 k5; have HA5 := Lib.hid (HADD.out w5 q3 q5); have H5 := Lib.hid (And.intro k5 h5); clear q1 q2 q3 q5 k5 h5)
    all_goals go_wp2_with (go_at_call 62; refine HA5.out.mono ?_; intro e w6 hP; have HP6 := Lib.hid (HFIN.out _ w6 e H5.out.1 H5.out.2 hP); obtain ⟨rfl, _⟩ := hP)
    all_goals go_end0
    all_goals exact HP6.out
-- END lay
end
section
set_option linter.unusedVariables false
set_option linter.unusedSimpArgs false
open Go.RowKit
/-- What fill keeps while it lays gap by gap. -/
structure Fl (w wr : World) (base p : Nat) (O : Nat → Prop) (S : BS) (off : Nat) (bs : List Int) (f : Nat) : Prop where
  bf : ∃ O', Bf wr base p O' ⟨S.rd, S.hi, S.fi, S.en, addG S.g off (bs.take (f - off))⟩ ∧ ∀ j, O' j → O j ∨ w.heap.size ≤ j
  k : Kept O w wr
set_option maxHeartbeats 4000000 in
set_option maxRecDepth 100000 in
theorem fill_any (base p : Nat) (O : Nat → Prop) (S : BS) (off : Nat) (A : Option Addr) (n c : Nat) (bs : List Int) (w : World) (h : Bf w base p O S) (hok : S.ok) (hb : base ≤ w.heap.size)
    (hr : RdP w (fun b => ¬ O b) A n bs) (hnc : n ≤ c) (h2 : off + n ≤ S.rd + 2048) :
    Calls Try.prog 54 #[.pointer (some ⟨p, 0, none⟩), .int .u64 off, .slice A n c] w (BPost (.tuple #[]) base p O ⟨S.rd, S.hi, S.fi, S.en, addG S.g off bs⟩ w) := by
  have hst := addG_start S hok off bs
  have hrd : S.rd ≤ 1099511628288 := by have := hok.rh; have := hok.hm; omega
  have hlen := hr.len
  have hHB : Hid (∀ b, O b → b < w.heap.size) := Lib.hid (fun b hb => (h.lt b hb).2)
  have HFL : Hid (Fl w w base p O S off bs (max off S.rd)) := Lib.hid ⟨⟨O, by rw [hst]; exact h, fun j hj => .inl hj⟩, Kept.refl _ _⟩
  have hc0 : w.cell? ⟨p, 0, none⟩ = some (.int .u64 S.rd) := by
    obtain ⟨ps, vs, vw, l, W, _, hc⟩ := h
    exact hc.c0
  have HEND : Hid (∀ (wr : World) (f : Nat), Fl w wr base p O S off bs f → off ≤ f → (∀ m, f ≤ m → m < off + n → (addG S.g off (bs.take (f - off)) m).isSome = true) → ∀ w', Below wr.heap.size wr w' → BPost (.tuple #[]) base p O ⟨S.rd, S.hi, S.fi, S.en, addG S.g off bs⟩ w (.returned (.tuple #[])) w') := Lib.hid (by
    intro wr f hF hof hs w' hB
    obtain ⟨⟨O', hb1, hb2⟩, hk⟩ := hF
    rw [addG_full S.g hof (by rw [hlen]; exact hs)] at hb1
    exact ⟨rfl, O', hb1.below hB, hk.trans (Kept.of_below hB _), hb2⟩)
  have HR := Lib.hid hr
  have HL := Lib.hid hlen
  clear h hok hr hst
  obtain ⟨E, hE⟩ : ∃ E, E = off + n := ⟨_, rfl⟩
  have hEz : (off : Int) + (n : Int) = (E : Int) := by omega
  have hEb : E ≤ 1099511630336 := by omega
  have HE := Lib.hid hE
  have hn1 : n ≤ 1099511630336 := by omega
  have ho1 : off ≤ 1099511630336 := by omega
  rw [← hE] at h2
  obtain ⟨f0, hf0⟩ : ∃ f0, f0 = max off S.rd := ⟨_, rfl⟩
  rw [← hf0] at HFL
  have hf1 : off ≤ f0 := by omega
  have hf2 : S.rd ≤ f0 := by omega
  have hmz : (if off < S.rd then (S.rd : Int) else (off : Int)) = (f0 : Int) := by split <;> omega
  clear hE hf0
  go_enter Try.func54, Try.ntmps54
  go_wp2
  go_loopg [7] (E - f0) (fun kx s7 wr => ∃ f : Nat, s7 = .int .u64 f ∧ off ≤ f ∧ S.rd ≤ f ∧ E - f ≤ kx ∧ Hid (Fl w wr base p O S off bs f))
  case atStart => exact ⟨f0, rfl, hf1, hf2, Nat.le_refl _, HFL⟩
  case round =>
    clear HFL hc0
    obtain ⟨f, rfl, hof, hrf, hkx, hF⟩ := hrel
    obtain ⟨⟨O', ⟨ps, vs, vw, l, W, hO', hc⟩, hOO⟩, hk⟩ := hF.out
    have h4 := hc.c4
    have hG := Lib.hid (gap_any' base ps 2048 vs l wr hc.set_ (by have := hc.pm.len; omega) hc.pm.gd f E)
    rcases gap_cases hc.pm.gd f E with ⟨hV, hall⟩ | ⟨a, e, hV, hfa, hae, heE, hall, hnone⟩
    · rw [hV] at hG
      have hD := Lib.hid (HEND.out wr f hF.out hof (fun m h1 h2 => by rw [← hc.pm.has m (by simp only; omega)]; exact hall m h1 (by have := HE.out; omega)))
      clear hall hV hc hk hF
      go_wp2_with (go_at_call 58; refine hG.out.mono ?_; rintro e w2 ⟨rfl, hB2⟩)
      go_end0
      exact hD.out _ (hB2.alloc hB2.size _)
    · rw [hV] at hG
      have hCW := Lib.hid hc
      have hgl := addG_glue S.g hof hfa (Nat.le_of_lt hae) (by rw [hlen]; have := HE.out; omega : e ≤ off + bs.length) (fun m h1 h3 => by rw [← hc.pm.has m (by simp only; omega)]; exact hall m h1 h3)
      have hno : ∀ m, a ≤ m → m < e → addG S.g off (bs.take (f - off)) m = none := fun m h1 h3 => by
        have := hnone m h1 h3
        rw [hc.pm.has m (by simp only; omega)] at this
        simp only at this
        cases hq : addG S.g off (bs.take (f - off)) m with
        | none => rfl
        | some x => rw [hq] at this; cases this
      have hn0 : 0 < n := by have := HE.out; omega
      obtain ⟨ab, ao, rfl, _, _⟩ := HR.out.1.2.2 hn0
      have hlz : (a : Int) - (off : Int) = ((a - off : Nat) : Int) := by omega
      have hhz : (e : Int) - (off : Int) = ((e - off : Nat) : Int) := by omega
      have hle : a - off < e - off := by omega
      have hen : e - off ≤ n := by have := HE.out; omega
      have hde : a + (e - off - (a - off)) = e := by omega
      obtain ⟨lo, hlo⟩ : ∃ lo, a - off = lo := ⟨_, rfl⟩
      obtain ⟨hi, hhi⟩ : ∃ hi, e - off = hi := ⟨_, rfl⟩
      rw [hlo] at hlz hle hgl hde
      rw [hhi] at hhz hle hen hgl hde
      have hrow : Hid (∀ X, Below wr.heap.size wr X → RdP X (fun b => ¬ O' b) (some ⟨ab, ao + lo, none⟩) (hi - lo) ((bs.take hi).drop lo)) := Lib.hid (fun X kX => by
        have h1 := ((HR.out.cutTo hen).cutFrom (c := c) (k := lo) (by omega) (by omega))
        have e1 : cutA (some ⟨ab, ao, none⟩) c lo = some ⟨ab, ao + lo, none⟩ := by
          unfold cutA
          rw [if_neg (by omega), Option.map_some, addr_add]
        rw [e1] at h1
        have h2 := h1.mono (P' := fun b => ¬ O' b ∧ ¬ O b) fun b hb hnb => ⟨fun h' => (hOO b h').elim hnb (fun h => by omega), hnb⟩
        exact ((h2.kept hk (fun b hb => hb.2)).kept (Kept.of_below kX O') (fun b hb => hb.1)).mono fun b _ hb => hb.1)
      have HLAY : Hid (∀ X, Below wr.heap.size wr X → Calls Try.prog 59 #[.pointer (some ⟨p, 0, none⟩), .int .u64 a, .slice (some ⟨ab, ao + lo, none⟩) (hi - lo) (c - lo)] X (BPost (.tuple #[]) base p O' ⟨S.rd, S.hi, S.fi, S.en, addG S.g off (bs.take hi)⟩ X)) := Lib.hid (fun X kX => by
        have := lay_any base p O' ⟨S.rd, S.hi, S.fi, S.en, addG S.g off (bs.take (f - off))⟩ a (some ⟨ab, ao + lo, none⟩) (hi - lo) (c - lo) _ X ((show Bf wr base p O' _ from ⟨ps, vs, vw, l, W, hO', hc⟩).below kX) (Nat.le_trans hb (Nat.le_trans hk.size kX.size)) hrd (hrow.out X kX) (by omega) (by simp only; omega) (by simp only; omega) (fun m h1 h3 => hno m h1 (by omega))
        rw [hgl] at this
        exact this)
      have HNX : Hid (∀ X w4 e', Below wr.heap.size wr X → BPost (.tuple #[]) base p O' ⟨S.rd, S.hi, S.fi, S.en, addG S.g off (bs.take hi)⟩ X e' w4 → Fl w w4 base p O S off bs e ∧ Kept O' X w4) := Lib.hid (fun X w4 e' kX hP => by
        obtain ⟨_, O2, hB, hK, hO2⟩ := hP
        refine ⟨⟨⟨O2, by rw [show e - off = hi from hhi]; exact hB, fun j hj => ?_⟩, ?_⟩, hK⟩
        · rcases hO2 j hj with h | h
          · exact hOO j h
          · exact .inr (Nat.le_trans hk.size (Nat.le_trans kX.size h))
        · exact (hk.trans' (Kept.of_below kX O') fun j hj => hOO j hj).trans' hK fun j hj => hOO j hj)
      have HOL : Hid (∀ b, O' b → b < wr.heap.size) := Lib.hid (fun b hb => (hc.lt b (by rw [← hO']; exact hb)).2)
      clear hall hnone hV hc hk hF hgl hno hrow hlo hhi
      go_wp2_with (go_at_call 58; refine hG.out.mono ?_; rintro e w2 ⟨rfl, hB2⟩)
      obtain ⟨g8, hg8⟩ : ∃ g8, w2.heap.size = g8 := ⟨_, rfl⟩
      have hAg : At (w2.alloc (.cells #[.int .u64 a, .int .u64 e] 105)) g8 105 [.int .u64 a, .int .u64 e] := hg8 ▸ At.new w2 105 [.int .u64 a, .int .u64 e]
      have hBX : Below wr.heap.size wr (w2.alloc (.cells #[.int .u64 a, .int .u64 e] 105)) := hB2.alloc hB2.size _
      have hgw : wr.heap.size ≤ g8 := hg8 ▸ hB2.size
      rw [hg8]
      generalize (w2.alloc (.cells #[.int .u64 a, .int .u64 e] 105)) = X0 at *
      have hwlo : IntKind.u64.wrap (lo : Int) = (lo : Int) := by rw [IntKind.wrap_u64]; omega
      have hwhi : IntKind.u64.wrap (hi : Int) = (hi : Int) := by rw [IntKind.wrap_u64]; omega
      have hloz : (lo : Int) ≤ (hi : Int) := by omega
      have hhiz : (hi : Int) ≤ (c : Int) := by omega
      have hcl : ¬ c = lo := by omega
      have d0 : X0.cell? ⟨g8, 0, none⟩ = some (.int .u64 a) := by rw [hAg.cell]; rfl
      have d1 : X0.cell? ⟨g8, 1, none⟩ = some (.int .u64 e) := by rw [hAg.cell]; rfl
      go_still_tail 13, (by kernel_rfl)
      change wpList _ _ _ _ _ (World.drew X0)
      have hAY : At X0.drew g8 105 [.int .u64 a, .int .u64 e] := hAg.drew
      have HBY : Hid (Below wr.heap.size wr X0.drew) := Lib.hid hBX.drew
      clear hAg hBX hG hB2 hg8 d0 d1
      generalize World.drew X0 = Y at hAY HBY ⊢
      have hgO : Hid (¬ O' g8) := Lib.hid (fun h => by have := HOL.out g8 h; omega)
      have hHAY := Lib.hid hAY
      clear hAY
      have HC4 := Lib.hid (HLAY.out Y HBY.out)
      have HN4 := Lib.hid (fun w4 e' => HNX.out Y w4 e' HBY.out)
      clear HLAY HNX
      go_wp2_with (go_at_call 59; refine HC4.out.mono ?_; intro e' w4 hP; obtain ⟨q1, q2⟩ := HN4.out w4 e' hP; have HQ := Lib.hid q1; have d2 : w4.cell? ⟨g8, 1, none⟩ = some (.int .u64 e) := (by rw [(hHAY.out.kept q2 hgO.out).cell]; rfl); obtain ⟨rfl, _⟩ := hP; clear q1 q2)
      go_roundg (E - e)
      case measure => omega
      case rel => exact ⟨e, rfl, by omega, by omega, Nat.le_refl _, HQ⟩
end
section
set_option linter.unusedVariables false
set_option linter.unusedSimpArgs false
open Go.RowKit
section
variable {w : World} {base p : Nat} {O : Nat → Prop} {S : BS}
theorem Bc.put {ps : Nat} {vs vw : Value} {l : RL} {W : List Int} {S' : BS} (h : Bc w base p ps vs vw l W S) (j : Nat) (u : Value) (hr : S'.rd = S.rd) (hg : S'.g = S.g)
    (he : ([.int .u64 S.rd, .int .u64 S.hi, .int .u64 S.fi, .bool S.en, .pointer (some ⟨ps, 0, none⟩), vw] : List Value).set j u = [.int .u64 S'.rd, .int .u64 S'.hi, .int .u64 S'.fi, .bool S'.en, .pointer (some ⟨ps, 0, none⟩), vw]) :
    Bc (w.setCell ⟨p, j, none⟩ u) base p ps vs vw l W S' := by
  have k : Kept (fun b => b = p) w (w.setCell ⟨p, j, none⟩ u) := (Kept.refl (fun b => b = p) w).setCell (p := ⟨p, j, none⟩) (.inl rfl) u
  exact ⟨he ▸ h.at_.set j u, h.set_.kept k (fun e => h.n1 e.symm) fun j hj e => h.n2 (by rw [hj, e]), h.own.kept k fun j hj e => h.n3 (by rw [hj, e]), h.n1, h.n2, h.n3, h.n4, h.n5, h.bp, by rw [hr, hg]; exact h.pm⟩
theorem Bf.puthi (h : Bf w base p O S) (x : Nat) : Bf (w.setCell ⟨p, 1, none⟩ (.int .u64 x)) base p O ⟨S.rd, x, S.fi, S.en, S.g⟩ := by
  obtain ⟨ps, vs, vw, l, W, e, h⟩ := h
  exact ⟨ps, vs, vw, l, W, e, h.put 1 _ rfl rfl rfl⟩
theorem Bf.putfi (h : Bf w base p O S) (x : Nat) : Bf (w.setCell ⟨p, 2, none⟩ (.int .u64 x)) base p O ⟨S.rd, S.hi, x, S.en, S.g⟩ := by
  obtain ⟨ps, vs, vw, l, W, e, h⟩ := h
  exact ⟨ps, vs, vw, l, W, e, h.put 2 _ rfl rfl rfl⟩
theorem Bf.puten (h : Bf w base p O S) (x : Bool) : Bf (w.setCell ⟨p, 3, none⟩ (.bool x)) base p O ⟨S.rd, S.hi, S.fi, x, S.g⟩ := by
  obtain ⟨ps, vs, vw, l, W, e, h⟩ := h
  exact ⟨ps, vs, vw, l, W, e, h.put 3 _ rfl rfl rfl⟩
theorem Bf.at_ (h : Bf w base p O S) : ∃ u v, At w p 83 [.int .u64 S.rd, .int .u64 S.hi, .int .u64 S.fi, .bool S.en, u, v] := by
  obtain ⟨ps, vs, vw, l, W, e, h⟩ := h
  exact ⟨_, _, h.at_⟩
theorem Bf.own_ (h : Bf w base p O S) : O p := by
  obtain ⟨ps, vs, vw, l, W, rfl, h⟩ := h
  exact .inl rfl
end
/-- What Add makes of a buffer. -/
def addR (S : BS) (off : Nat) (bs : List Int) (fin : Bool) : BS := if addE S off bs.length fin = 0 then addS S off bs fin else S
set_option maxHeartbeats 8000000 in
set_option maxRecDepth 100000 in
theorem iadd_any (base p : Nat) (O : Nat → Prop) (S : BS) (off : Nat) (A : Option Addr) (n c : Nat) (bs : List Int) (fin : Bool) (w : World) (h : Bf w base p O S) (hok : S.ok) (hb : base ≤ w.heap.size)
    (hr : RdP w (fun b => ¬ O b) A n bs) (hnc : n ≤ c) (ho : off < 18446744073709551616) (hn : n < 9223372036854775808) :
    Calls Try.prog 50 #[.pointer (some ⟨p, 0, none⟩), .int .u64 off, .slice A n c, .bool fin] w (BPost (.int .i64 (addE S off n fin)) base p O (addR S off bs fin) w) := by
  have hlen := hr.len
  have hEQ : addE S off n fin = addE S off bs.length fin := by rw [hlen]
  have NO : addE S off n fin ≠ 0 → ∀ d, BPost (.int .i64 (addE S off n fin)) base p O (addR S off bs fin) w (.returned (.int .i64 (addE S off n fin))) (w.drewN d) := fun hne d => by
    unfold addR
    rw [if_neg (by rw [← hEQ]; exact hne)]
    exact ⟨rfl, O, h.drewN d, (Kept.refl _ _).drewN d, fun j hj => .inl hj⟩
  by_cases c1 : 1099511627776 < off
  · have he : addE S off n fin = 1 := by unfold addE; rw [if_pos (.inl c1)]
    have HN := Lib.hid (NO (by rw [he]; decide) 0)
    rw [he] at HN ⊢
    have hcz : (1099511627776 : Int) < (off : Int) := by omega
    clear h hok hr hEQ NO he
    go_enter Try.func50, Try.ntmps50
    go_wp2
    go_ret
    exact HN.out
  by_cases c2 : 512 < n
  · have he : addE S off n fin = 1 := by unfold addE; rw [if_pos (.inr c2)]
    have HN := Lib.hid (NO (by rw [he]; decide) 0)
    rw [he] at HN ⊢
    have hcz : ¬ (1099511627776 : Int) < (off : Int) := by omega
    have hcn : (512 : Int) < (n : Int) := by omega
    clear h hok hr hEQ NO he
    go_enter Try.func50, Try.ntmps50
    go_wp2
    go_ret
    exact HN.out
  have hcz : ¬ (1099511627776 : Int) < (off : Int) := by omega
  have hcn : ¬ (512 : Int) < (n : Int) := by omega
  have ho' : off ≤ 1099511627776 := by omega
  have hn' : n ≤ 512 := by omega
  have hE1 : addE S off n fin = if agB S (off + n) fin = true then 30 else if S.rd + 2048 < off + n then 23 else 0 := by
    unfold addE agB
    rw [if_neg (by omega)]
  obtain ⟨E, hE⟩ : ∃ E, E = off + n := ⟨_, rfl⟩
  rw [← hE] at hE1
  clear ho hn c1 c2
  have hEz : (off : Int) + (n : Int) = (E : Int) := by omega
  have hEb : E ≤ 1099511630336 := by omega
  have HAG := Lib.hid (iag_any h E fin)
  have HE := Lib.hid hE
  clear hE
  by_cases c3 : agB S E fin = true
  · rw [if_pos c3] at hE1
    have HN := Lib.hid (NO (by rw [hE1]; decide) 0)
    rw [hE1] at HN ⊢
    rw [c3] at HAG
    clear h hok hr hEQ NO hE1 c3
    go_enter Try.func50, Try.ntmps50
    go_wp2_with (go_at_call 53; (with_reducible refine HAG.out.mono ?_); rintro e w2 ⟨rfl, rfl⟩)
    go_ret
    exact HN.out
  rw [if_neg c3] at hE1
  have c3' : agB S E fin = false := by simpa using c3
  rw [c3'] at HAG
  have hrd : S.rd ≤ 1099511628288 := by have := hok.rh; have := hok.hm; omega
  obtain ⟨u4, u5, hat⟩ := h.at_
  have h0 : w.cell? ⟨p, 0, none⟩ = some (.int .u64 S.rd) := by rw [hat.cell]; rfl
  by_cases c4 : S.rd + 2048 < E
  · rw [if_pos c4] at hE1
    have HN := Lib.hid (NO (by rw [hE1]; decide) 0)
    rw [hE1] at HN ⊢
    have hc4z : (S.rd : Int) + 2048 < (E : Int) := by omega
    clear h hok hr hEQ NO hE1 c3 c3' hat
    go_enter Try.func50, Try.ntmps50
    go_wp2_with (go_at_call 53; (with_reducible refine HAG.out.mono ?_); rintro e w2 ⟨rfl, rfl⟩)
    go_ret
    exact HN.out
  rw [if_neg c4] at hE1
  have hc4z : ¬ (S.rd : Int) + 2048 < (E : Int) := by omega
  have hR : addR S off bs fin = addS S off bs fin := by unfold addR; rw [if_pos (by rw [← hEQ]; exact hE1)]
  rw [hR, hE1]
  have HFI := Lib.hid (fill_any base p O S off A n c bs w h hok hb hr hnc (by have := HE.out; omega))
  have hhi : S.hi ≤ 1099511628288 := hok.hm
  have HS : Hid (addS S off bs fin = ⟨S.rd, max S.hi E, if fin then E else S.fi, S.en || fin, addG S.g off bs⟩) := Lib.hid (by unfold addS; rw [hlen, ← HE.out])
  clear NO hE1 c3 c3' hR hEQ hr hok hat
  have HPO : Hid (O p) := Lib.hid h.own_
  clear h
  rcases Nat.lt_or_ge S.hi E with hm | hm
  · have hmx : max S.hi E = E := by omega
    rw [hmx] at HS
    have hmz : (S.hi : Int) < (E : Int) := by omega
    clear hmx hm
    cases fin
    · have HS2 : Hid (addS S off bs false = ⟨S.rd, E, S.fi, S.en, addG S.g off bs⟩) := Lib.hid (by rw [HS.out]; simp)
      go_enter Try.func50, Try.ntmps50
      go_wp2_with (first | (go_at_call 53; (with_reducible refine HAG.out.mono ?_); rintro e w1 ⟨rfl, rfl⟩) | (go_at_call 54; (with_reducible refine HFI.out.mono ?_); rintro e w2 ⟨rfl, O2, hB, hK, hO2⟩; obtain ⟨u6, u7, ha2⟩ := hB.at_; have d1 : w2.cell? ⟨p, 1, none⟩ = some (.int .u64 S.hi) := (by rw [ha2.cell]; rfl); have d2 : w2.cell? ⟨p, 2, none⟩ = some (.int .u64 S.fi) := (by rw [ha2.cell]; rfl); have d3 : w2.cell? ⟨p, 3, none⟩ = some (.bool S.en) := (by rw [ha2.cell]; rfl); have f1 := ha2.frozen 1; have f2 := ha2.frozen 2; have f3 := ha2.frozen 3; have HB := Lib.hid hB; have HK := Lib.hid hK; have HO2 := Lib.hid hO2; clear hB hK hO2 ha2))
      go_ret
      have hb2 := (HB.out.puthi E)
      refine ⟨rfl, O2, ?_, (HK.out.setCell (p := ⟨p, 1, none⟩) (.inl HPO.out) (.int .u64 E)), HO2.out⟩
      rw [HS2.out]
      exact hb2
    · have HS2 : Hid (addS S off bs true = ⟨S.rd, E, E, true, addG S.g off bs⟩) := Lib.hid (by rw [HS.out]; simp)
      go_enter Try.func50, Try.ntmps50
      go_wp2_with (first | (go_at_call 53; (with_reducible refine HAG.out.mono ?_); rintro e w1 ⟨rfl, rfl⟩) | (go_at_call 54; (with_reducible refine HFI.out.mono ?_); rintro e w2 ⟨rfl, O2, hB, hK, hO2⟩; obtain ⟨u6, u7, ha2⟩ := hB.at_; have d1 : w2.cell? ⟨p, 1, none⟩ = some (.int .u64 S.hi) := (by rw [ha2.cell]; rfl); have d2 : w2.cell? ⟨p, 2, none⟩ = some (.int .u64 S.fi) := (by rw [ha2.cell]; rfl); have d3 : w2.cell? ⟨p, 3, none⟩ = some (.bool S.en) := (by rw [ha2.cell]; rfl); have f1 := ha2.frozen 1; have f2 := ha2.frozen 2; have f3 := ha2.frozen 3; have HB := Lib.hid hB; have HK := Lib.hid hK; have HO2 := Lib.hid hO2; clear hB hK hO2 ha2))
      go_ret
      have hb2 := (((HB.out.puthi E).putfi E).puten true)
      refine ⟨rfl, O2, ?_, (((HK.out.setCell (p := ⟨p, 1, none⟩) (.inl HPO.out) (.int .u64 E)).setCell (p := ⟨p, 2, none⟩) (.inl HPO.out) (.int .u64 E)).setCell (p := ⟨p, 3, none⟩) (.inl HPO.out) (.bool true)), HO2.out⟩
      rw [HS2.out]
      exact hb2
  · have hmx : max S.hi E = S.hi := by omega
    rw [hmx] at HS
    have hmz : ¬ (S.hi : Int) < (E : Int) := by omega
    clear hmx
    cases fin
    · have HS2 : Hid (addS S off bs false = ⟨S.rd, S.hi, S.fi, S.en, addG S.g off bs⟩) := Lib.hid (by rw [HS.out]; simp)
      go_enter Try.func50, Try.ntmps50
      go_wp2_with (first | (go_at_call 53; (with_reducible refine HAG.out.mono ?_); rintro e w1 ⟨rfl, rfl⟩) | (go_at_call 54; (with_reducible refine HFI.out.mono ?_); rintro e w2 ⟨rfl, O2, hB, hK, hO2⟩; obtain ⟨u6, u7, ha2⟩ := hB.at_; have d1 : w2.cell? ⟨p, 1, none⟩ = some (.int .u64 S.hi) := (by rw [ha2.cell]; rfl); have d2 : w2.cell? ⟨p, 2, none⟩ = some (.int .u64 S.fi) := (by rw [ha2.cell]; rfl); have d3 : w2.cell? ⟨p, 3, none⟩ = some (.bool S.en) := (by rw [ha2.cell]; rfl); have f1 := ha2.frozen 1; have f2 := ha2.frozen 2; have f3 := ha2.frozen 3; have HB := Lib.hid hB; have HK := Lib.hid hK; have HO2 := Lib.hid hO2; clear hB hK hO2 ha2))
      go_ret
      have hb2 := (HB.out.puthi S.hi)
      refine ⟨rfl, O2, ?_, (HK.out.setCell (p := ⟨p, 1, none⟩) (.inl HPO.out) (.int .u64 S.hi)), HO2.out⟩
      rw [HS2.out]
      exact hb2
    · have HS2 : Hid (addS S off bs true = ⟨S.rd, S.hi, E, true, addG S.g off bs⟩) := Lib.hid (by rw [HS.out]; simp)
      go_enter Try.func50, Try.ntmps50
      go_wp2_with (first | (go_at_call 53; (with_reducible refine HAG.out.mono ?_); rintro e w1 ⟨rfl, rfl⟩) | (go_at_call 54; (with_reducible refine HFI.out.mono ?_); rintro e w2 ⟨rfl, O2, hB, hK, hO2⟩; obtain ⟨u6, u7, ha2⟩ := hB.at_; have d1 : w2.cell? ⟨p, 1, none⟩ = some (.int .u64 S.hi) := (by rw [ha2.cell]; rfl); have d2 : w2.cell? ⟨p, 2, none⟩ = some (.int .u64 S.fi) := (by rw [ha2.cell]; rfl); have d3 : w2.cell? ⟨p, 3, none⟩ = some (.bool S.en) := (by rw [ha2.cell]; rfl); have f1 := ha2.frozen 1; have f2 := ha2.frozen 2; have f3 := ha2.frozen 3; have HB := Lib.hid hB; have HK := Lib.hid hK; have HO2 := Lib.hid hO2; clear hB hK hO2 ha2))
      go_ret
      have hb2 := (((HB.out.puthi S.hi).putfi E).puten true)
      refine ⟨rfl, O2, ?_, (((HK.out.setCell (p := ⟨p, 1, none⟩) (.inl HPO.out) (.int .u64 S.hi)).setCell (p := ⟨p, 2, none⟩) (.inl HPO.out) (.int .u64 E)).setCell (p := ⟨p, 3, none⟩) (.inl HPO.out) (.bool true)), HO2.out⟩
      rw [HS2.out]
      exact hb2
end
end Go.Proofs.Ytndaikeeikimeaa
