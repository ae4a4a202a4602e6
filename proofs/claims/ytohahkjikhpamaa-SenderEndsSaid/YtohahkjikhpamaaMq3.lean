/-
  outbuf.Buffer: Waits, Write, drop.
-/
import Derived.Test.YtohahkjikhpamaaDg
import Derived.StillTailTactics
import Derived.Test.YtohahkjikhpamaaProg
import Derived.Test.YtohahkjikhpamaaMq0
import Derived.Deep.RegionHeld
namespace Go.Proofs.Ytohahkjikhpamaa
section
set_option linter.unusedVariables false
set_option linter.unusedSimpArgs false
open Go.RowKit
section
variable {w : World} {base p : Nat} {O : Nat → Prop} {S : OS}
set_option maxHeartbeats 4000000 in
set_option maxRecDepth 100000 in
theorem owrite_any (h : Of w base p O S) (hok : S.ok) (hb : base ≤ w.heap.size) (A : Option Addr) (n c : Nat) (bs : List Int) (hr : Rd w w.heap.size A n bs) (hnc : n ≤ c) (hn : n < 9223372036854775808) (hcm : c < 9223372036854775808) :
    Calls Try.prog 20 #[.pointer (some ⟨p, 0, none⟩), .slice A n c] w (OfPost (.int .i64 (writeN S n)) base p O (writeO S bs) w) := by
  have HRM := Lib.hid (oroom_any h hok)
  obtain ⟨pa, pl, va, vl, vw, la, ll, rfl, hO, hy⟩ := h
  obtain ⟨N, hN⟩ : ∃ N, N = writeN S n := ⟨_, rfl⟩
  have hmn : (if (roomO S : Int) < (n : Int) then (roomO S : Int) else (n : Int)) = (N : Int) := by
    rw [hN]; unfold writeN; split <;> omega
  have hNn : N ≤ n := by rw [hN]; exact Nat.min_le_left _ _
  have hNR : N ≤ roomO S := by rw [hN]; exact Nat.min_le_right _ _
  have hR : roomO S ≤ 2048 := by unfold roomO; split <;> omega
  have HN := Lib.hid hN
  rw [← hN]
  clear hN
  have hlen := hr.1
  have HFIN : Hid (∀ (w5 : World) (v' : Value), Ow w5 base 5 v' ((S.bs.drop (baseO S)).map (Value.int .u8) ++ (bs.take N).map (Value.int .u8)) → w.drew.grownBy w5 vw.ownBlock → (v'.ownBlock = vw.ownBlock ∨ v'.ownBlock = some w.drew.heap.size) →
      OfPost (.int .i64 N) base p (oO p pa pl va vl vw) (writeO S bs) w (.returned (.int .i64 N)) (w5.setCell ⟨p, 1, none⟩ v') ∧ At w5 p 70 [.int .u64 (baseO S), vw, .int .u64 S.gn, .pointer (some ⟨pa, 0, none⟩), .pointer (some ⟨pl, 0, none⟩), .bool S.ov, .bool (endO S), .bool S.en, .bool S.ea]) := Lib.hid (fun w5 v' how hg hv => by
    have hk : Kept (fun b => vw.ownBlock = some b) w w5 := (grown_kept hg).from_drew
    rw [← List.map_append] at how
    have hbyt : Byt (S.bs.drop (baseO S) ++ bs.take N) := hO.own.2.app (hr.2.1.take N)
    obtain ⟨k1, k2, k3⟩ := hO.waits (ow_own how hbyt) hk fun j hj => by
      rcases hv with e | e
      · exact .inl (by rw [← e]; exact hj)
      · rw [e] at hj
        injection hj with hj
        right
        rw [← hj]
        exact Nat.le_refl _
    refine ⟨⟨rfl, _, ⟨pa, pl, va, vl, v', la, ll, rfl, ?_, ⟨hy.ga, hy.gl, hy.ya, hy.yl⟩⟩, k2, k3⟩, hO.at_.kept hk fun e => ?_⟩
    · have hwb := writeO_base hok bs
      rw [hwb]
      have e : (writeO S bs).bs.drop (baseO S) = S.bs.drop (baseO S) ++ bs.take N := by
        show (S.bs ++ bs.take (writeN S bs.length)).drop _ = _
        rw [List.drop_append_of_le_length (baseO_le S), hlen, HN.out]
      rw [e]
      exact k1
    · exact hO.ne (i := 5) (j := 0) (k := p) (k' := p) (by rw [← e]; rfl) rfl (by omega) rfl)
  have how := own_ow hO.own
  have h1 := hO.c1
  obtain ⟨Aw, cw, hvw, _, hcw, _⟩ := ow_open how
  have hsrc := rd_src (hr.cutTo hNn)
  have h1b := oneCell_u8 (bs.take N)
  have hlt : ((bs.take N).map (Value.int .u8)).length = N := by simp; omega
  have hwl : ((S.bs.drop (baseO S)).map (Value.int .u8)).length ≤ 2048 := by
    have := hok.rm
    simp
    omega
  clear hO hy hr hok
  have hr8 : roomO S < 9223372036854775808 := by omega
  generalize hxs : (bs.take N).map (Value.int .u8) = xs at *
  generalize hWs : (S.bs.drop (baseO S)).map (Value.int .u8) = Ws at *
  have HOW := Lib.hid how
  clear hxs hWs
  obtain ⟨m, hm⟩ : ∃ m, Ws.length = m := ⟨_, rfl⟩
  rw [hm] at hvw
  have HM := Lib.hid hm
  generalize roomO S = R at *
  have hNcz : (N : Int) ≤ (c : Int) := by omega
  have hNn8 : N < 9223372036854775808 := by omega
  subst hvw
  rw [hm] at hwl
  clear hm how
  have hb' : base ≤ w.drew.heap.size := hb
  obtain ⟨L, hLL⟩ : ∃ L, (Ws ++ xs).length = L := ⟨_, rfl⟩
  have HLL := Lib.hid hLL
  clear hLL
  have mixed : Try.prog.follows .mixedOrders = true := by kernel_rfl
  rcases Nat.lt_or_ge R n with hc | hc
  · obtain rfl : N = R := by omega
    have hcz : (N : Int) < (n : Int) := by omega
    go_enter Try.func20, Try.ntmps20
    go_wp2_with (go_at_call 19; (with_reducible refine HRM.out.mono ?_); rintro e w2 ⟨rfl, hw2⟩; rw [hw2]; clear hw2)
    go_region_law_o (refine step_app1 o8 rfl (.tmp 15) (.tmp 18) rfl base (.slice Aw m cw) Ws (by simp [Act.eval, Act.put]) HOW.out A N c (by simp [Act.eval, Act.put]) xs hlt hsrc h1b (by have := HM.out; omega) hb' ?_; intro v5 w5 hown5 hg5 hv5 _; obtain ⟨q1, q2⟩ := HFIN.out w5 v5 hown5 hg5 hv5; obtain ⟨A5, c5, e5, _, _, _⟩ := ow_open hown5; rw [HLL.out] at e5; subst e5; have e1 : w5.cell? ⟨p, 1, none⟩ = some (.slice Aw m cw) := (by rw [q2.cell]; rfl); have f1 := q2.frozen 1; have HQ := Lib.hid q1; clear q1 q2 hown5 hg5 hv5)
    all_goals go_wp2
    all_goals go_ret
    all_goals exact HQ.out
  · obtain rfl : N = n := by omega
    have hcz : ¬ (R : Int) < (N : Int) := by omega
    go_enter Try.func20, Try.ntmps20
    go_wp2_with (go_at_call 19; (with_reducible refine HRM.out.mono ?_); rintro e w2 ⟨rfl, hw2⟩; rw [hw2]; clear hw2)
    go_region_law_o (refine step_app1 o8 rfl (.tmp 15) (.tmp 18) rfl base (.slice Aw m cw) Ws (by simp [Act.eval, Act.put]) HOW.out A N c (by simp [Act.eval, Act.put]) xs hlt hsrc h1b (by have := HM.out; omega) hb' ?_; intro v5 w5 hown5 hg5 hv5 _; obtain ⟨q1, q2⟩ := HFIN.out w5 v5 hown5 hg5 hv5; obtain ⟨A5, c5, e5, _, _, _⟩ := ow_open hown5; rw [HLL.out] at e5; subst e5; have e1 : w5.cell? ⟨p, 1, none⟩ = some (.slice Aw m cw) := (by rw [q2.cell]; rfl); have f1 := q2.frozen 1; have HQ := Lib.hid q1; clear q1 q2 hown5 hg5 hv5)
    all_goals go_wp2
    all_goals go_ret
    all_goals exact HQ.out
end
/-- What drop leaves: t is the new base. -/
def DPost (base p pa pl : Nat) (va vl vw : Value) (la ll : RL) (W : List Int) (t gn : Nat) (ov du en ea : Bool) (w : World) (e : Ending) (w' : World) : Prop :=
  e = .returned (.tuple #[]) ∧ ∃ vw', Om w' base p pa pl va vl vw' la ll W t gn ov du en ea ∧ Kept (oO p pa pl va vl vw) w w' ∧ ∀ j, oO p pa pl va vl vw' j → oO p pa pl va vl vw j ∨ w.heap.size ≤ j
set_option maxHeartbeats 4000000 in
set_option maxRecDepth 100000 in
theorem odrop_any {w : World} {base p pa pl : Nat} {va vl vw : Value} {la ll : RL} {W : List Int} {b gn : Nat} {ov du en ea : Bool} (h : Om w base p pa pl va vl vw la ll W b gn ov du en ea) (hb : base ≤ w.heap.size) (hg : Gd la) (hn : la.length ≤ 2000000) (hgn : gn ≤ 1099511627776) (hW : W.length ≤ 2048) (t : Nat) (hbt : b ≤ t) (htW : t - b ≤ W.length) (htg : t ≤ gn)
    (ht : (gapV la b gn = #[.agg #[.int .u64 0, .int .u64 0], .bool false] ∧ t = gn) ∨ ∃ e : Nat, gapV la b gn = #[.agg #[.int .u64 t, .int .u64 e], .bool true]) :
    Calls Try.prog 38 #[.pointer (some ⟨p, 0, none⟩)] w (DPost base p pa pl va vl vw la ll (W.drop (t - b)) t gn ov du en ea w) := by
  have HGB : Hid (Calls Try.prog 35 #[.pointer (some ⟨pa, 0, none⟩), .int .u64 b, .int .u64 gn] w.drew fun e w' => e = .returned (.tuple (gapV la b gn)) ∧ Below w.heap.size w w') := Lib.hid ((gap_any' base pa 2048 va la w.drew h.drew.sa hn hg b gn).mono fun e w' hP => ⟨hP.1, (below_drewN (Below.refl _ w) 1).trans hP.2⟩)
  have hbA : Below w.heap.size w (w.alloc (.cells #[.int .u64 0, .int .u64 0] 62)).drew := ((Below.refl _ w).alloc (Nat.le_refl _) _).drew
  have HGA : Hid (Calls Try.prog 35 #[.pointer (some ⟨pa, 0, none⟩), .int .u64 b, .int .u64 gn] (w.alloc (.cells #[.int .u64 0, .int .u64 0] 62)).drew fun e w' => e = .returned (.tuple (gapV la b gn)) ∧ Below w.heap.size w w' ∧ At w' w.heap.size 62 [.int .u64 0, .int .u64 0]) := Lib.hid ((gap_any' base pa 2048 va la _ (h.below hbA).sa hn hg b gn).mono fun e w' hP => ⟨hP.1, hbA.trans (hP.2.mono hbA.size), ((At.new w 62 [.int .u64 0, .int .u64 0]).drew).below hP.2 (by show w.heap.size < (w.alloc _).heap.size; simp)⟩)
  have h0d : w.drew.cell? ⟨p, 0, none⟩ = some (.int .u64 b) := h.c0
  have h3d : w.drew.cell? ⟨p, 3, none⟩ = some (.pointer (some ⟨pa, 0, none⟩)) := h.c3
  have h0a : (w.alloc (.cells #[.int .u64 0, .int .u64 0] 62)).drew.cell? ⟨p, 0, none⟩ = some (.int .u64 b) := (h.below hbA).c0
  have h3a : (w.alloc (.cells #[.int .u64 0, .int .u64 0] 62)).drew.cell? ⟨p, 3, none⟩ = some (.pointer (some ⟨pa, 0, none⟩)) := (h.below hbA).c3
  have HYA : Hid (∀ w2, Below w.heap.size w w2 → At w2 w.heap.size 62 [.int .u64 0, .int .u64 0] → ∀ x y : Int, ∃ Y, Y = ((w2.setCell ⟨w.heap.size, 0, none⟩ (.int .u64 x)).setCell ⟨w.heap.size, 1, none⟩ (.int .u64 y)) ∧ Below w.heap.size w Y ∧ At Y w.heap.size 62 [.int .u64 x, .int .u64 y]) := Lib.hid (fun w2 hB hA x y => ⟨_, rfl, (hB.setCell (Nat.le_refl _) _).setCell (Nat.le_refl _) _, at_two hA _ _⟩)
  have HYB : Hid (∀ w2, Below w.heap.size w w2 → ∀ x y : Int, ∃ Y, Y = (w2.alloc (.cells #[.int .u64 x, .int .u64 y] 62)) ∧ Below w.heap.size w Y ∧ At Y w2.heap.size 62 [.int .u64 x, .int .u64 y]) := Lib.hid (fun w2 hB x y => ⟨_, rfl, hB.alloc hB.size _, At.new w2 _ _⟩)
  have mixed : Try.prog.follows .mixedOrders = true := by kernel_rfl
  have hl := h.lt
  have HO := Lib.hid h
  have hcc : Hid (∀ w2, Below w.heap.size w w2 → w2.cell? ⟨p, 0, none⟩ = some (.int .u64 b) ∧ w2.cell? ⟨p, 1, none⟩ = some vw ∧ w2.frozen? ⟨p, 1, none⟩ = false) := Lib.hid (fun w2 hB => ⟨(HO.out.below hB).c0, (HO.out.below hB).c1, (HO.out.below hB).at_.frozen 1⟩)
  have HD : Hid (∀ w2, Below w.heap.size w w2 → Calls Try.prog 54 #[vw, .int .i64 0, .int .i64 (t - b : Nat)] w2 fun e w' => ∃ v', e = .returned v' ∧ Own w' base 5 v' (W.drop (t - b)) ∧ Kept (fun b => vw.ownBlock = some b) w2 w' ∧ ∀ j, v'.ownBlock = some j → vw.ownBlock = some j) := Lib.hid (fun w2 hB => del8 base vw W (t - b) w2 ((HO.out.below hB).own) htW (by omega) (Nat.le_trans hb hB.size))
  have HF : Hid (∀ w2 w3 v', Below w.heap.size w w2 → Own w3 base 5 v' (W.drop (t - b)) → Kept (fun b => vw.ownBlock = some b) w2 w3 → (∀ j, v'.ownBlock = some j → vw.ownBlock = some j) →
      DPost base p pa pl va vl vw la ll (W.drop (t - b)) t gn ov du en ea w (.returned (.tuple #[])) ((w3.setCell ⟨p, 1, none⟩ v').setCell ⟨p, 0, none⟩ (.int .u64 t)) ∧ At w3 p 70 [.int .u64 b, vw, .int .u64 gn, .pointer (some ⟨pa, 0, none⟩), .pointer (some ⟨pl, 0, none⟩), .bool ov, .bool du, .bool en, .bool ea]) := Lib.hid (fun w2 w3 v' hB ho hk hv => by
    have h2 := HO.out.below hB
    obtain ⟨k1, k2, k3⟩ := h2.waits ho hk fun j hj => .inl (hv j hj)
    refine ⟨⟨rfl, v', k1.set_b t, ((Kept.of_below hB (oO p pa pl va vl vw)).trans' k2 fun j hj => .inl hj).setCell (.inl (oO_at (i := 0) rfl)) _, fun j hj => (k3 j hj).imp id fun k => Nat.le_trans hB.size k⟩, h2.at_.kept hk fun e => ?_⟩
    exact h2.ne (i := 5) (j := 0) (k := p) (k' := p) (by rw [← e]; rfl) rfl (by omega) rfl)
  have h2 := h.c2
  have h0 := h.c0
  have h3 := h.c3
  have hwl : ((W.length : Nat) : Int) ≤ 2048 := by omega
  obtain ⟨A, c, hvw, _, _, _⟩ := h.own.open_
  obtain ⟨D, hD⟩ : ∃ D, D = t - b := ⟨_, rfl⟩
  have hz : (t : Int) - (b : Int) = (D : Int) := by omega
  have hDb : D ≤ 2048 := by omega
  have hwD : IntKind.u64.wrap (D : Int) = (D : Int) := by rw [IntKind.wrap_u64]; omega
  have hwD2 : IntKind.i64.wrap (D : Int) = (D : Int) := by rw [IntKind.wrap_i64]; omega
  rw [← hD] at HD HF ⊢
  obtain ⟨N3, hN3⟩ : ∃ N3, (W.drop D).length = N3 := ⟨_, rfl⟩
  have HL3 := Lib.hid hN3
  subst hvw
  clear hD h hl hW hbA hN3
  rcases ht with ⟨hV, ht⟩ | ⟨e, hV⟩
  · subst ht
    rw [hV] at HGA HGB
    clear hV
    go_enter Try.func38, Try.ntmps38
    go_wp2
    go_region_law_o (go_simp; go_at_call 35; first
      | ((with_reducible refine HGA.out.mono ?_); rintro ez w2 ⟨rfl, hB2, hA2⟩; have d0 := hA2.cell 0; have d1 := hA2.cell 1; have f0 := hA2.frozen 0; have f1 := hA2.frozen 1; simp only [List.getElem?_cons_zero, List.getElem?_cons_succ] at d0 d1; have HY := Lib.hid (HYA.out w2 hB2 hA2 0 0); clear hB2 hA2)
      | ((with_reducible refine HGB.out.mono ?_); rintro ez w2 ⟨rfl, hB2⟩; have HY := Lib.hid (HYB.out w2 hB2 0 0); clear hB2))
    all_goals obtain ⟨Y, hYe, hYb, hYA⟩ := HY.out
    all_goals rw [← hYe]
    all_goals clear hYe HY
    all_goals obtain ⟨c0, c1, f1'⟩ := hcc.out _ hYb
    all_goals have r0 := hYA.cell 0
    all_goals simp only [List.getElem?_cons_zero] at r0
    all_goals have HYb := Lib.hid hYb
    all_goals clear hYb hYA
    all_goals go_wp2
    all_goals have c0d : Y.drew.cell? ⟨p, 0, none⟩ = some (.int .u64 b) := c0
    all_goals have c1d : Y.drew.cell? ⟨p, 1, none⟩ = some (.slice A W.length c) := c1
    all_goals have HDY := Lib.hid (HD.out Y.drew HYb.out.drew)
    all_goals go_region_law_o (go_simp; go_at_call 54; (with_reducible refine HDY.out.mono ?_); rintro ez w3 ⟨v3, rfl, ho3, hk3, hv3⟩; obtain ⟨q1, q2⟩ := HF.out Y.drew w3 v3 HYb.out.drew ho3 hk3 hv3; obtain ⟨A3, c3, rfl, _, _, _⟩ := ho3.open_n N3 HL3.out; have g1 : w3.cell? ⟨p, 1, none⟩ = some (.slice A W.length c) := (by rw [q2.cell]; rfl); have g2 := q2.frozen 1; have q3 := q2.set 1 (.slice A3 N3 c3); have g3 : (w3.setCell ⟨p, 1, none⟩ (.slice A3 N3 c3)).cell? ⟨p, 0, none⟩ = some (.int .u64 b) := (by rw [q3.cell]; rfl); have g4 := q3.frozen 0; have HQ := Lib.hid q1; clear q1 q2 q3 ho3 hk3 hv3)
    all_goals go_wp2
    all_goals go_end0
    all_goals exact HQ.out
  · rw [hV] at HGA HGB
    clear hV
    go_enter Try.func38, Try.ntmps38
    go_wp2
    go_region_law_o (go_simp; go_at_call 35; first
      | ((with_reducible refine HGA.out.mono ?_); rintro ez w2 ⟨rfl, hB2, hA2⟩; have d0 := hA2.cell 0; have d1 := hA2.cell 1; have f0 := hA2.frozen 0; have f1 := hA2.frozen 1; simp only [List.getElem?_cons_zero, List.getElem?_cons_succ] at d0 d1; have HY := Lib.hid (HYA.out w2 hB2 hA2 t e); clear hB2 hA2)
      | ((with_reducible refine HGB.out.mono ?_); rintro ez w2 ⟨rfl, hB2⟩; have HY := Lib.hid (HYB.out w2 hB2 t e); clear hB2))
    all_goals obtain ⟨Y, hYe, hYb, hYA⟩ := HY.out
    all_goals rw [← hYe]
    all_goals clear hYe HY
    all_goals obtain ⟨c0, c1, f1'⟩ := hcc.out _ hYb
    all_goals have r0 := hYA.cell 0
    all_goals simp only [List.getElem?_cons_zero] at r0
    all_goals have HYb := Lib.hid hYb
    all_goals clear hYb hYA
    all_goals go_wp2
    all_goals have c0d : Y.drew.cell? ⟨p, 0, none⟩ = some (.int .u64 b) := c0
    all_goals have c1d : Y.drew.cell? ⟨p, 1, none⟩ = some (.slice A W.length c) := c1
    all_goals have HDY := Lib.hid (HD.out Y.drew HYb.out.drew)
    all_goals go_region_law_o (go_simp; go_at_call 54; (with_reducible refine HDY.out.mono ?_); rintro ez w3 ⟨v3, rfl, ho3, hk3, hv3⟩; obtain ⟨q1, q2⟩ := HF.out Y.drew w3 v3 HYb.out.drew ho3 hk3 hv3; obtain ⟨A3, c3, rfl, _, _, _⟩ := ho3.open_n N3 HL3.out; have g1 : w3.cell? ⟨p, 1, none⟩ = some (.slice A W.length c) := (by rw [q2.cell]; rfl); have g2 := q2.frozen 1; have q3 := q2.set 1 (.slice A3 N3 c3); have g3 : (w3.setCell ⟨p, 1, none⟩ (.slice A3 N3 c3)).cell? ⟨p, 0, none⟩ = some (.int .u64 b) := (by rw [q3.cell]; rfl); have g4 := q3.frozen 0; have HQ := Lib.hid q1; clear q1 q2 q3 ho3 hk3 hv3)
    all_goals go_wp2
    all_goals go_end0
    all_goals exact HQ.out
end
section
set_option linter.unusedVariables false
set_option linter.unusedSimpArgs false
open Go.RowKit
theorem tk_dst {P : Program} {md : Region.Mode} {ops : Array Oper} {Q : Exit → Act → World → Prop} {S : World → Prop} {i : Nat} {oi : Oper} {dst : Option Tmp} {v : Value} {fuel : Nat} {listed : Array Bool} {a : Act} {w : World} (hi : ops[i]? = some oi) (hd : oi.dst = dst)
    (hs : Region.noSelect ops = true) (hf : Region.free md ops listed i = true) (hr : (Region.ready md ops listed).contains i = true)
    (hQ : ∀ c a w, Q (.panic c) (a.put dst v) w → Q (.panic c) a w) (hy : YieldsIf P ops S oi v a) (hS : S w)
    (h : wpAnyH P md ops Q S fuel (listed.setIfInBounds i true) (a.put dst v) w) : wpAnyH P md ops Q S (fuel + 1) listed a w := by
  subst hd
  exact wpAnyH_take hi hs hf hr hQ hy hS h
theorem step_st_any {P : Program} {ops : Array Oper} {a : Act} {w : World} {K : Act → World → Prop} {Q : Exit → Act → World → Prop} {E : Prop} {dst : Option Tmp} {x y : Operand} {ty t : TypeId} {pos : String} {after : Array Edge} {g : Option (Nat × Bool)}
    (hg : Region.wanted ⟨dst, .store ty x y, t, pos, after, g⟩ (yielded ops a.tmps) = true) (p : Nat) (T : TypeId) (l l' : List Value) (hx : a.eval x = .pointer (some ⟨p, 0, none⟩)) (hy : a.eval y = .agg l'.toArray) (hA : At w p T l) (hl : l.length = l'.length)
    (hi : (P.info? ty).map (·.size) = some l'.length) (h1 : l'.all (·.oneCell') = true) (h : ∀ w', At w' p T l' → Kept (· = p) w w' → K (a.put dst undef) w') :
    if Region.wanted ⟨dst, .store ty x y, t, pos, after, g⟩ (yielded ops a.tmps) = true then Oper.wp P ⟨dst, .store ty x y, t, pos, after, g⟩ a w K Q else E := by
  rw [if_pos hg]
  refine wp_store_mid _ x y rfl p 0 l'.toArray hx hy (by simpa using hA.there _ (by omega)) (by simpa using hi) (by simpa using h1) ?_
  have := At.setFrom l' l 0 w hA
  rw [setFrom_all l l' hl] at this
  exact h _ (by simpa using this) (by simpa using Kept.setCells (S := (· = p)) rfl l' 0 w (Kept.refl _ _))
end
section
set_option linter.unusedVariables false
open Go.RowKit
theorem tkq {P : Program} {md : Region.Mode} {ops : Array Oper} {Q : Exit → Act → World → Prop} {S : World → Prop} (i : Nat) (dst : Option Tmp) {oi : Oper} {v : Value} {fuel : Nat} {listed : Array Bool} {a : Act} {w : World} (hi : ops[i]? = some oi)
    (hy : YieldsIf P ops S oi v a) (hS : S w) (h : wpAnyH P md ops Q S fuel (listed.setIfInBounds i true) (a.put dst v) w)
    (hd : oi.dst = dst := by rfl) (hs : Region.noSelect ops = true := by kernel_rfl) (hf : Region.free md ops listed i = true := by kernel_rfl) (hr : (Region.ready md ops listed).contains i = true := by kernel_rfl)
    (hQ : ∀ c a w, Q (.panic c) (a.put dst v) w → Q (.panic c) a w := by exact fun _ _ _ h => h) : wpAnyH P md ops Q S (fuel + 1) listed a w :=
  tk_dst hi hd hs hf hr hQ hy hS h
end
end Go.Proofs.Ytohahkjikhpamaa
