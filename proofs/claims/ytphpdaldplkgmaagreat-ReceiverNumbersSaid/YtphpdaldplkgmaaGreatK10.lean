/-
  Chapter 17's ReceiverNumbers.
-/
import Derived.Test.YtphpdaldplkgmaaGreatMq27
import Derived.Test.YtphpdaldplkgmaaGreatMq13
import Derived.Deep.CutRange
namespace Go.Proofs.YtphpdaldplkgmaaGreat
set_option linter.unusedVariables false
set_option linter.unusedSimpArgs false
open Go.RowKit
section
variable {W1 W W' : World} {p q pw k g : Nat} {G : Nat → Prop} {L : List AskD} {l : List Value}
/-- A row that is made beside. -/
theorem ln_row (h : Ln W1 W p q pw k G) (hL : ∀ d ∈ L, AskIn W1 W1.heap.size d) : Ln W1 (W.alloc (.cells (aRow L).toArray 36)) p q pw k (fun b => G b ∨ b = W.heap.size) ∧ RowOf W1 (W.alloc (.cells (aRow L).toArray 36)) W.heap.size L := by
  have hb : Below W.heap.size W (W.alloc (.cells (aRow L).toArray 36)) := (Below.refl _ _).alloc (Nat.le_refl _) _
  have hA := At.new W 36 (aRow L)
  exact ⟨h.below hb fun b hb' => hb'.elim .inl fun e => .inr ⟨by omega, by rw [e]; exact hA.lt⟩, hA, hL⟩
theorem ln_row2 {L0 : List AskD} (h : Ln W1 W p q pw k (fun b => b = g)) (hr : RowOf W1 W g L0) (hL : ∀ d ∈ L, AskIn W1 W1.heap.size d) : Ln W1 (W.alloc (.cells (aRow L).toArray 36)) p q pw k (fun b => b = g ∨ b = W.heap.size) ∧ RowOf W1 (W.alloc (.cells (aRow L).toArray 36)) g L0 ∧ RowOf W1 (W.alloc (.cells (aRow L).toArray 36)) W.heap.size L := by
  have hrw := ln_row h hL
  have hb : Below W.heap.size W (W.alloc (.cells (aRow L).toArray 36)) := (Below.refl _ _).alloc (Nat.le_refl _) _
  exact ⟨hrw.1, ⟨hr.at_.below hb hr.at_.lt, hr.all⟩, hrw.2⟩
/-- A call's own block that is made beside. -/
theorem ln_box (h : Ln W1 W p q pw k G) (l : List Value) : Ln W1 (W.alloc (.cells l.toArray 36)) p q pw k G ∧ At (W.alloc (.cells l.toArray 36)) W.heap.size 36 l ∧ Below W.heap.size W (W.alloc (.cells l.toArray 36)) := by
  have hb : Below W.heap.size W (W.alloc (.cells l.toArray 36)) := (Below.refl _ _).alloc (Nat.le_refl _) _
  exact ⟨h.below hb fun b hb' => .inl hb', At.new W _ l, hb⟩
theorem RowOf.below (h : RowOf W1 W g L) (hb : Below W.heap.size W W') : RowOf W1 W' g L := ⟨h.at_.below hb h.at_.lt, h.all⟩
theorem Ln.less {G' : Nat → Prop} (h : Ln W1 W p q pw k G) (hG : ∀ b, G' b → G b) : Ln W1 W p q pw k G' := h.below (Below.refl _ _) fun b hb => .inl (hG b hb)
end
set_option maxRecDepth 100000 in
theorem ask_i : ∃ i z, Tryz.prog.info? 36 = some i ∧ i.zero = some z ∧ i.size = 15 := by
  have h : (Tryz.prog.info? 36).map (fun i => (i.zero.isSome, i.size)) = some (true, 15) := by kernel_rfl
  cases hq : Tryz.prog.info? 36 with
  | none => rw [hq] at h; cases h
  | some i =>
    rw [hq] at h
    simp only [Option.map_some, Option.some.injEq, Prod.mk.injEq] at h
    obtain ⟨z, hz⟩ := Option.isSome_iff_exists.1 h.1
    exact ⟨i, z, rfl, hz, h.2⟩
theorem al_len (L : List AskD) : ∀ l ∈ L.map AskD.l, l.length = 15 := fun l hl => by
  obtain ⟨d, _, rfl⟩ := List.mem_map.1 hl
  rfl
section
variable {ops : Array Oper} {rest : List Oper} {a : Act} {w : World} {Q : Exit → Act → World → Prop} {dst : Option Tmp} {ty : TypeId} {pos : String} {after : Array Edge}
set_option maxRecDepth 100000 in
theorem wpList_asks (L : List AskD) (n : Nat) (parts : Array (Nat × Operand)) (hn : L.length = n) (hs : n ≤ 1000) (hp : 0 < n) (hpt : parts.toList.map (fun x => (x.1, a.eval x.2)) = ((L.map AskD.l).zipIdx 0).map fun x => (x.2, Value.agg x.1.toArray))
    (h : wpList Tryz.prog ops Q rest (a.put dst (.slice (some ⟨w.heap.size, 0, none⟩) n n)) (w.alloc (.cells (aRow L).toArray 36))) :
    wpList Tryz.prog ops Q (⟨dst, .buildSlice 37 n parts, ty, pos, after, none⟩ :: rest) a w := by
  obtain ⟨i, z, h2, h3, h4⟩ := ask_i
  exact wpList_bsn _ _ i z 15 n Tryz.underlying37 h2 h3 h4 (L.map AskD.l) ((List.length_map _).trans hn) (al_len L) (by omega) (by omega) parts hpt _ rfl h
set_option maxRecDepth 100000 in
theorem step_asks {K : Act → World → Prop} {E : Prop} (L : List AskD) (n : Nat) (parts : Array (Nat × Operand)) (hn : L.length = n) (hs : n ≤ 1000) (hp : 0 < n) (hpt : parts.toList.map (fun x => (x.1, a.eval x.2)) = ((L.map AskD.l).zipIdx 0).map fun x => (x.2, Value.agg x.1.toArray))
    (h : K (a.put dst (.slice (some ⟨w.heap.size, 0, none⟩) n n)) (w.alloc (.cells (aRow L).toArray 36))) :
    if Region.wanted ⟨dst, .buildSlice 37 n parts, ty, pos, after, none⟩ (yielded ops a.tmps) = true then Oper.wp Tryz.prog ⟨dst, .buildSlice 37 n parts, ty, pos, after, none⟩ a w K Q else E := by
  obtain ⟨i, z, h2, h3, h4⟩ := ask_i
  exact step_bsn _ _ i z 15 n Tryz.underlying37 h2 h3 h4 (L.map AskD.l) ((List.length_map _).trans hn) (al_len L) (by omega) (by omega) parts hpt _ rfl h
end
set_option maxRecDepth 100000 in
theorem AskD.one (d : AskD) : d.l.all (·.oneCell') = true := rfl
set_option maxHeartbeats 80000000 in
set_option maxRecDepth 100000 in
theorem rnumbers_law (w : World) : Calls Tryz.prog 3 #[] w fun e w' => e = .returned (.bool true) ∧ Below w.heap.size w w' := by
  obtain ⟨i0, hi, hz0, hz1, hz2⟩ := o8.hi
  have hb0 := Below.refl w.heap.size w
  have HK := Lib.hid (fun W => known17_any W)
  have HN : Hid (∀ W, Calls Tryz.prog 5 #[.int .u64 5, .int .u64 100] W (QNew (qs0 5 100) W)) := Lib.hid (fun W => q_new 5 100 (by decide) (by decide) W)
  have HR : Hid (∀ W, Calls Tryz.prog 6 #[.int .u64 5, .int .u64 100] W (RqNew (qs0 5 100) W)) := Lib.hid (fun W => rq_new 5 100 W)
  have HNB : Hid (∀ W, Calls Tryz.prog 5 #[.int .u64 1, .int .u64 1099511627776] W (QNew (qs0 1 1099511627776) W)) := Lib.hid (fun W => q_new 1 1099511627776 (by decide) (by decide) W)
  go_enter Tryz.func3, Tryz.ntmps3
  go_upto_region 2 with (at_make; refine wpList_make_lc rfl (.const (.int .i64 40)) (.const (.int .i64 40)) 22 rfl 5 i0 (.int .u8 0) Tryz.underlying22 hi hz0 hz1 .i64 .i64 _ _ 40 40 rfl rfl rfl rfl (by omega) (by rw [hz2]; omega) (by unfold maxLen; omega) w.heap.size w hb0 (Nat.le_refl _) ?_; intro w1 gd G1 GE hg hb1 hbw1; have HGD : Hid (At w1 gd 5 (madeL (.int .u8 0) 40)) := Lib.hid G1.out; have HB1 := Lib.hid hb1; clear G1 GE hg hb1 hbw1 hb0)
  clear hi hz0 hz1 hz2
  have H17 : Hid (∀ d ∈ kr0 gd, AskIn w1 w1.heap.size d) := Lib.hid (kr0_d HGD.out HGD.out.lt)
  have H6 : Hid (∀ nt, nt ≤ 1000000 → ∀ d ∈ kr1 gd nt, AskIn w1 w1.heap.size d) := Lib.hid (fun nt h => kr1_d h HGD.out HGD.out.lt)
  have H10 : Hid (∀ d ∈ kr2 gd, AskIn w1 w1.heap.size d) := Lib.hid (kr2_d HGD.out HGD.out.lt)
  clear HGD
  go_upto_region 3 with fail
  go_loopg [2] 12 (fun kx s2 wr => ∃ i : Nat, s2 = .int .i64 i ∧ i ≤ 12 ∧ 12 - i ≤ kx ∧ Hid (Below w1.heap.size w1 wr))
  case atStart => exact ⟨0, rfl, by omega, by omega, Lib.hid (Below.refl _ _)⟩
  case round =>
    obtain ⟨i, rfl, hi12, hkx, hB⟩ := hrel
    by_cases hgo : i < 12
    · obtain ⟨wo, rfl⟩ : ∃ wo : World, wo = wr := ⟨_, rfl⟩
      have hiz : (i : Int) < 12 := by omega
      go_upto_region 6 with (first
        | (go_at_call 5; (with_reducible refine (HN.out _).mono ?_); rintro e w2 ⟨p, rfl, hq2, hb2⟩; have HQ2 := Lib.hid hq2; have HB2 := Lib.hid hb2; clear hq2 hb2)
        | (go_at_call 6; (with_reducible refine (HR.out _).mono ?_); rintro e w3 ⟨q, rfl, hq3, hb3⟩; have HQ3 := Lib.hid hq3; have HB3 := Lib.hid hb3; clear hq3 hb3)
        | fail)
      have hln := ln_born hB.out hB.out.size (by decide) HQ2.out HB2.out HQ3.out HB3.out
      generalize w3.alloc (.cells #[.pointer (some ⟨p, 0, none⟩), .pointer (some ⟨q, 0, none⟩), .slice none 0 0] 31) = w4 at hln ⊢
      generalize w3.heap.size = pw at hln ⊢
      have HL4 := Lib.hid hln
      have c0 := hln.p0
      clear hln HQ2 HB2 HQ3 HB3
      go_upto_region 8 with fail
      go_cut [47, 48, 49] from 25 to 50 (fun s47 s48 s49 wx => ∃ gr, s47 = .slice (some ⟨gr, 0, none⟩) 17 17 ∧ s48 = .int .i64 17 ∧ s49 = .int .i64 0 ∧ Hid (Ln w1 wx p q pw 0 (fun b => b = gr) ∧ RowOf w1 wx gr (kr0 gd)))
      case first =>
        have HROW := Lib.hid (ln_row HL4.out H17.out)
        go_wp2_with (first | ((with_reducible refine wpList_asks (kr0 gd) 17 _ rfl (by decide) (by decide) ?_ ?_); · rfl) | fail)
        go_meet
        exact ⟨_, rfl, rfl, rfl, Lib.hid ⟨HROW.out.1.less fun b h => .inr h, HROW.out.2⟩⟩
      case rest =>
      obtain ⟨gr, rfl, rfl, rfl, HX⟩ := hcut
      clear HL4 c0
      go_upto_region 9 with fail
      go_loopg [49] 17 (fun kx s49 wr => ∃ j k : Nat, s49 = .int .i64 j ∧ j ≤ 17 ∧ k ≤ 17 * j ∧ 17 - j ≤ kx ∧ Hid (Ln w1 wr p q pw k (fun b => b = gr) ∧ RowOf w1 wr gr (kr0 gd)))
      case atStart => exact ⟨0, 0, rfl, by omega, by omega, by omega, HX⟩
      case round =>
        clear HX
        obtain ⟨j, k, rfl, hj17, hk17, hkx2, HI⟩ := hrel
        by_cases hgo2 : j < 17
        · obtain ⟨wi, rfl⟩ : ∃ wi : World, wi = wr := ⟨_, rfl⟩
          obtain ⟨d, hd⟩ : ∃ d, (kr0 gd)[j]? = some d := ⟨_, List.getElem?_eq_getElem (show j < 17 from hgo2)⟩
          have hget := HI.out.2.get hd
          have hbx := ln_box HI.out.1 d.l
          have HR5 := Lib.hid (HI.out.2.below hbx.2.2)
          have HD := Lib.hid (ln_do hbx.1 (by omega) hget.2)
          have hr := hget.1
          have hA5 := hbx.2.1
          have HL15 : Hid (d.l.length = 15) := Lib.hid rfl
          have HO15 : Hid (d.l.all (·.oneCell') = true) := Lib.hid (AskD.one d)
          obtain ⟨LA, hLA⟩ : ∃ LA, d.l = LA := ⟨_, rfl⟩
          rw [hLA] at HR5 HD hr hA5 HL15 HO15
          have hjz : (j : Int) < 17 := by omega
          clear hLA hd hget hbx HI
          go_upto_region 13 with (first
            | ((with_reducible refine at_lda ?_); first | refine ld_ask gr (j * 15) LA (by rfl) hr HL15.out ?_ | (refine ld_ask wi.heap.size 0 LA (by rfl) hA5.rangeAt HL15.out ?_))
            | ((with_reducible refine at_sta ?_); refine st_ask _ _ LA (by rfl) _ (by rfl) (by simp) (by rfl) (by rfl) HL15.out HO15.out ?_)
            | (go_at_call 7; (with_reducible refine HD.out.mono ?_); rintro e w6 ⟨rfl, hl6, hg6, hs6⟩; have HL6 := Lib.hid hl6; have HR6 := Lib.hid (HR5.out.block (hg6 gr rfl)); clear hl6 hg6 hs6)
            | fail)
          clear hr hA5 HL15 HO15 HR5 HD
          by_cases hc : j = i + 2
          · have hcz : (j : Int) = (i : Int) + 2 := by omega
            have hi1 : i ≤ 11 := by omega
            go_upto_region 14 with fail
            clear hcz hc
            obtain ⟨tA, nt, tc, c2, hnt⟩ := HL6.out.p2
            have HROW2 := Lib.hid (ln_row2 HL6.out HR6.out (H6.out nt (by omega)))
            go_cut [73, 74, 75] from 62 to 76 (fun s73 s74 s75 wx => ∃ g2, s73 = .slice (some ⟨g2, 0, none⟩) 6 6 ∧ s74 = .int .i64 6 ∧ s75 = .int .i64 0 ∧ Hid (Ln w1 wx p q pw (k + 1) (fun b => b = gr ∨ b = g2) ∧ RowOf w1 wx gr (kr0 gd) ∧ RowOf w1 wx g2 (kr1 gd nt)))
            case first =>
              go_wp2_with (first | ((with_reducible refine wpList_asks (kr1 gd nt) 6 _ rfl (by decide) (by decide) ?_ ?_); · rfl) | fail)
              go_meet
              exact ⟨_, rfl, rfl, rfl, HROW2⟩
            case rest =>
            obtain ⟨g2, rfl, rfl, rfl, HX2⟩ := hcut
            clear HL6 HR6 HROW2 c2
            go_upto_region 15 with fail
            go_loopg [75] 6 (fun kx s wr => ∃ jj k2 : Nat, s = .int .i64 jj ∧ jj ≤ 6 ∧ k2 ≤ 17 * j + 1 + jj ∧ 6 - jj ≤ kx ∧ Hid (Ln w1 wr p q pw k2 (fun b => b = gr ∨ b = g2) ∧ RowOf w1 wr gr (kr0 gd) ∧ RowOf w1 wr g2 (kr1 gd nt)))
            case atStart => exact ⟨0, _, rfl, by omega, by omega, by omega, HX2⟩
            case round =>
              clear HX2
              obtain ⟨jj, k2, rfl, hjj, hk2, hkx3, HI2⟩ := hrel
              by_cases hgo3 : jj < 6
              · obtain ⟨wi2, rfl⟩ : ∃ wi : World, wi = wr := ⟨_, rfl⟩
                obtain ⟨d, hd⟩ : ∃ d, (kr1 gd nt)[jj]? = some d := ⟨_, List.getElem?_eq_getElem (show jj < 6 from hgo3)⟩
                have hget := HI2.out.2.2.get hd
                have hbx := ln_box HI2.out.1 d.l
                have HR7 := Lib.hid (HI2.out.2.1.below hbx.2.2)
                have HR8 := Lib.hid (HI2.out.2.2.below hbx.2.2)
                have HL7 := Lib.hid hbx.1
                have HD2 := Lib.hid (ln_do hbx.1 (by omega) hget.2)
                have hr := hget.1
                have hA7 := hbx.2.1
                have HL15 : Hid (d.l.length = 15) := Lib.hid rfl
                have HO15 : Hid (d.l.all (·.oneCell') = true) := Lib.hid (AskD.one d)
                obtain ⟨LA, hLA⟩ : ∃ LA, d.l = LA := ⟨_, rfl⟩
                rw [hLA] at HR7 HR8 HL7 HD2 hr hA7 HL15 HO15
                have hjz2 : (jj : Int) < 6 := by omega
                clear hLA hd hget hbx HI2
                obtain ⟨z, hzz⟩ : ∃ z, (i : Int).tmod 3 = z := ⟨_, rfl⟩
                have wz : IntKind.i64.wrap z = z := by
                  have hzb : -3 < z ∧ z < 3 := by rw [← hzz]; have := Int.tmod_lt_of_pos (i : Int) (show (0 : Int) < 3 by decide); have := Int.lt_tmod_of_pos (i : Int) (show (0 : Int) < 3 by decide); omega
                  rw [IntKind.wrap_i64]; omega
                cases hz0 : (z == 0) with
                | true =>
                  go_wp2_with (first
                    | ((with_reducible refine at_lda ?_); first | refine ld_ask_g g2 (jj * 15) LA (by rfl) (by rfl) hr HL15.out ?_ | (refine ld_ask_g wi2.heap.size 0 LA (by rfl) (by rfl) hA7.rangeAt HL15.out ?_))
                    | ((with_reducible refine at_sta ?_); refine st_ask _ _ LA (by rfl) _ (by rfl) (by simp) (by rfl) (by rfl) HL15.out HO15.out ?_)
                    | (go_at_call 7; (with_reducible refine HD2.out.mono ?_); rintro e w8 ⟨rfl, hl8, hg8, hs8⟩; have HX8 : Hid (Ln w1 w8 p q pw (k2 + 1) (fun b => b = gr ∨ b = g2) ∧ RowOf w1 w8 gr (kr0 gd) ∧ RowOf w1 w8 g2 (kr1 gd nt)) := Lib.hid ⟨hl8, HR7.out.block (hg8 gr (.inl rfl)), HR8.out.block (hg8 _ (.inr rfl))⟩; clear hl8 hg8 hs8)
                    | fail)
                  go_roundg (6 - (jj + 1))
                  case measure => omega
                  case rel => exact ⟨jj + 1, k2 + 1, by simp, by omega, by omega, by omega, HX8⟩
                | false =>
                  have HX8 := Lib.hid (And.intro HL7.out (And.intro HR7.out HR8.out))
                  go_wp2_with (first
                    | ((with_reducible refine at_lda ?_); first | refine ld_ask_g g2 (jj * 15) LA (by rfl) (by rfl) hr HL15.out ?_ | (refine ld_ask_g wi2.heap.size 0 LA (by rfl) (by rfl) hA7.rangeAt HL15.out ?_))
                    | ((with_reducible refine at_sta ?_); refine st_ask _ _ LA (by rfl) _ (by rfl) (by simp) (by rfl) (by rfl) HL15.out HO15.out ?_)
                    | fail)
                  go_roundg (6 - (jj + 1))
                  case measure => omega
                  case rel => exact ⟨jj + 1, k2, by simp, by omega, by omega, by omega, HX8⟩
              · obtain rfl : jj = 6 := by omega
                obtain ⟨w9, rfl⟩ : ∃ wi : World, wi = wr := ⟨_, rfl⟩
                obtain ⟨hl9, hr9, _⟩ := HI2.out
                obtain ⟨Y9, hY⟩ : ∃ Y9, w9.drew = Y9 := ⟨_, rfl⟩
                have hbY : Below w9.heap.size w9 Y9 := by rw [← hY]; exact belowN (Below.refl _ _) 1
                have HX3 := Lib.hid (ln_row2 ((hl9.less (G' := fun b => b = gr) fun b h => .inl h).below hbY fun b h => .inl h) (hr9.below hbY) H10.out)
                clear hl9 hr9 HI2 hkx3 hbY
                obtain ⟨g3, hg3⟩ : ∃ g3, Y9.heap.size = g3 := ⟨_, rfl⟩
                obtain ⟨w11, hw11⟩ : ∃ w11, Y9.alloc (.cells (aRow (kr2 gd)).toArray 36) = w11 := ⟨_, rfl⟩
                rw [hw11, hg3] at HX3
                have hk9 : k2 ≤ 17 * j + 7 := by omega
                clear hk2
                go_upto_region 20 with fail
                refine wp_region_held_drew (S := (fun _ => True)) (by kernel_rfl) (trivial) (fun hHeld => ?_)
                rw [hY]
                clear hY
                refine tkq 0 (some 89) (v := ?_) rfl (Or.inl ⟨by rfl, ?_⟩) (by assumption) ?_
                rotate_left
                · intro w hSw; (try dsimp only at hSw); go_simp; first | done | (with_reducible rfl)
                simp only [Act.put, List.setIfInBounds_toArray, List.set_cons_zero, List.set_cons_succ]
                refine tkq 1 (some 90) (v := ?_) rfl (Or.inl ⟨by rfl, ?_⟩) (by assumption) ?_
                rotate_left
                · intro w hSw; (try dsimp only at hSw); go_simp; first | done | (with_reducible rfl)
                simp only [Act.put, List.setIfInBounds_toArray, List.set_cons_zero, List.set_cons_succ]
                refine tkq 2 (some 91) (v := ?_) rfl (Or.inl ⟨by rfl, ?_⟩) (by assumption) ?_
                rotate_left
                · intro w hSw; (try dsimp only at hSw); go_simp; first | done | (with_reducible rfl)
                simp only [Act.put, List.setIfInBounds_toArray, List.set_cons_zero, List.set_cons_succ]
                refine tkq 3 (some 92) (v := ?_) rfl (Or.inl ⟨by rfl, ?_⟩) (by assumption) ?_
                rotate_left
                · intro w hSw; (try dsimp only at hSw); go_simp; first | done | (with_reducible rfl)
                simp only [Act.put, List.setIfInBounds_toArray, List.set_cons_zero, List.set_cons_succ]
                refine tkq 4 (some 93) (v := ?_) rfl (Or.inl ⟨by rfl, ?_⟩) (by assumption) ?_
                rotate_left
                · intro w hSw; (try dsimp only at hSw); go_simp; first | done | (with_reducible rfl)
                simp only [Act.put, List.setIfInBounds_toArray, List.set_cons_zero, List.set_cons_succ]
                refine tkq 5 (some 94) (v := ?_) rfl (Or.inl ⟨by rfl, ?_⟩) (by assumption) ?_
                rotate_left
                · intro w hSw; (try dsimp only at hSw); go_simp; first | done | (with_reducible rfl)
                simp only [Act.put, List.setIfInBounds_toArray, List.set_cons_zero, List.set_cons_succ]
                refine tkq 6 (some 95) (v := ?_) rfl (Or.inl ⟨by rfl, ?_⟩) (by assumption) ?_
                rotate_left
                · intro w hSw; (try dsimp only at hSw); go_simp; first | done | (with_reducible rfl)
                simp only [Act.put, List.setIfInBounds_toArray, List.set_cons_zero, List.set_cons_succ]
                refine tkq 7 (some 96) (v := ?_) rfl (Or.inl ⟨by rfl, ?_⟩) (by assumption) ?_
                rotate_left
                · intro w hSw; (try dsimp only at hSw); go_simp; first | done | (with_reducible rfl)
                simp only [Act.put, List.setIfInBounds_toArray, List.set_cons_zero, List.set_cons_succ]
                refine tkq 8 (some 97) (v := ?_) rfl (Or.inl ⟨by rfl, ?_⟩) (by assumption) ?_
                rotate_left
                · intro w hSw; (try dsimp only at hSw); go_simp; first | done | (with_reducible rfl)
                simp only [Act.put, List.setIfInBounds_toArray, List.set_cons_zero, List.set_cons_succ]
                refine tkq 9 (some 98) (v := ?_) rfl (Or.inl ⟨by rfl, ?_⟩) (by assumption) ?_
                rotate_left
                · intro w hSw; (try dsimp only at hSw); go_simp; first | done | (with_reducible rfl)
                simp only [Act.put, List.setIfInBounds_toArray, List.set_cons_zero, List.set_cons_succ]
                refine tkq 10 (some 99) (v := ?_) rfl (Or.inl ⟨by rfl, ?_⟩) (by assumption) ?_
                rotate_left
                · intro w hSw; (try dsimp only at hSw); go_simp; first | done | (with_reducible rfl)
                simp only [Act.put, List.setIfInBounds_toArray, List.set_cons_zero, List.set_cons_succ]
                refine tkq 11 (some 100) (v := ?_) rfl (Or.inl ⟨by rfl, ?_⟩) (by assumption) ?_
                rotate_left
                · intro w hSw; (try dsimp only at hSw); go_simp; first | done | (with_reducible rfl)
                simp only [Act.put, List.setIfInBounds_toArray, List.set_cons_zero, List.set_cons_succ]
                refine tkq 12 (some 101) (v := ?_) rfl (Or.inl ⟨by rfl, ?_⟩) (by assumption) ?_
                rotate_left
                · intro w hSw; (try dsimp only at hSw); go_simp; first | done | (with_reducible rfl)
                simp only [Act.put, List.setIfInBounds_toArray, List.set_cons_zero, List.set_cons_succ]
                refine tkq 13 (some 102) (v := ?_) rfl (Or.inl ⟨by rfl, ?_⟩) (by assumption) ?_
                rotate_left
                · intro w hSw; (try dsimp only at hSw); go_simp; first | done | (with_reducible rfl)
                simp only [Act.put, List.setIfInBounds_toArray, List.set_cons_zero, List.set_cons_succ]
                refine tkq 16 (some 105) (v := ?_) rfl (Or.inl ⟨by rfl, ?_⟩) (by assumption) ?_
                rotate_left
                · intro w hSw; (try dsimp only at hSw); go_simp; first | done | (with_reducible rfl)
                simp only [Act.put, List.setIfInBounds_toArray, List.set_cons_zero, List.set_cons_succ]
                refine wpAnyH_ready (rs := [14]) (by kernel_rfl) (by simp) ?_
                refine AllReadyH.cons rfl (fun K hK => ?_) AllReadyH.nil
                refine step_asks (kr2 gd) 10 _ rfl (by decide) (by decide) ?_ ?_
                · rfl
                rw [hg3, hw11]
                refine hK.out _ _ (trivial) (fun hHeld => ?_)
                clear hK K
                refine tkq 15 (some 104) (v := ?_) rfl (Or.inl ⟨by rfl, ?_⟩) (by assumption) ?_
                rotate_left
                · intro w hSw; (try dsimp only at hSw); go_simp; first | done | (with_reducible rfl)
                simp only [Act.put, List.setIfInBounds_toArray, List.set_cons_zero, List.set_cons_succ]
                refine wpAnyH_done (by kernel_rfl) ?_ _
                clear hg3 hw11
                go_upto_region 21 with fail
                go_loopg [105] 10 (fun kx s wr => ∃ jj k2 : Nat, s = .int .i64 jj ∧ jj ≤ 10 ∧ k2 ≤ 17 * j + 7 + jj ∧ 10 - jj ≤ kx ∧ Hid (Ln w1 wr p q pw k2 (fun b => b = gr ∨ b = g3) ∧ RowOf w1 wr gr (kr0 gd) ∧ RowOf w1 wr g3 (kr2 gd)))
                case atStart => exact ⟨0, _, rfl, by omega, by omega, by omega, HX3⟩
                case round =>
                  clear HX3
                  obtain ⟨jj, k2, rfl, hjj, hk2, hkx3, HI2⟩ := hrel
                  by_cases hgo3 : jj < 10
                  · obtain ⟨wi2, rfl⟩ : ∃ wi : World, wi = wr := ⟨_, rfl⟩
                    obtain ⟨d, hd⟩ : ∃ d, (kr2 gd)[jj]? = some d := ⟨_, List.getElem?_eq_getElem (show jj < 10 from hgo3)⟩
                    have hget := HI2.out.2.2.get hd
                    have hbx := ln_box HI2.out.1 d.l
                    have HR7 := Lib.hid (HI2.out.2.1.below hbx.2.2)
                    have HR8 := Lib.hid (HI2.out.2.2.below hbx.2.2)
                    have HL7 := Lib.hid hbx.1
                    have HD2 := Lib.hid (ln_do hbx.1 (by omega) hget.2)
                    have hr := hget.1
                    have hA7 := hbx.2.1
                    have HL15 : Hid (d.l.length = 15) := Lib.hid rfl
                    have HO15 : Hid (d.l.all (·.oneCell') = true) := Lib.hid (AskD.one d)
                    obtain ⟨LA, hLA⟩ : ∃ LA, d.l = LA := ⟨_, rfl⟩
                    rw [hLA] at HR7 HR8 HL7 HD2 hr hA7 HL15 HO15
                    have hjz2 : (jj : Int) < 10 := by omega
                    clear hLA hd hget hbx HI2
                    obtain ⟨z, hzz⟩ : ∃ z, (i : Int).tmod 3 = z := ⟨_, rfl⟩
                    have wz : IntKind.i64.wrap z = z := by
                      have hzb : -3 < z ∧ z < 3 := by rw [← hzz]; have := Int.tmod_lt_of_pos (i : Int) (show (0 : Int) < 3 by decide); have := Int.lt_tmod_of_pos (i : Int) (show (0 : Int) < 3 by decide); omega
                      rw [IntKind.wrap_i64]; omega
                    cases hz0 : (z == 1) with
                    | true =>
                      go_wp2_with (first
                        | ((with_reducible refine at_lda ?_); first | refine ld_ask_g g3 (jj * 15) LA (by rfl) (by rfl) hr HL15.out ?_ | (refine ld_ask_g wi2.heap.size 0 LA (by rfl) (by rfl) hA7.rangeAt HL15.out ?_))
                        | ((with_reducible refine at_sta ?_); refine st_ask _ _ LA (by rfl) _ (by rfl) (by simp) (by rfl) (by rfl) HL15.out HO15.out ?_)
                        | (go_at_call 7; (with_reducible refine HD2.out.mono ?_); rintro e w8 ⟨rfl, hl8, hg8, hs8⟩; have HX8 : Hid (Ln w1 w8 p q pw (k2 + 1) (fun b => b = gr ∨ b = g3) ∧ RowOf w1 w8 gr (kr0 gd) ∧ RowOf w1 w8 g3 (kr2 gd)) := Lib.hid ⟨hl8, HR7.out.block (hg8 gr (.inl rfl)), HR8.out.block (hg8 _ (.inr rfl))⟩; clear hl8 hg8 hs8)
                        | fail)
                      go_roundg (10 - (jj + 1))
                      case measure => omega
                      case rel => exact ⟨jj + 1, k2 + 1, by simp, by omega, by omega, by omega, HX8⟩
                    | false =>
                      have HX8 := Lib.hid (And.intro HL7.out (And.intro HR7.out HR8.out))
                      go_wp2_with (first
                        | ((with_reducible refine at_lda ?_); first | refine ld_ask_g g3 (jj * 15) LA (by rfl) (by rfl) hr HL15.out ?_ | (refine ld_ask_g wi2.heap.size 0 LA (by rfl) (by rfl) hA7.rangeAt HL15.out ?_))
                        | ((with_reducible refine at_sta ?_); refine st_ask _ _ LA (by rfl) _ (by rfl) (by simp) (by rfl) (by rfl) HL15.out HO15.out ?_)
                        | fail)
                      go_roundg (10 - (jj + 1))
                      case measure => omega
                      case rel => exact ⟨jj + 1, k2, by simp, by omega, by omega, by omega, HX8⟩
                  · obtain rfl : jj = 10 := by omega
                    obtain ⟨w9, rfl⟩ : ∃ wi : World, wi = wr := ⟨_, rfl⟩
                    have HX9 : Hid (∃ k', k' ≤ 17 * (j + 1) ∧ Ln w1 w9 p q pw k' (fun b => b = gr) ∧ RowOf w1 w9 gr (kr0 gd)) := Lib.hid ⟨k2, by omega, HI2.out.1.less fun b h => .inl h, HI2.out.2.1⟩
                    clear HI2
                    obtain ⟨k', hk', hl', hr'⟩ := HX9.out
                    have HX10 : Hid (Ln w1 w9 p q pw k' (fun b => b = gr) ∧ RowOf w1 w9 gr (kr0 gd)) := Lib.hid ⟨hl', hr'⟩
                    clear HX9 hl' hr'
                    go_wp2_with fail
                    go_roundg (17 - (j + 1))
                    case measure => omega
                    case rel => exact ⟨j + 1, k', by simp, by omega, hk', by omega, HX10⟩
          · have hcz : ¬ (j : Int) = (i : Int) + 2 := by omega
            have HX9 : Hid (Ln w1 w6 p q pw (k + 1) (fun b => b = gr) ∧ RowOf w1 w6 gr (kr0 gd)) := Lib.hid ⟨HL6.out, HR6.out⟩
            clear HL6 HR6
            go_wp2_with fail
            go_roundg (17 - (j + 1))
            case measure => omega
            case rel => exact ⟨j + 1, k + 1, by simp, by omega, by omega, by omega, HX9⟩
        · obtain rfl : j = 17 := by omega
          have HB9 : Hid (Below w1.heap.size w1 wr) := Lib.hid HI.out.1.bl
          clear HI
          go_wp2_with fail
          go_roundg (12 - (i + 1))
          case measure => omega
          case rel => exact ⟨i + 1, by simp, by omega, by omega, HB9⟩
    · obtain rfl : i = 12 := by omega
      have HLB : Hid (∀ W B p, (∃ O, Qp W B p O (qs0 1 1099511627776)) → Calls Tryz.prog 8 #[.pointer (some ⟨p, 0, none⟩)] W fun e w' => e = .returned (.int .u64 2048) ∧ w' = W) := Lib.hid (fun W B p ⟨O, h⟩ => q_limit h)
      clear H17 H6 H10 HN HR
      go_wp2_with (first
        | (go_at_call 5; (with_reducible refine (HNB.out _).mono ?_); rintro e w5 ⟨pb, rfl, hq5, hb5⟩; have HQ5 := Lib.hid hq5; have HB5 := Lib.hid (hB.out.trans (hb5.mono hB.out.size)); clear hq5 hb5)
        | (go_at_call 8; (with_reducible refine (HLB.out _ _ _ HQ5.out).mono ?_); rintro e w7 ⟨rfl, hw7⟩; rw [hw7]; clear hw7)
        | (go_at_call 9; (with_reducible refine (HK.out _).mono ?_); rintro e w7 ⟨rfl, hb7⟩; have HB7 := Lib.hid (HB5.out.trans (hb7.mono HB5.out.size)); clear hb7)
        | fail)
      go_ret
      exact ⟨by first | rfl | simp, HB1.out.trans (HB7.out.mono HB1.out.size)⟩
end Go.Proofs.YtphpdaldplkgmaaGreat
