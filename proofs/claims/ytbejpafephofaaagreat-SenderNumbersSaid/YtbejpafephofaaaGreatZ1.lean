/-
  Chapter 16's SenderNumbers.
-/
import Derived.Test.YtbejpafephofaaaGreatMq29
import Derived.Test.YtbejpafephofaaaGreatMq6
import Derived.Deep.CutRange
namespace Go.Proofs.YtbejpafephofaaaGreat
set_option linter.unusedVariables false
set_option linter.unusedSimpArgs false
open Go.RowKit
section
variable {ops : Array Oper} {rest : List Oper} {a : Act} {w : World} {Q : Exit → Act → World → Prop} {dst : Option Tmp} {x y : Operand} {t : TypeId} {pos : String} {after : Array Edge}
set_option maxRecDepth 100000 in
theorem sask_info : (Tryz.prog.info? 36).map (·.size) = some 13 := by kernel_rfl
theorem at_lds {g : Option (Nat × Bool)} (h : wpList Tryz.prog ops Q (⟨dst, .load 36 x, t, pos, after, g⟩ :: rest) a w) : wpList Tryz.prog ops Q (⟨dst, .load 36 x, t, pos, after, g⟩ :: rest) a w := h
theorem at_sts {g : Option (Nat × Bool)} (h : wpList Tryz.prog ops Q (⟨dst, .store 36 x y, t, pos, after, g⟩ :: rest) a w) : wpList Tryz.prog ops Q (⟨dst, .store 36 x y, t, pos, after, g⟩ :: rest) a w := h
theorem ld_sask (b o : Nat) (l : List Value) (hx : a.eval x = .pointer (some ⟨b, o, none⟩)) (hA : w.rangeAt b o l) (hl : l.length = 13)
    (h : wpList Tryz.prog ops Q rest (a.put dst (.agg l.toArray)) w) : wpList Tryz.prog ops Q (⟨dst, .load 36 x, t, pos, after, none⟩ :: rest) a w :=
  wpList_load_mid rfl _ x rfl b o hx l _ hA Tryz.underlying36 rfl (by rw [hl]; exact sask_info) h
theorem st_sask (w0 : World) (l l' : List Value) (hw : w = w0.alloc (.cells l.toArray 36)) (g : Nat) (hx : a.eval x = .pointer (some ⟨g, 0, none⟩)) (hg : g = w0.heap.size) (hy : a.eval y = .agg l'.toArray) (hl : l.length = 13) (hl' : l'.length = 13)
    (h1 : l'.all (·.oneCell') = true) (h : wpList Tryz.prog ops Q rest (a.put dst undef) (w0.alloc (.cells l'.toArray 36))) :
    wpList Tryz.prog ops Q (⟨dst, .store 36 x y, t, pos, after, none⟩ :: rest) a w :=
  wpList_store_top w0 _ l l' hw g hx hg hy (hl.trans hl'.symm) (by rw [hl']; exact sask_info) h1 h
end
set_option maxHeartbeats 80000000 in
set_option maxRecDepth 100000 in
theorem snumbers_law (w : World) : Calls Tryz.prog 3 #[] w fun e w' => e = .returned (.bool true) ∧ Below w.heap.size w w' := by
  obtain ⟨i0, hi, hz0, hz1, hz2⟩ := o8.hi
  have hb0 := Below.refl w.heap.size w
  have HK := Lib.hid (fun W => known16_any W)
  go_enter Tryz.func3, Tryz.ntmps3
  go_upto_region 2 with (at_make; refine wpList_make_lc rfl (.const (.int .i64 50)) (.const (.int .i64 50)) 22 rfl 5 i0 (.int .u8 0) Tryz.underlying22 hi hz0 hz1 .i64 .i64 _ _ 50 50 rfl rfl rfl rfl (by omega) (by rw [hz2]; omega) (by unfold maxLen; omega) w.heap.size w hb0 (Nat.le_refl _) ?_; intro w1 gd G1 GE hg hb1 hbw1; have HGD : Hid (At w1 gd 5 (madeL (.int .u8 0) 50)) := Lib.hid G1.out; have HB1 := Lib.hid hb1; clear G1 GE hg hb1 hbw1 hb0)
  clear hi hz0 hz1 hz2
  go_upto_region 3 with fail
  go_loopg [2] 10 (fun kx s2 wr => ∃ i : Nat, s2 = .int .i64 i ∧ i ≤ 10 ∧ 10 - i ≤ kx ∧ Hid (Below w1.heap.size w1 wr))
  case atStart => exact ⟨0, rfl, by omega, by omega, Lib.hid (Below.refl _ _)⟩
  case round =>
    obtain ⟨i, rfl, hi10, hkx, hB⟩ := hrel
    by_cases hgo : i < 10
    · obtain ⟨wo, rfl⟩ : ∃ wo : World, wo = wr := ⟨_, rfl⟩
      have hiz : (i : Int) < 10 := by omega
      have hgdo := HGD.out.below hB.out HGD.out.lt
      have H16 : Hid (∀ d ∈ ks0 gd, AskIn wo wo.heap.size d) := Lib.hid (ks0_d hgdo hgdo.lt)
      have H7 : Hid (∀ nt, nt ≤ 1000000 → ∀ d ∈ ks1 gd nt, AskIn wo wo.heap.size d) := Lib.hid (fun nt h => ks1_d h hgdo hgdo.lt)
      have HN : Hid (Calls Tryz.prog 4 #[.int .u64 9] wo fun e w' => ∃ q p, e = .returned (.pointer (some ⟨q, 0, none⟩)) ∧ Sm wo w' q p (ss0 9) (fun _ => False)) := Lib.hid (sm_new 9 (by decide) wo)
      have HR : Hid (∀ W, Below wo.heap.size wo W → Calls Tryz.prog 5 #[.int .u64 9] W fun e w' => ∃ q O, e = .returned (.pointer (some ⟨q, 0, none⟩)) ∧ Dm wo w' q O (ss0 9) zFr false ∧ Below W.heap.size W w' ∧ ∀ b, O b → W.heap.size ≤ b) := Lib.hid (fun W h => rm_new 9 wo W h)
      clear hgdo
      go_upto_region 6 with (first
        | (go_at_call 4; (with_reducible refine HN.out.mono ?_); rintro e w2 ⟨q, p, rfl, hq2⟩; have HQ2 := Lib.hid hq2; clear hq2)
        | (go_at_call 5; (with_reducible refine (HR.out _ HQ2.out.bl).mono ?_); rintro e w3 ⟨qm, O, rfl, hq3, hb3, ho3⟩; have HL4 := Lib.hid (lv_born HQ2.out hq3 hb3 ho3); clear hq3 hb3 ho3)
        | fail)
      generalize w3.alloc (.cells #[.pointer (some ⟨q, 0, none⟩), .pointer (some ⟨qm, 0, none⟩), .slice none 0 0] 31) = w4 at HL4 ⊢
      generalize w3.heap.size = pw at HL4 ⊢
      have c0 := HL4.out.p0
      clear HQ2 HN HR
      go_upto_region 8 with fail
      go_cut [4] from 23 to 41 (fun s4 wx => ∃ gr, s4 = .slice (some ⟨gr, 0, none⟩) 16 16 ∧ Hid (Lr wo wx q p qm pw 0 gr (ks0 gd)))
      case first =>
        have HROW := Lib.hid (lr_row HL4.out H16.out)
        go_wp2_with (first | ((with_reducible refine wpList_sasks (ks0 gd) 16 _ rfl (by decide) (by decide) ?_ H16.out ?_); · rfl) | fail)
        go_meet
        exact ⟨_, rfl, HROW⟩
      case rest =>
      obtain ⟨gr, rfl, HX⟩ := hcut
      clear HL4 c0 H16
      have HDA : Hid (∀ W k, k < 10000 → Lr wo W q p qm pw k gr (ks0 gd) → Calls Tryz.prog 6 #[.pointer (some ⟨pw, 0, none⟩), .agg #[.int .i64 3, .int .i64 0, .int .i64 0, .int .u64 4611686018427387904, .slice none 0 0, .int .i64 0, .int .u64 0, .int .u64 0, .int .u64 0, .slice none 0 0, .bool false, .slice none 0 0, .int .i64 0]] W fun e w' => e = .returned (.bool true) ∧ Lr wo w' q p qm pw (k + 1) gr (ks0 gd)) := Lib.hid (fun W k hk h => lr_do h hk (d := ⟨3, 0, 0, 4611686018427387904, none, 0, 0, [], zKF⟩) (snil_in (by simp) (by unfold I64; omega) (by unfold I64; omega) (by omega)))
      have HDB : Hid (∀ W k, k < 10000 → Lr wo W q p qm pw k gr (ks0 gd) → Calls Tryz.prog 6 #[.pointer (some ⟨pw, 0, none⟩), .agg #[.int .i64 3, .int .i64 0, .int .i64 0, .int .u64 7, .slice none 0 0, .int .i64 0, .int .u64 0, .int .u64 0, .int .u64 0, .slice none 0 0, .bool false, .slice none 0 0, .int .i64 0]] W fun e w' => e = .returned (.bool true) ∧ Lr wo w' q p qm pw (k + 1) gr (ks0 gd)) := Lib.hid (fun W k hk h => lr_do h hk (d := ⟨3, 0, 0, 7, none, 0, 0, [], zKF⟩) (snil_in (by simp) (by unfold I64; omega) (by unfold I64; omega) (by omega)))
      have HDC : Hid (∀ W k, k < 10000 → Lr wo W q p qm pw k gr (ks0 gd) → Calls Tryz.prog 6 #[.pointer (some ⟨pw, 0, none⟩), .agg #[.int .i64 5, .int .i64 2, .int .i64 0, .int .u64 0, .slice none 0 0, .int .i64 0, .int .u64 0, .int .u64 0, .int .u64 0, .slice none 0 0, .bool false, .slice none 0 0, .int .i64 0]] W fun e w' => e = .returned (.bool true) ∧ Lr wo w' q p qm pw (k + 1) gr (ks0 gd)) := Lib.hid (fun W k hk h => lr_do h hk (d := ⟨5, 2, 0, 0, none, 0, 0, [], zKF⟩) (snil_in (by simp) (by unfold I64; omega) (by unfold I64; omega) (by omega)))
      go_upto_region 10 with fail
      go_loopg [43] 16 (fun kx s43 wr => ∃ j k : Nat, s43 = .int .i64 j ∧ j ≤ 16 ∧ k ≤ 4 * j ∧ 16 - j ≤ kx ∧ Hid (Lr wo wr q p qm pw k gr (ks0 gd)))
      case atStart => exact ⟨0, 0, rfl, by omega, by omega, by omega, HX⟩
      case round =>
        clear HX
        obtain ⟨j, k, rfl, hj16, hk4, hkx2, HI⟩ := hrel
        by_cases hgo2 : j < 16
        · obtain ⟨wi, rfl⟩ : ∃ wi : World, wi = wr := ⟨_, rfl⟩
          obtain ⟨d, hd⟩ : ∃ d, (ks0 gd)[j]? = some d := ⟨_, List.getElem?_eq_getElem (show j < 16 from hgo2)⟩
          have hget := HI.out.get hd
          have hbx := lr_box HI.out d.l
          have HD := Lib.hid (lr_do hbx.1 (by omega) hget.2)
          have hr := hget.1
          have hA5 := hbx.2
          have HL13 : Hid (d.l.length = 13) := Lib.hid hget.2.len
          have HO13 : Hid (d.l.all (·.oneCell') = true) := Lib.hid hget.2.wf.one
          obtain ⟨LA, hLA⟩ : ∃ LA, d.l = LA := ⟨_, rfl⟩
          rw [hLA] at HD hr hA5 HL13 HO13
          have hjz : (j : Int) < 16 := by omega
          clear hLA hd hget hbx HI
          have wi2 : IntKind.i64.wrap ((i : Int) * 2) = (i : Int) * 2 := by rw [IntKind.wrap_i64]; omega
          obtain ⟨u, hu⟩ : ∃ u : Nat, (i : Int) * 2 = u := ⟨i * 2, by omega⟩
          have hub : u ≤ 20 := by omega
          obtain ⟨z, hzz⟩ : ∃ z, (i : Int).tmod 2 = z := ⟨_, rfl⟩
          have wz : IntKind.i64.wrap z = z := by
            have hzb : -2 < z ∧ z < 2 := by rw [← hzz]; have := Int.tmod_lt_of_pos (i : Int) (show (0 : Int) < 2 by decide); have := Int.lt_tmod_of_pos (i : Int) (show (0 : Int) < 2 by decide); omega
            rw [IntKind.wrap_i64]; omega
          have wu : IntKind.i64.wrap (u : Int) = (u : Int) := by rw [IntKind.wrap_i64]; omega
          cases hc : ((j : Int) == (u : Int)) with
          | false =>
            go_wp2_with (first
              | ((with_reducible refine at_lds ?_); first | refine ld_sask gr (j * 13) LA (by rfl) hr HL13.out ?_ | (refine ld_sask wi.heap.size 0 LA (by rfl) hA5.rangeAt HL13.out ?_))
              | ((with_reducible refine at_sts ?_); refine st_sask _ _ LA (by rfl) _ (by rfl) (by simp) (by rfl) (by rfl) HL13.out HO13.out ?_)
              | (go_at_call 6; (with_reducible refine HD.out.mono ?_); rintro e w6 ⟨rfl, hl6⟩; have HL6 := Lib.hid hl6; clear hl6 HD)
              | (go_at_call 6; (with_reducible refine (HDC.out _ _ (by omega) HL6.out).mono ?_); rintro e w9 ⟨rfl, hl9⟩; have HL9 := Lib.hid hl9; clear hl9)
              | fail)
            go_roundg (16 - (j + 1))
            case measure => omega
            case rel => exact ⟨j + 1, _, by simp, by omega, by omega, by omega, HL9⟩
          | true =>
            cases hz0 : (z == 1) with
            | false =>
              go_wp2_with (first
                | ((with_reducible refine at_lds ?_); first | refine ld_sask gr (j * 13) LA (by rfl) hr HL13.out ?_ | (refine ld_sask wi.heap.size 0 LA (by rfl) hA5.rangeAt HL13.out ?_))
                | ((with_reducible refine at_sts ?_); refine st_sask _ _ LA (by rfl) _ (by rfl) (by simp) (by rfl) (by rfl) HL13.out HO13.out ?_)
                | (go_at_call 6; (with_reducible refine HD.out.mono ?_); rintro e w6 ⟨rfl, hl6⟩; have HL6 := Lib.hid hl6; clear hl6 HD)
                | (go_at_call 6; (with_reducible refine (HDA.out _ _ (by omega) HL6.out).mono ?_); rintro e w7 ⟨rfl, hl7⟩; have HL7 := Lib.hid hl7; clear hl7)
                | (go_at_call 6; (with_reducible refine (HDC.out _ _ (by omega) HL7.out).mono ?_); rintro e w9 ⟨rfl, hl9⟩; have HL9 := Lib.hid hl9; clear hl9)
                | fail)
              go_roundg (16 - (j + 1))
              case measure => omega
              case rel => exact ⟨j + 1, _, by simp, by omega, by omega, by omega, HL9⟩
            | true =>
              go_wp2_with (first
                | ((with_reducible refine at_lds ?_); first | refine ld_sask gr (j * 13) LA (by rfl) hr HL13.out ?_ | (refine ld_sask wi.heap.size 0 LA (by rfl) hA5.rangeAt HL13.out ?_))
                | ((with_reducible refine at_sts ?_); refine st_sask _ _ LA (by rfl) _ (by rfl) (by simp) (by rfl) (by rfl) HL13.out HO13.out ?_)
                | (go_at_call 6; (with_reducible refine HD.out.mono ?_); rintro e w6 ⟨rfl, hl6⟩; have HL6 := Lib.hid hl6; clear hl6 HD)
                | (go_at_call 6; (with_reducible refine (HDA.out _ _ (by omega) HL6.out).mono ?_); rintro e w7 ⟨rfl, hl7⟩; have HL7 := Lib.hid hl7; clear hl7)
                | (go_at_call 6; (with_reducible refine (HDB.out _ _ (by omega) HL7.out).mono ?_); rintro e w8 ⟨rfl, hl8⟩; have HL8 := Lib.hid hl8; clear hl8)
                | (go_at_call 6; (with_reducible refine (HDC.out _ _ (by omega) HL8.out).mono ?_); rintro e w9 ⟨rfl, hl9⟩; have HL9 := Lib.hid hl9; clear hl9)
                | fail)
              go_roundg (16 - (j + 1))
              case measure => omega
              case rel => exact ⟨j + 1, _, by simp, by omega, by omega, by omega, HL9⟩
        · obtain rfl : j = 16 := by omega
          obtain ⟨wj, rfl⟩ : ∃ wj : World, wj = wr := ⟨_, rfl⟩
          obtain ⟨Y9, hY⟩ : ∃ Y9, wj.drew = Y9 := ⟨_, rfl⟩
          have hbY : Below wj.heap.size wj Y9 := by rw [← hY]; exact belowN (Below.refl _ _) 1
          have hLY := HI.out.1.more (R' := fun b => b = gr) hbY fun b hb => .inl hb
          obtain ⟨tA, nt, tc, c2, hnt⟩ := hLY.p2
          have hr7 := lr_row hLY (H7.out nt (by omega))
          obtain ⟨g3, hg3⟩ : ∃ g3, Y9.heap.size = g3 := ⟨_, rfl⟩
          obtain ⟨w11, hw11⟩ : ∃ w11, Y9.alloc (.cells (sRow (ks1 gd nt)).toArray 36) = w11 := ⟨_, rfl⟩
          rw [hw11, hg3] at hr7
          have HX7 := Lib.hid hr7
          have HC2 := Lib.hid c2
          have hk64 : k ≤ 64 := by omega
          have hnt2 : nt ≤ 64 := by omega
          have wnt : IntKind.i64.wrap ((nt : Int) - 1) = (nt : Int) - 1 := by rw [IntKind.wrap_i64]; omega
          have H7n := Lib.hid (H7.out nt (by omega))
          clear hr7 hLY hbY HI hkx2 hk4 hnt c2
          go_upto_region 15 with fail
          refine wp_region_held_drew (S := (fun w => w.cell? ⟨pw, 2, none⟩ = some (.slice tA nt tc))) (by kernel_rfl) (by rw [hY]; exact HC2.out) (fun hHeld => ?_)
          rw [hY] at hHeld ⊢
          clear hY
          refine tkq 0 (some 82) (v := ?_) rfl (Or.inl ⟨by rfl, ?_⟩) (by assumption) ?_
          rotate_left
          · intro w hSw; (try dsimp only at hSw); go_simp; first | done | (with_reducible rfl)
          simp only [Act.put, List.setIfInBounds_toArray, List.set_cons_zero, List.set_cons_succ]
          refine tkq 1 (some 83) (v := ?_) rfl (Or.inl ⟨by rfl, ?_⟩) (by assumption) ?_
          rotate_left
          · intro w hSw; (try dsimp only at hSw); go_simp; first | done | (with_reducible rfl)
          simp only [Act.put, List.setIfInBounds_toArray, List.set_cons_zero, List.set_cons_succ]
          refine tkq 2 (some 84) (v := ?_) rfl (Or.inl ⟨by rfl, ?_⟩) (by assumption) ?_
          rotate_left
          · intro w hSw; (try dsimp only at hSw); go_simp; first | done | (with_reducible rfl)
          simp only [Act.put, List.setIfInBounds_toArray, List.set_cons_zero, List.set_cons_succ]
          refine tkq 3 (some 85) (v := ?_) rfl (Or.inl ⟨by rfl, ?_⟩) (by assumption) ?_
          rotate_left
          · intro w hSw; (try dsimp only at hSw); go_simp; first | done | (with_reducible rfl)
          simp only [Act.put, List.setIfInBounds_toArray, List.set_cons_zero, List.set_cons_succ]
          refine tkq 4 (some 86) (v := ?_) rfl (Or.inl ⟨by rfl, ?_⟩) (by assumption) ?_
          rotate_left
          · intro w hSw; (try dsimp only at hSw); go_simp; first | done | (with_reducible rfl)
          simp only [Act.put, List.setIfInBounds_toArray, List.set_cons_zero, List.set_cons_succ]
          refine tkq 5 (some 87) (v := ?_) rfl (Or.inl ⟨by rfl, ?_⟩) (by assumption) ?_
          rotate_left
          · intro w hSw; (try dsimp only at hSw); go_simp; first | done | (with_reducible rfl)
          simp only [Act.put, List.setIfInBounds_toArray, List.set_cons_zero, List.set_cons_succ]
          refine tkq 6 (some 88) (v := ?_) rfl (Or.inl ⟨by rfl, ?_⟩) (by assumption) ?_
          rotate_left
          · intro w hSw; (try dsimp only at hSw); go_simp; first | done | (with_reducible rfl)
          simp only [Act.put, List.setIfInBounds_toArray, List.set_cons_zero, List.set_cons_succ]
          refine tkq 7 (some 89) (v := ?_) rfl (Or.inl ⟨by rfl, ?_⟩) (by assumption) ?_
          rotate_left
          · intro w hSw; (try dsimp only at hSw); go_simp; first | done | (with_reducible rfl)
          simp only [Act.put, List.setIfInBounds_toArray, List.set_cons_zero, List.set_cons_succ]
          refine tkq 8 (some 90) (v := ?_) rfl (Or.inl ⟨by rfl, ?_⟩) (by assumption) ?_
          rotate_left
          · intro w hSw; (try dsimp only at hSw); go_simp; first | done | (with_reducible rfl)
          simp only [Act.put, List.setIfInBounds_toArray, List.set_cons_zero, List.set_cons_succ]
          refine tkq 9 (some 91) (v := ?_) rfl (Or.inl ⟨by rfl, ?_⟩) (by assumption) ?_
          rotate_left
          · intro w hSw; (try dsimp only at hSw); go_simp; first | done | (with_reducible rfl)
          simp only [Act.put, List.setIfInBounds_toArray, List.set_cons_zero, List.set_cons_succ]
          refine tkq 10 (some 92) (v := ?_) rfl (Or.inl ⟨by rfl, ?_⟩) (by assumption) ?_
          rotate_left
          · intro w hSw; (try dsimp only at hSw); go_simp; first | done | (with_reducible rfl)
          simp only [Act.put, List.setIfInBounds_toArray, List.set_cons_zero, List.set_cons_succ]
          refine tkq 11 (some 93) (v := ?_) rfl (Or.inl ⟨by rfl, ?_⟩) (by assumption) ?_
          rotate_left
          · intro w hSw; (try dsimp only at hSw); go_simp; first | done | (with_reducible rfl)
          simp only [Act.put, List.setIfInBounds_toArray, List.set_cons_zero, List.set_cons_succ]
          refine tkq 12 (some 94) (v := ?_) rfl (Or.inl ⟨by rfl, ?_⟩) (by assumption) ?_
          rotate_left
          · intro w hSw; (try dsimp only at hSw); go_simp; first | done | (with_reducible rfl)
          simp only [Act.put, List.setIfInBounds_toArray, List.set_cons_zero, List.set_cons_succ]
          refine tkq 13 (some 95) (v := ?_) rfl (Or.inl ⟨by rfl, ?_⟩) (by assumption) ?_
          rotate_left
          · intro w hSw; (try dsimp only at hSw); go_simp; first | done | (with_reducible rfl)
          simp only [Act.put, List.setIfInBounds_toArray, List.set_cons_zero, List.set_cons_succ]
          refine tkq 14 (some 96) (v := ?_) rfl (Or.inl ⟨by rfl, ?_⟩) (by assumption) ?_
          rotate_left
          · intro w hSw; (try dsimp only at hSw); go_simp; first | done | (with_reducible rfl)
          simp only [Act.put, List.setIfInBounds_toArray, List.set_cons_zero, List.set_cons_succ]
          refine tkq 15 (some 97) (v := ?_) rfl (Or.inl ⟨by rfl, ?_⟩) (by assumption) ?_
          rotate_left
          · intro w hSw; (try dsimp only at hSw); go_simp; first | done | (with_reducible rfl)
          simp only [Act.put, List.setIfInBounds_toArray, List.set_cons_zero, List.set_cons_succ]
          refine tkq 16 (some 98) (v := ?_) rfl (Or.inl ⟨by rfl, ?_⟩) (by assumption) ?_
          rotate_left
          · intro w hSw; (try dsimp only at hSw); go_simp; first | done | (with_reducible rfl)
          simp only [Act.put, List.setIfInBounds_toArray, List.set_cons_zero, List.set_cons_succ]
          refine tkq 17 (some 99) (v := ?_) rfl (Or.inl ⟨by rfl, ?_⟩) (by assumption) ?_
          rotate_left
          · intro w hSw; (try dsimp only at hSw); go_simp; first | done | (with_reducible rfl)
          simp only [Act.put, List.setIfInBounds_toArray, List.set_cons_zero, List.set_cons_succ]
          refine tkq 18 (some 100) (v := ?_) rfl (Or.inl ⟨by rfl, ?_⟩) (by assumption) ?_
          rotate_left
          · intro w hSw; (try dsimp only at hSw); go_simp; first | done | (with_reducible rfl)
          simp only [Act.put, List.setIfInBounds_toArray, List.set_cons_zero, List.set_cons_succ]
          refine tkq 21 (some 103) (v := ?_) rfl (Or.inl ⟨by rfl, ?_⟩) (by assumption) ?_
          rotate_left
          · intro w hSw; (try dsimp only at hSw); go_simp; first | done | (with_reducible rfl)
          simp only [Act.put, List.setIfInBounds_toArray, List.set_cons_zero, List.set_cons_succ]
          refine wpAnyH_ready (rs := [19]) (by kernel_rfl) (by simp) ?_
          refine AllReadyH.cons rfl (fun K hK => ?_) AllReadyH.nil
          refine step_sasks (ks1 gd nt) 7 _ rfl (by decide) (by decide) ?_ H7n.out ?_
          · rfl
          rw [hg3, hw11]
          have c2w : w11.cell? ⟨pw, 2, none⟩ = some (.slice tA nt tc) := by rw [← hw11]; exact (((Below.refl Y9.heap.size Y9).alloc (Nat.le_refl _) _).cell (p := ⟨pw, 2, none⟩) (cell_lt HC2.out)).trans HC2.out
          refine hK.out _ _ (c2w) (fun hHeld => ?_)
          clear hK K
          refine tkq 20 (some 102) (v := ?_) rfl (Or.inl ⟨by rfl, ?_⟩) (by assumption) ?_
          rotate_left
          · intro w hSw; (try dsimp only at hSw); go_simp; first | done | (with_reducible rfl)
          simp only [Act.put, List.setIfInBounds_toArray, List.set_cons_zero, List.set_cons_succ]
          refine wpAnyH_done (by kernel_rfl) ?_ _
          clear hg3 hw11
          go_upto_region 16 with fail
          go_loopg [103] 7 (fun kx s wr => ∃ jj k2 : Nat, s = .int .i64 jj ∧ jj ≤ 7 ∧ k2 ≤ 64 + jj ∧ 7 - jj ≤ kx ∧ Hid (Lr wo wr q p qm pw k2 g3 (ks1 gd nt)))
          case atStart => exact ⟨0, _, rfl, by omega, by omega, by omega, HX7⟩
          case round =>
            clear HX7
            obtain ⟨jj, k2, rfl, hjj, hk2, hkx3, HI2⟩ := hrel
            by_cases hgo3 : jj < 7
            · obtain ⟨wi2, rfl⟩ : ∃ wi : World, wi = wr := ⟨_, rfl⟩
              obtain ⟨d, hd⟩ : ∃ d, (ks1 gd nt)[jj]? = some d := ⟨_, List.getElem?_eq_getElem (show jj < 7 from hgo3)⟩
              have hget := HI2.out.get hd
              have hbx := lr_box HI2.out d.l
              have HD := Lib.hid (lr_do hbx.1 (by omega) hget.2)
              have hr := hget.1
              have hA5 := hbx.2
              have HL13 : Hid (d.l.length = 13) := Lib.hid hget.2.len
              have HO13 : Hid (d.l.all (·.oneCell') = true) := Lib.hid hget.2.wf.one
              obtain ⟨LA, hLA⟩ : ∃ LA, d.l = LA := ⟨_, rfl⟩
              rw [hLA] at HD hr hA5 HL13 HO13
              have hjz2 : (jj : Int) < 7 := by omega
              clear hLA hd hget hbx HI2
              go_wp2_with (first
                | ((with_reducible refine at_lds ?_); first | refine ld_sask g3 (jj * 13) LA (by rfl) hr HL13.out ?_ | (refine ld_sask wi2.heap.size 0 LA (by rfl) hA5.rangeAt HL13.out ?_))
                | ((with_reducible refine at_sts ?_); refine st_sask _ _ LA (by rfl) _ (by rfl) (by simp) (by rfl) (by rfl) HL13.out HO13.out ?_)
                | (go_at_call 6; (with_reducible refine HD.out.mono ?_); rintro e w6 ⟨rfl, hl6⟩; have HL6 := Lib.hid hl6; clear hl6 HD)
                | fail)
              go_roundg (7 - (jj + 1))
              case measure => omega
              case rel => exact ⟨jj + 1, k2 + 1, by simp, by omega, by omega, by omega, HL6⟩
            · obtain rfl : jj = 7 := by omega
              have HB9 : Hid (Below w1.heap.size w1 wr) := Lib.hid (hB.out.trans (HI2.out.1.bl.mono hB.out.size))
              clear HI2
              go_wp2_with fail
              go_roundg (10 - (i + 1))
              case measure => omega
              case rel => exact ⟨i + 1, by simp, by omega, by omega, HB9⟩
    · obtain rfl : i = 10 := by omega
      go_wp2_with (first
        | (go_at_call 7; (with_reducible refine (HK.out _).mono ?_); rintro e w7 ⟨rfl, hb7⟩; have HB7 := Lib.hid (hB.out.trans (hb7.mono hB.out.size)); clear hb7)
        | fail)
      go_ret
      exact ⟨by first | rfl | simp, HB1.out.trans (HB7.out.mono HB1.out.size)⟩
end Go.Proofs.YtbejpafephofaaaGreat
