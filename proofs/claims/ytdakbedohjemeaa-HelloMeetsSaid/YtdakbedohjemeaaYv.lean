/-
  HelloMeets: two sides of one secret that are fed one another's bytes are Done, with the same secrets and each other's params.
-/
import Derived.Test.YtdakbedohjemeaaYu
import Derived.Deep.Cut
import Derived.Deep.CutRange
namespace Go.Proofs.Ytdakbedohjemeaa
set_option linter.unusedVariables false
set_option linter.unusedSimpArgs false
open Go.RowKit Go.ChangeShapes Go.WideShapes Go.Deep
section
variable {ops : Array Oper} {rest : List Oper} {a : Act} {w : World} {Q : Exit → Act → World → Prop} {dst : Option Tmp} {x y : Operand} {t : TypeId} {pos : String} {after : Array Edge}
theorem at_stp2 {g : Option (Nat × Bool)} (x : Operand) (h : wpList Try.prog ops Q (⟨dst, .store 26 x y, t, pos, after, g⟩ :: rest) a w) : wpList Try.prog ops Q (⟨dst, .store 26 x y, t, pos, after, g⟩ :: rest) a w := h
end
/-- How much is left, within a round of the outer loop that had r0 left: behind so many spaces. -/
def Pr (N1 N2 nn r0 k a0 a1 c0 c1 : Nat) : Prop :=
  remM N1 N2 a0 a1 c0 c1 ≤ r0 ∧ (k = 0 → remM N1 N2 a0 a1 c0 c1 = r0) ∧ (nn = 9 → 0 < r0 → (k = 1 → remM N1 N2 a0 a1 c0 c1 < r0 ∨ (a0 = N1 ∧ c0 = N2)) ∧ (k = 2 → remM N1 N2 a0 a1 c0 c1 < r0))
section
variable {N1 N2 a0 a1 c0 c1 nn r0 : Nat}
theorem Pr.zero (h : remM N1 N2 a0 a1 c0 c1 = r0) : Pr N1 N2 nn r0 0 a0 a1 c0 c1 := ⟨by omega, fun _ => h, fun _ _ => ⟨fun h => by omega, fun h => by omega⟩⟩
theorem Pr.one (j : Jm N1 N2 a0 a1 c0 c1) (h : remM N1 N2 a0 a1 c0 c1 = r0) (k1 k2 : Nat) (e1 : k1 = min nn (N1 - a0)) (e2 : k2 = min nn ((if a0 + k1 = N1 then N2 else 0) - c0)) : Pr N1 N2 nn r0 1 (a0 + k1) a1 (c0 + k2) c1 := by
  obtain ⟨h1, h2, h3, h4, h5, h6, h7, h8, h9⟩ := j
  unfold remM at h
  unfold Pr remM
  split at e2 <;> omega
theorem Pr.two (j : Jm N1 N2 a0 a1 c0 c1) (h : Pr N1 N2 nn r0 1 a0 a1 c0 c1) (k1 k2 : Nat) (e1 : k1 = if a0 = N1 then min nn ((if c1 = 11 then 11 else 0) - a1) else 0) (e2 : k2 = if c0 = N2 then min nn ((if a0 = N1 then 11 else 0) - c1) else 0) : Pr N1 N2 nn r0 2 a0 (a1 + k1) c0 (c1 + k2) := by
  obtain ⟨h1, h2, h3, h4, h5, h6, h7, h8, h9⟩ := j
  obtain ⟨p1, _, p2⟩ := h
  unfold remM at p1 p2
  unfold Pr remM
  refine ⟨by omega, fun h => by omega, fun hn hr => ⟨fun h => by omega, fun _ => ?_⟩⟩
  have p3 := (p2 hn hr).1 rfl
  rcases p3 with p3 | ⟨p3, p4⟩
  · omega
  · rw [if_pos p3] at e1 e2
    rw [if_pos p4] at e2
    by_cases hc : c1 = 11
    · rw [if_pos hc] at e1
      omega
    · omega
end
set_option maxRecDepth 100000 in
set_option maxHeartbeats 16000000 in
theorem hmeets_law (psk r a b c d : Int) (A6 : Option Addr) (n6 c6 : Nat) (xs6 : List Int) (w : World) (hp : (Lit.int .u64 psk).wf = true) (hr : (Lit.int .u64 r).wf = true) (ha : (Lit.int .u64 a).wf = true) (hb : (Lit.int .u64 b).wf = true) (hc : (Lit.int .u64 c).wf = true) (hd : (Lit.int .u64 d).wf = true) (hx6 : InN w A6 n6 xs6) (hn6 : n6 ≤ c6) (hc6 : c6 ≤ maxLen) (hc8 : c6 * 8 ≤ 140737488351232) :
    Calls Try.prog 4 #[.int .u64 psk, .int .u64 r, .int .u64 a, .int .u64 b, .int .u64 c, .int .u64 d, .slice A6 n6 c6] w fun e w'' => e = .returned (.bool true) ∧ Below w.heap.size w w'' := by
  obtain ⟨i0, hi, hz0, hz1, hz2⟩ := info_parts u8_info
  have bp := bounds_u64 hp
  have br := bounds_u64 hr
  have ba := bounds_u64 ha
  have bb := bounds_u64 hb
  have bc := bounds_u64 hc
  have bd := bounds_u64 hd
  have HP1 := Lib.hid (fun W => kparams_any a b c d 1 W (by omega) (by omega) (by omega) (by omega) (by omega) (by omega))
  have HP2 := Lib.hid (fun W => kparams_any d a c b 2 W (by omega) (by omega) (by omega) (by omega) (by omega) (by omega))
  have rw1 := kpS_right a b c d 1
  have rw2 := kpS_right d a c b 2
  have wf1 := kpS_wf a b c d 1
  have wf2 := kpS_wf d a c b 2
  generalize kpS a b c d 1 = P1 at *
  generalize kpS d a c b 2 = P2 at *
  obtain ⟨r1, hr1⟩ : ∃ x, IntKind.u64.wrap (r + 1) = x := ⟨_, rfl⟩
  have br1 : 0 ≤ r1 ∧ r1 < 18446744073709551616 := by rw [← hr1]; exact u64_wrap_bd _
  have HRN := Lib.hid (fun W => random_any r W (by omega) (by omega))
  have HRM := Lib.hid (fun W => random_any r1 W br1.1 br1.2)
  have HAS := Lib.hid (fun W => h_ask psk (rndS r) P1 W (rndS_byt r) wf1 rw1 (by omega) (by omega))
  have HAN := Lib.hid (fun W => h_answer psk (rndS r1) P2 W (rndS_byt r1) wf2 rw2 (by omega) (by omega))
  have okx := hs0_ok true psk (rndS r) P1 (by omega) (by omega)
  have oky := hs0_ok false psk (rndS r1) P2 (by omega) (by omega)
  have HMT := meet_of psk (rndS r) (rndS r1) P1 P2 wf1 rw1 wf2 rw2
  have HMX : wayX (hs0 true psk (rndS r) P1) ((rndS r1).l ++ pencS P2) (proofS (shS psk (rndS r) (rndS r1) P1 P2) false).l 0 0 = hs0 true psk (rndS r) P1 := rfl
  have HMY : wayX (hs0 false psk (rndS r1) P2) ((rndS r).l ++ pencS P1) (proofS (shS psk (rndS r) (rndS r1) P1 P2) true).l 0 0 = hs0 false psk (rndS r1) P2 := rfl
  obtain ⟨XW, hXW⟩ : ∃ f : Nat → Nat → HS, f = fun c0 c1 => wayX (hs0 true psk (rndS r) P1) ((rndS r1).l ++ pencS P2) (proofS (shS psk (rndS r) (rndS r1) P1 P2) false).l c0 c1 := ⟨_, rfl⟩
  obtain ⟨YW, hYW⟩ : ∃ f : Nat → Nat → HS, f = fun a0 a1 => wayX (hs0 false psk (rndS r1) P2) ((rndS r).l ++ pencS P1) (proofS (shS psk (rndS r) (rndS r1) P1 P2) true).l a0 a1 := ⟨_, rfl⟩
  rw [← hXW, ← hYW] at HMT
  have hX0 : XW 0 0 = hs0 true psk (rndS r) P1 := by rw [hXW]; exact HMX
  have hY0 : YW 0 0 = hs0 false psk (rndS r1) P2 := by rw [hYW]; exact HMY
  clear HMX HMY hXW hYW
  rw [← hX0] at HAS okx
  rw [← hY0] at HAN oky
  clear hX0 hY0
  generalize helS (rndS r) P1 = M1 at *
  generalize helS (rndS r1) P2 = M2 at *
  generalize shS psk (rndS r) (rndS r1) P1 P2 = SH at *
  generalize msgS 20 (proofS SH true).l = F1 at *
  generalize msgS 20 (proofS SH false).l = F2 at *
  generalize keyedS SH dataB = SD at *
  generalize rndS r = R0 at *
  generalize rndS r1 = R1 at *
  obtain ⟨N1, hN1⟩ : ∃ n, M1.length = n := ⟨_, rfl⟩
  obtain ⟨N2, hN2⟩ : ∃ n, M2.length = n := ⟨_, rfl⟩
  rw [hN1, hN2] at HMT
  have hz61a := HMT.z1
  have hz61b := HMT.z2
  have HM := Lib.hid HMT
  clear HMT hN1 hN2
  obtain ⟨L1, hL1⟩ : ∃ L, pmL P1 = L := ⟨_, rfl⟩
  obtain ⟨L2, hL2⟩ : ∃ L, pmL P2 = L := ⟨_, rfl⟩
  have hv1 : pmV P1 = .agg L1.toArray := by rw [← hL1]; rfl
  have hv2 : pmV P2 = .agg L2.toArray := by rw [← hL2]; rfl
  have l1 : L1.length = 12 := by rw [← hL1]; rfl
  have l2 : L2.length = 12 := by rw [← hL2]; rfl
  have o1 : L1.all (·.oneCell') = true := by rw [← hL1]; rfl
  have o2 : L2.all (·.oneCell') = true := by rw [← hL2]; rfl
  have HR6 := Lib.hid (fun W => rpright_any P2 W)
  rw [rw2] at HR6
  have HPM1 := Lib.hid (fun W => run_pm W P1)
  have HPM2 := Lib.hid (fun W => run_pm W P2)
  rw [hv1] at HP1 HAS HPM1
  rw [hv2] at HP2 HAN HR6 HPM2
  have HV1 := Lib.hid hv1
  have HV2 := Lib.hid hv2
  have Ll1 := Lib.hid l1
  have Ll2 := Lib.hid l2
  have Lo1 := Lib.hid o1
  have Lo2 := Lib.hid o2
  have HX6 := Lib.hid hx6
  clear hp hr ha hb hc hd ba bb bc bd rw1 rw2 wf1 wf2 hL1 hL2 hv1 hv2 l1 l2 o1 o2 hx6
  have HRW := Lib.hid hr1
  clear hr1
  have hc6' := hc6
  unfold maxLen at hc6'
  go_enter Try.func4, Try.ntmps4
  go_wp2_with fail
  refine (HP1.out _).mono ?_
  rintro e w1 ⟨rfl, hb1⟩
  go_wp2_with fail
  refine (HP2.out _).mono ?_
  rintro e w2 ⟨rfl, hb2⟩
  have hB2 := hb1.trans (hb2.mono hb1.size)
  have hA15 : At ((w2.alloc (.cells #[.int .u64 0, .int .u64 0, .int .u64 0, .int .u64 0, .int .u8 0, .int .u8 0, .int .u8 0, .int .u8 0, .int .u8 0, .int .u8 0, .int .u8 0, .int .u8 0] 26)).alloc (.cells #[.int .u64 0, .int .u64 0, .int .u64 0, .int .u64 0, .int .u8 0, .int .u8 0, .int .u8 0, .int .u8 0, .int .u8 0, .int .u8 0, .int .u8 0, .int .u8 0] 26)) w2.heap.size 26 (pmL .zero) := (At.new w2 26 (pmL .zero)).alloc _
  have hA16 : At ((w2.alloc (.cells #[.int .u64 0, .int .u64 0, .int .u64 0, .int .u64 0, .int .u8 0, .int .u8 0, .int .u8 0, .int .u8 0, .int .u8 0, .int .u8 0, .int .u8 0, .int .u8 0] 26)).alloc (.cells #[.int .u64 0, .int .u64 0, .int .u64 0, .int .u64 0, .int .u8 0, .int .u8 0, .int .u8 0, .int .u8 0, .int .u8 0, .int .u8 0, .int .u8 0, .int .u8 0] 26)) (w2.heap.size + 1) 26 (pmL .zero) := At.new_ 26 (pmL .zero) _ (by simp)
  have hB3 : Below w.heap.size w ((w2.alloc (.cells #[.int .u64 0, .int .u64 0, .int .u64 0, .int .u64 0, .int .u8 0, .int .u8 0, .int .u8 0, .int .u8 0, .int .u8 0, .int .u8 0, .int .u8 0, .int .u8 0] 26)).alloc (.cells #[.int .u64 0, .int .u64 0, .int .u64 0, .int .u64 0, .int .u8 0, .int .u8 0, .int .u8 0, .int .u8 0, .int .u8 0, .int .u8 0, .int .u8 0, .int .u8 0] 26)) := (hB2.alloc hB2.size _).alloc (by have := hB2.size; simp; omega) _
  have hs2 := hB2.size
  clear hb1 hb2 hB2
  go_wp2_with (first | ((with_reducible refine at_stp2 (.tmp 15) ?_); refine st_pm _ (pmL .zero) L1 (by rfl) (by rfl) hA15 rfl Ll1.out Lo1.out ?_; intro w4 hA15' hk4; have hA16' := hA16.kept hk4 (by omega); have hB4 := hk4.below hB3 hB3.size (by intro j hj; omega)) | ((with_reducible refine at_stp2 (.tmp 16) ?_); refine st_pm _ (pmL .zero) L2 (by rfl) (by rfl) hA16' rfl Ll2.out Lo2.out ?_; intro w5 hA16'' hk5; have hA15'' := hA15'.kept hk5 (by omega); have hB5 := hk5.below hB4 hB4.size (by intro j hj; omega)) | fail)
  obtain ⟨g15, hg15⟩ : ∃ g, w2.heap.size = g := ⟨_, rfl⟩
  rw [hg15] at hA15'' hA16'' hs2 ⊢
  have hgw : w.heap.size ≤ g15 := hs2
  clear hA15 hA16 hB3 hA15' hA16' hk4 hk5 hB4 hs2
  have hA15 := hA15''.drewN 1
  have hA16 := hA16''.drewN 1
  have hB6 := belowN hB5 1
  rw [show w5.drewN 1 = w5.drew from rfl] at hA15 hA16 hB6
  clear hA15'' hA16'' hB5
  obtain ⟨W0, hW0⟩ : ∃ W, w5.drew = W := ⟨_, rfl⟩
  refine wp_region_held_drew (S := fun W => W.rangeAt g15 0 L1 ∧ W.rangeAt (g15 + 1) 0 L2) (by kernel_rfl) (⟨hA15.rangeAt, hA16.rangeAt⟩) (fun hHeld => ?_)
  rw [hW0] at hA15 hA16 hB6 ⊢
  have hB0s := hB6.size
  have hA16lt := hA16.lt
  have hHeld : W0.rangeAt g15 0 L1 ∧ W0.rangeAt (g15 + 1) 0 L2 := ⟨hA15.rangeAt, hA16.rangeAt⟩
  clear hW0
  refine tkq 0 (some 49) (v := ?_) rfl (Or.inl ⟨by rfl, ?_⟩) (by assumption) ?_
  rotate_left
  · intro w hSw; (try dsimp only at hSw); go_simp; first | done | (with_reducible rfl)
  simp only [Act.put, List.setIfInBounds_toArray, List.set_cons_zero, List.set_cons_succ]
  refine tkq 1 (some 50) (v := ?_) rfl (Or.inl ⟨by rfl, ?_⟩) (by assumption) ?_
  rotate_left
  · intro w hSw; (try dsimp only at hSw); go_simp; first | done | (with_reducible rfl)
  simp only [Act.put, List.setIfInBounds_toArray, List.set_cons_zero, List.set_cons_succ]
  refine tkq 3 (some 52) (v := .agg L1.toArray) rfl (yl_any 26 (.tmp 15) rfl (g15) 0 (by rfl) L1 _ (fun W hW => hW.1) Try.underlying26 rfl (by rw [Ll1.out]; exact pm_info) (by rfl)) (by assumption) ?_
  simp only [Act.put, List.setIfInBounds_toArray, List.set_cons_zero, List.set_cons_succ]
  refine tkq 5 (some 54) (v := ?_) rfl (Or.inl ⟨by rfl, ?_⟩) (by assumption) ?_
  rotate_left
  · intro w hSw; (try dsimp only at hSw); go_simp; first | done | (with_reducible rfl)
  simp only [Act.put, List.setIfInBounds_toArray, List.set_cons_zero, List.set_cons_succ]
  refine tkq 6 (some 55) (v := ?_) rfl (Or.inl ⟨by rfl, ?_⟩) (by assumption) ?_
  rotate_left
  · intro w hSw; (try dsimp only at hSw); go_simp; first | done | (with_reducible rfl)
  simp only [Act.put, List.setIfInBounds_toArray, List.set_cons_zero, List.set_cons_succ]
  refine tkq 7 (some 56) (v := .int .u64 r1) rfl (Or.inl ⟨by rfl, ?_⟩) (by assumption) ?_
  · intro w hSw; (try dsimp only at hSw); (try go_simp); rw [← HRW.out]; first | done | rfl
  simp only [Act.put, List.setIfInBounds_toArray, List.set_cons_zero, List.set_cons_succ]
  refine tkq 9 (some 58) (v := .agg L2.toArray) rfl (yl_any 26 (.tmp 16) rfl (g15 + 1) 0 (by rfl) L2 _ (fun W hW => hW.2) Try.underlying26 rfl (by rw [Ll2.out]; exact pm_info) (by rfl)) (by assumption) ?_
  simp only [Act.put, List.setIfInBounds_toArray, List.set_cons_zero, List.set_cons_succ]
  refine wpAnyH_ready (rs := [2]) (by kernel_rfl) (by simp) ?_
  refine AllReadyH.cons rfl (fun K hK => ?_) AllReadyH.nil
  go_simp
  go_wp2_with (go_at_call 15; refine (HRN.out W0).mono ?_; rintro e W1 ⟨rfl, hb1⟩)
  have hA15 := hA15.below hb1 hA15.lt
  have hA16 := hA16.below hb1 hA16.lt
  have hB6 := hB6.trans (hb1.mono hB6.size)
  refine hK.out _ _ (⟨hA15.rangeAt, hA16.rangeAt⟩) (fun hHeld => ?_)
  clear hK K
  refine wpAnyH_ready (rs := [4]) (by kernel_rfl) (by simp) ?_
  refine AllReadyH.cons rfl (fun K hK => ?_) AllReadyH.nil
  go_simp
  go_wp2_with (go_at_call 14; refine (HAS.out W1).mono ?_; rintro e W2 ⟨px, rfl, ⟨Ox, hmx⟩, hb2⟩)
  have hA15 := hA15.below hb2 hA15.lt
  have hA16 := hA16.below hb2 hA16.lt
  have hB6 := hB6.trans (hb2.mono hB6.size)
  refine hK.out _ _ (⟨hA15.rangeAt, hA16.rangeAt⟩) (fun hHeld => ?_)
  clear hK K
  refine wpAnyH_ready (rs := [8]) (by kernel_rfl) (by simp) ?_
  refine AllReadyH.cons rfl (fun K hK => ?_) AllReadyH.nil
  go_simp
  go_wp2_with (go_at_call 15; refine (HRM.out W2).mono ?_; rintro e W3 ⟨rfl, hb3⟩)
  have hA15 := hA15.below hb3 hA15.lt
  have hA16 := hA16.below hb3 hA16.lt
  have hB6 := hB6.trans (hb3.mono hB6.size)
  have hmx := hmx.below hb3
  refine hK.out _ _ (⟨hA15.rangeAt, hA16.rangeAt⟩) (fun hHeld => ?_)
  clear hK K
  refine wpAnyH_ready (rs := [10]) (by kernel_rfl) (by simp) ?_
  refine AllReadyH.cons rfl (fun K hK => ?_) AllReadyH.nil
  go_simp
  go_wp2_with (go_at_call 16; refine (HAN.out W3).mono ?_; rintro e W4 ⟨py, rfl, ⟨Oy, hmy⟩, hb4⟩)
  have hA15 := hA15.below hb4 hA15.lt
  have hA16 := hA16.below hb4 hA16.lt
  have hB6 := hB6.trans (hb4.mono hB6.size)
  refine hK.out _ _ (⟨hA15.rangeAt, hA16.rangeAt⟩) (fun hHeld => ?_)
  clear hK K
  refine tkq 11 (some 17) (v := ?_) rfl (Or.inl ⟨by rfl, ?_⟩) (by assumption) ?_
  rotate_left
  · intro w hSw; (try dsimp only at hSw); go_simp; first | done | (with_reducible rfl)
  simp only [Act.put, List.setIfInBounds_toArray, List.set_cons_zero, List.set_cons_succ]
  refine tkq 12 (some 18) (v := ?_) rfl (Or.inl ⟨by rfl, ?_⟩) (by assumption) ?_
  rotate_left
  · intro w hSw; (try dsimp only at hSw); go_simp; first | done | (with_reducible rfl)
  simp only [Act.put, List.setIfInBounds_toArray, List.set_cons_zero, List.set_cons_succ]
  refine wpAnyH_done (by kernel_rfl) ?_ _
  have HT : Tw w W4 px py (XW 0 0) (YW 0 0) (fun b => b < W1.heap.size) := tw_of okx oky (M := W1.heap.size) hmx (by have := hb1.size; have := hB0s; omega) hb4 hmy hB6 (fun b hb => hb)
  have hs14 : W1.heap.size ≤ W4.heap.size := by have := hb2.size; have := hb3.size; have := hb4.size; omega
  have hg15l : g15 + 1 < W1.heap.size := by have := hb1.size; have := hA16lt; omega
  clear hmx hmy hb1 hb2 hb3 hb4 HRN HRM HAS HAN HP1 HP2 HRW
  have ba : Below W4.heap.size W4 ((W4.alloc (.cells #[.int .i64 0, .int .i64 0] 51)).alloc (.cells #[.int .i64 0, .int .i64 0] 51)) := ((Below.refl _ _).alloc (Nat.le_refl _) _).alloc (by simp) _
  have hq19 : At ((W4.alloc (.cells #[.int .i64 0, .int .i64 0] 51)).alloc (.cells #[.int .i64 0, .int .i64 0] 51)) W4.heap.size 51 [.int .i64 0, .int .i64 0] := (At.new W4 _ [.int .i64 0, .int .i64 0]).alloc _
  have hq20 : At ((W4.alloc (.cells #[.int .i64 0, .int .i64 0] 51)).alloc (.cells #[.int .i64 0, .int .i64 0] 51)) (W4.heap.size + 1) 51 [.int .i64 0, .int .i64 0] := At.new_ _ [.int .i64 0, .int .i64 0] _ (by simp)
  have hs4 := HT.bl.size
  have HMt : Mt w ((W4.alloc (.cells #[.int .i64 0, .int .i64 0] 51)).alloc (.cells #[.int .i64 0, .int .i64 0] 51)) px py W4.heap.size (W4.heap.size + 1) g15 L1 L2 (XW 0 0) (YW 0 0) 0 0 0 0 :=
    ⟨HT.fresh ba (fun b hb => by
      rcases hb with e | e | e | e
      · exact .inr ⟨by omega, by rw [e]; exact hq19.lt⟩
      · exact .inr ⟨by omega, by rw [e]; exact hq20.lt⟩
      · exact .inl (by omega)
      · exact .inl (by omega)), hq19, hq20, hA15.below ba hA15.lt, hA16.below ba hA16.lt, by omega, by omega, by omega, by omega, by omega, by omega, by omega⟩
  have HJ0 : Jm N1 N2 0 0 0 0 := ⟨by omega, by omega, by omega, by omega, by omega, by omega, by omega, by omega, by omega⟩
  have HSTART := Lib.hid (show ∃ a0 a1 c0 c1, Jm N1 N2 a0 a1 c0 c1 ∧ Mt w ((W4.alloc (.cells #[.int .i64 0, .int .i64 0] 51)).alloc (.cells #[.int .i64 0, .int .i64 0] 51)) px py W4.heap.size (W4.heap.size + 1) g15 L1 L2 (XW c0 c1) (YW a0 a1) a0 a1 c0 c1 ∧ remM N1 N2 a0 a1 c0 c1 ≤ 144 - (0 - 100) from ⟨0, 0, 0, 0, HJ0, HMt, by unfold remM; omega⟩)
  obtain ⟨W5, hW5⟩ : ∃ W, (W4.alloc (.cells #[.int .i64 0, .int .i64 0] 51)).alloc (.cells #[.int .i64 0, .int .i64 0] 51) = W := ⟨_, rfl⟩
  obtain ⟨g19, hg19⟩ : ∃ g, W4.heap.size = g := ⟨_, rfl⟩
  rw [hW5, hg19] at HSTART
  clear HT hs14 hg15l ba hq19 hq20 hs4 HMt HJ0 hA15 hA16 hB6
  go_wp2_with fail
  go_loopw [21] (fun i wx => ∃ k : Nat, k ≤ 300 ∧ i = .int .i64 k ∧ Hid (∃ a0 a1 c0 c1, Jm N1 N2 a0 a1 c0 c1 ∧ Mt w wx px py g19 (g19 + 1) g15 L1 L2 (XW c0 c1) (YW a0 a1) a0 a1 c0 c1 ∧ remM N1 N2 a0 a1 c0 c1 ≤ 144 - (k - 100))) (fun i _ => 300 - (intOf i).toNat)
  case atStart => exact ⟨0, by omega, rfl, HSTART⟩
  case round =>
    clear HSTART hW5 hg19
    obtain ⟨k, hk, rfl, hst⟩ := hrel
    by_cases hlt : k < 300
    · have hki : (k : Int) < 300 := by omega
      have hk0 : (0 : Int) ≤ (k : Int) := by omega
      obtain ⟨wo, rfl⟩ : ∃ wo : World, wo = wr := ⟨_, rfl⟩
      go_upto_region 10 with fail
      go_cut [77] from 66 to 180 (fun s77 wx => s77 = .bool (decide (k < n6 ∧ k < 100)) ∧ wx = wo)
      case first =>
        by_cases h1 : k < n6
        · have h1I : (k : Int) < (n6 : Int) := by omega
          by_cases h2 : k < 100
          · have h2I : (k : Int) < 100 := by omega
            go_wp2
            go_meet
            exact ⟨by rw [decide_eq_true ⟨h1, h2⟩], rfl⟩
          · have h2I : ¬ (k : Int) < 100 := by omega
            go_wp2
            go_meet
            exact ⟨by rw [decide_eq_false fun h => h2 h.2], rfl⟩
        · have h1I : ¬ (k : Int) < (n6 : Int) := by omega
          go_wp2
          go_meet
          exact ⟨by rw [decide_eq_false fun h => h1 h.1], rfl⟩
      case rest =>
      obtain ⟨rfl, hwc⟩ := hcut
      rw [hwc]
      clear hwc
      go_upto_if 77 with fail
      go_cut [22] from 66 to 180 (fun s22 wx => ∃ nn : Nat, s22 = .int .i64 nn ∧ nn ≤ 30 ∧ (100 ≤ k → nn = 9) ∧ wx = wo)
      case first =>
        by_cases hin : k < n6 ∧ k < 100
        · rw [decide_eq_true hin]
          have hbl : Below w.heap.size w wo := by obtain ⟨_, _, _, _, _, h, _⟩ := hst.out; exact h.tw.bl
          obtain ⟨b6, o6, rfl, hb6l, hc6x⟩ := (HX6.out.below hbl).at_ (by omega)
          obtain ⟨x, hx⟩ : ∃ x, xs6[k]? = some x := ⟨_, List.getElem?_eq_getElem (by rw [HX6.out.len]; exact hin.1)⟩
          have hxb := HX6.out.wd x (List.mem_of_getElem? hx)
          have cx := hc6x k x hx
          have h1I : (k : Int) < (n6 : Int) := by omega
          have hwb := withinS_bd x 0 30 (by omega)
          obtain ⟨nn, hnn⟩ : ∃ nn : Nat, withinS x 0 30 = nn := ⟨(withinS x 0 30).toNat, by omega⟩
          have HW := Lib.hid (within_any x 0 30 wo hxb.1 (by omega) (by omega) (by omega) (by omega))
          rw [hnn] at HW hwb
          clear hc6x hx hbl hb6l hnn
          go_wp2_with fail
          refine HW.out.mono ?_
          rintro e w' ⟨rfl, e2⟩
          rw [← e2]
          clear e2
          go_wp2
          go_meet
          exact ⟨nn, rfl, by omega, by omega, rfl⟩
        · rw [decide_eq_false hin]
          go_wp2
          go_meet
          exact ⟨9, rfl, by omega, by omega, rfl⟩
      case rest =>
      obtain ⟨nn, rfl, hn30, hn9, hwc⟩ := hcut
      rw [hwc]
      clear hwc
      obtain ⟨a0, a1, c0, c1, hJ, hM, hrem⟩ := hst.out
      obtain ⟨r0, hr0⟩ : ∃ r, remM N1 N2 a0 a1 c0 c1 = r := ⟨_, rfl⟩
      have HIN := Lib.hid (show ∃ a0 a1 c0 c1, Jm N1 N2 a0 a1 c0 c1 ∧ Mt w wo px py g19 (g19 + 1) g15 L1 L2 (XW c0 c1) (YW a0 a1) a0 a1 c0 c1 ∧ Pr N1 N2 nn r0 0 a0 a1 c0 c1 from ⟨a0, a1, c0, c1, hJ, hM, Pr.zero hr0⟩)
      rw [hr0] at hrem
      clear hJ hM hr0 hst
      go_wp2_with fail
      go_loopw [23] (fun i wx => ∃ s : Nat, s ≤ 2 ∧ i = .int .i64 s ∧ Hid (∃ a0 a1 c0 c1, Jm N1 N2 a0 a1 c0 c1 ∧ Mt w wx px py g19 (g19 + 1) g15 L1 L2 (XW c0 c1) (YW a0 a1) a0 a1 c0 c1 ∧ Pr N1 N2 nn r0 s a0 a1 c0 c1)) (fun i _ => 2 - (intOf i).toNat)
      case atStart => exact ⟨0, by omega, rfl, HIN⟩
      case round =>
        clear HIN
        obtain ⟨s, hs, rfl, hst2⟩ := hrel
        have hs3 : s = 0 ∨ s = 1 ∨ s = 2 := by omega
        rcases hs3 with rfl | rfl | rfl
        · obtain ⟨a0, a1, c0, c1, hJ, hM, hP⟩ := hst2.out
          clear hst2
          obtain ⟨LX, hLX⟩ : ∃ L, pmL (XW c0 c1).th = L := ⟨_, rfl⟩
          obtain ⟨LY, hLY⟩ : ∃ L, pmL (YW a0 a1).th = L := ⟨_, rfl⟩
          have hvx : pmV (XW c0 c1).th = .agg LX.toArray := by rw [← hLX]; rfl
          have hvy : pmV (YW a0 a1).th = .agg LY.toArray := by rw [← hLY]; rfl
          have LlX := Lib.hid (show LX.length = 12 by rw [← hLX]; rfl)
          have LlY := Lib.hid (show LY.length = 12 by rw [← hLY]; rfl)
          have LoX := Lib.hid (show LX.all (·.oneCell') = true by rw [← hLX]; rfl)
          have LoY := Lib.hid (show LY.all (·.oneCell') = true by rw [← hLY]; rfl)
          obtain ⟨f, hf⟩ : ∃ f, decide (c0 = N2) = f := ⟨_, rfl⟩
          obtain ⟨g, hg⟩ : ∃ g, decide (a0 = N1) = g := ⟨_, rfl⟩
          have HT1 := tw_theirs hM.tw
          rw [hvx, HM.out.gx hJ, hf] at HT1
          have HT1 := Lib.hid HT1
          clear hLX hLY
          go_wp2_with fail
          refine HT1.out.mono ?_
          rintro e V1 ⟨rfl, hb1⟩
          have hM1 := hM.below hb1
          clear HT1 hb1 hM
          have hz1 : At (V1.alloc (.cells #[.int .u64 0, .int .u64 0, .int .u64 0, .int .u64 0, .int .u8 0, .int .u8 0, .int .u8 0, .int .u8 0, .int .u8 0, .int .u8 0, .int .u8 0, .int .u8 0] 26)) V1.heap.size 26 (pmL .zero) := At.new V1 26 (pmL .zero)
          have hb1 : Below V1.heap.size V1 (V1.alloc (.cells #[.int .u64 0, .int .u64 0, .int .u64 0, .int .u64 0, .int .u8 0, .int .u8 0, .int .u8 0, .int .u8 0, .int .u8 0, .int .u8 0, .int .u8 0, .int .u8 0] 26)) := (Below.refl _ _).alloc (Nat.le_refl _) _
          obtain ⟨V1a, hV1a⟩ : ∃ W, V1.alloc (.cells #[.int .u64 0, .int .u64 0, .int .u64 0, .int .u64 0, .int .u8 0, .int .u8 0, .int .u8 0, .int .u8 0, .int .u8 0, .int .u8 0, .int .u8 0, .int .u8 0] 26) = W := ⟨_, rfl⟩
          obtain ⟨q1, hq1⟩ : ∃ g, V1.heap.size = g := ⟨_, rfl⟩
          rw [hV1a, hq1] at hz1
          rw [hV1a] at hb1
          go_wp2_with (first | ((with_reducible refine at_stp2 (.tmp 24) ?_); refine st_pm _ (pmL .zero) LX (by rfl) (by rfl) hz1 rfl LlX.out LoX.out ?_; intro V2 hz1' hk1; have hb2 := hk1.below hb1 hb1.size (by intro j hj; omega); have hM2 := hM1.below hb2; clear hz1 hb1 hk1 hb2 hq1 hV1a hM1 hz1') | fail)
          have HT2 := tw_theirs hM2.tw.swap
          rw [hvy, HM.out.gy hJ, hg] at HT2
          refine HT2.mono ?_
          rintro e V3 ⟨rfl, hb3⟩
          have hM3 := hM2.below hb3
          clear HT2 hb3 hM2
          have hz3 : At (V3.alloc (.cells #[.int .u64 0, .int .u64 0, .int .u64 0, .int .u64 0, .int .u8 0, .int .u8 0, .int .u8 0, .int .u8 0, .int .u8 0, .int .u8 0, .int .u8 0, .int .u8 0] 26)) V3.heap.size 26 (pmL .zero) := At.new V3 26 (pmL .zero)
          have hb3 : Below V3.heap.size V3 (V3.alloc (.cells #[.int .u64 0, .int .u64 0, .int .u64 0, .int .u64 0, .int .u8 0, .int .u8 0, .int .u8 0, .int .u8 0, .int .u8 0, .int .u8 0, .int .u8 0, .int .u8 0] 26)) := (Below.refl _ _).alloc (Nat.le_refl _) _
          obtain ⟨V3a, hV3a⟩ : ∃ W, V3.alloc (.cells #[.int .u64 0, .int .u64 0, .int .u64 0, .int .u64 0, .int .u8 0, .int .u8 0, .int .u8 0, .int .u8 0, .int .u8 0, .int .u8 0, .int .u8 0, .int .u8 0] 26) = W := ⟨_, rfl⟩
          obtain ⟨q3, hq3⟩ : ∃ g, V3.heap.size = g := ⟨_, rfl⟩
          rw [hV3a, hq3] at hz3
          rw [hV3a] at hb3
          go_wp2_with (first | ((with_reducible refine at_stp2 (.tmp 26) ?_); refine st_pm _ (pmL .zero) LY (by rfl) (by rfl) hz3 rfl LlY.out LoY.out ?_; intro V4 hz3' hk3; have hb4 := hk3.below hb3 hb3.size (by intro j hj; omega); have hM4 := hM3.below hb4; clear hz3 hb3 hk3 hb4 hq3 hV3a hM3 hz3') | fail)
          obtain ⟨RQa, hRQa⟩ : ∃ R, M1 = R := ⟨_, rfl⟩
          obtain ⟨ra, hra⟩ : ∃ n, RQa.length = n := ⟨_, rfl⟩
          have Hra := Lib.hid (show ra = N1 by rw [← hra, ← hRQa]; exact HM.out.m1)
          have hra61 : ra ≤ 61 := by rw [Hra.out]; have := HM.out.z1; have := HM.out.z2; omega
          have hcla : a0 ≤ ra := by rw [Hra.out]; exact hJ.la0
          have HO1 := tw_out hM4.tw 0
          rw [HM.out.ox0 hJ, hRQa] at HO1
          refine HO1.mono ?_
          rintro e V5 ⟨v5, rfl, ho5, hb5⟩
          obtain ⟨A5, c5, rfl, s51, s52, s53⟩ := ho5.open_n ra hra
          have hM5 := hM4.below hb5
          have hA5l : A5 = none → c5 = 0 := ho5.nil_cap
          have hrow5 : RdP V5.drew (fun b => V4.heap.size ≤ b) A5 ra RQa := ((ho5.rdP hra).mono (fun b _ e => (ho5.block_lt b e).1)).kept ((Kept.refl (fun _ => False) V5).drewN 1) (fun _ _ h => h)
          obtain ⟨ka, hka⟩ : ∃ k, k = min nn (ra - a0) := ⟨_, rfl⟩
          have hmn : min (nn : Int) ((ra : Int) - (a0 : Int)) = (ka : Int) := by omega
          have Hka := Lib.hid hka
          have hkla : ka ≤ ra - a0 := by omega
          have hk30a : ka ≤ 30 := by omega
          clear hra hka ho5 s53
          have cgg : V5.cell? ⟨g19, 0, none⟩ = some (.int .i64 a0) := by rw [hM5.a19.cell]; rfl
          have hk0I : (0 : Int) ≤ (ka : Int) := by omega
          go_wp2_with fail
          have hfy : feedX (YW a0 a1) 0 ((RQa.drop a0).take ka) = YW (a0 + ka) a1 := by rw [← hRQa]; exact HM.out.fy0 hJ ka (by rw [← Hra.out]; exact hkla)
          have hJ1 := hJ.stepA ka (by rw [← Hra.out]; exact hkla)
          have hcode : (feedX (YW a0 a1) 0 ((RQa.drop a0).take ka)).code = 0 := by rw [hfy]; exact HM.out.cy hJ1
          have hbd := belowN hb5 1
          rw [show V5.drewN 1 = V5.drew from rfl] at hbd
          have hwr : IntKind.i64.wrap ((a0 : Int) + (ka : Int)) = (a0 : Int) + (ka : Int) := IntWalk.i64_in _ (by omega)
          have hlt0 : decide ((ka : Int) < 0) = false := decide_eq_false (by omega)
          have HFD := Lib.hid (mt_feedY hM4 hbd 0 _ ka (c5 - a0) _ ((hrow5.cutFrom hcla s51).cutTo hkla) (by omega) hcode)
          rw [hfy] at HFD
          have cgd : V5.drew.cell? ⟨g19, 0, none⟩ = some (.int .i64 a0) := cgg
          clear hrow5 hbd hM4 hM5 hb5 hcode hfy 
          obtain ⟨V6, hV6⟩ : ∃ W, V5.drew = W := ⟨_, rfl⟩
          refine wp_region_held_drew (S := fun W => W.cell? ⟨g19, 0, none⟩ = some (.int .i64 a0)) (by kernel_rfl) (cgd) (fun hHeld => ?_)
          rw [hV6] at cgd HFD ⊢
          have hHeld : V6.cell? ⟨g19, 0, none⟩ = some (.int .i64 a0) := cgd
          clear hV6
          refine tkq 0 (some 114) (v := ?_) rfl (Or.inl ⟨by rfl, ?_⟩) (by assumption) ?_
          rotate_left
          · intro w hSw; (try dsimp only at hSw); go_simp; first | done | (with_reducible rfl)
          simp only [Act.put, List.setIfInBounds_toArray, List.set_cons_zero, List.set_cons_succ]
          refine tkq 1 (some 115) (v := .bool false) rfl (Or.inl ⟨by rfl, ?_⟩) (by assumption) ?_
          · intro w hSw; (try dsimp only at hSw); go_simp; first | done | rfl | (rw [hlt0]) | (simp; omega)
          simp only [Act.put, List.setIfInBounds_toArray, List.set_cons_zero, List.set_cons_succ]
          refine tkq 2 (some 116) (v := ?_) rfl (Or.inl ⟨by rfl, ?_⟩) (by assumption) ?_
          rotate_left
          · intro w hSw; (try dsimp only at hSw); go_simp; first | done | (with_reducible rfl)
          simp only [Act.put, List.setIfInBounds_toArray, List.set_cons_zero, List.set_cons_succ]
          refine tkq 3 (some 117) (v := ?_) rfl (Or.inl ⟨by rfl, ?_⟩) (by assumption) ?_
          rotate_left
          · intro w hSw; (try dsimp only at hSw); go_simp; first | done | (with_reducible rfl)
          simp only [Act.put, List.setIfInBounds_toArray, List.set_cons_zero, List.set_cons_succ]
          refine tkq 4 (some 118) (v := ?_) rfl (Or.inl ⟨by rfl, ?_⟩) (by assumption) ?_
          rotate_left
          · intro w hSw; (try dsimp only at hSw); go_simp; first | done | (with_reducible rfl)
          simp only [Act.put, List.setIfInBounds_toArray, List.set_cons_zero, List.set_cons_succ]
          refine tkq 5 (some 119) (v := ?_) rfl (Or.inl ⟨by rfl, ?_⟩) (by assumption) ?_
          rotate_left
          · intro w hSw; (try dsimp only at hSw); go_simp; first | done | (with_reducible rfl)
          simp only [Act.put, List.setIfInBounds_toArray, List.set_cons_zero, List.set_cons_succ]
          refine tkq 6 (some 120) (v := ?_) rfl (Or.inl ⟨by rfl, ?_⟩) (by assumption) ?_
          rotate_left
          · intro w hSw; (try dsimp only at hSw); go_simp; first | done | (with_reducible rfl)
          simp only [Act.put, List.setIfInBounds_toArray, List.set_cons_zero, List.set_cons_succ]
          refine tkq 7 (some 121) (v := ?_) rfl (Or.inl ⟨by rfl, ?_⟩) (by assumption) ?_
          rotate_left
          · intro w hSw; (try dsimp only at hSw); go_simp; first | done | (with_reducible rfl)
          simp only [Act.put, List.setIfInBounds_toArray, List.set_cons_zero, List.set_cons_succ]
          refine tkq 8 (some 122) (v := ?_) rfl (Or.inl ⟨by rfl, ?_⟩) (by assumption) ?_
          rotate_left
          · intro w hSw; (try dsimp only at hSw); go_simp; first | done | (with_reducible rfl)
          simp only [Act.put, List.setIfInBounds_toArray, List.set_cons_zero, List.set_cons_succ]
          refine tkq 9 (some 123) (v := ?_) rfl (Or.inl ⟨by rfl, ?_⟩) (by assumption) ?_
          rotate_left
          · intro w hSw; (try dsimp only at hSw); go_simp; first | done | (with_reducible rfl)
          simp only [Act.put, List.setIfInBounds_toArray, List.set_cons_zero, List.set_cons_succ]
          refine tkq 10 (some 124) (v := ?_) rfl (Or.inl ⟨by rfl, ?_⟩) (by assumption) ?_
          rotate_left
          · intro w hSw; (try dsimp only at hSw); go_simp; first | done | (with_reducible rfl)
          simp only [Act.put, List.setIfInBounds_toArray, List.set_cons_zero, List.set_cons_succ]
          refine tkq 11 (some 125) (v := ?_) rfl (Or.inl ⟨by rfl, ?_⟩) (by assumption) ?_
          rotate_left
          · intro w hSw; (try dsimp only at hSw); go_simp; first | done | (with_reducible rfl)
          simp only [Act.put, List.setIfInBounds_toArray, List.set_cons_zero, List.set_cons_succ]
          refine tkq 12 (some 126) (v := ?_) rfl (Or.inl ⟨by rfl, ?_⟩) (by assumption) ?_
          rotate_left
          · intro w hSw; (try dsimp only at hSw); go_simp; first | done | (with_reducible rfl)
          simp only [Act.put, List.setIfInBounds_toArray, List.set_cons_zero, List.set_cons_succ]
          refine tkq 13 (some 127) (v := .int .i64 ((a0 : Int) + (ka : Int))) rfl (Or.inl ⟨by rfl, ?_⟩) (by assumption) ?_
          · intro w hSw; (try dsimp only at hSw); go_simp; first | done | rfl | (rw [hwr])
          simp only [Act.put, List.setIfInBounds_toArray, List.set_cons_zero, List.set_cons_succ]
          refine tkq 14 (some 128) (v := .slice (cutA A5 c5 a0) ka (c5 - a0)) rfl (yl_slice (.tmp 119) (.tmp 122) (.tmp 127) rfl A5 ra c5 a0 ka (by rfl) (by rfl) (by rfl) (by omega) (by rfl)) (by assumption) ?_
          simp only [Act.put, List.setIfInBounds_toArray, List.set_cons_zero, List.set_cons_succ]
          refine wpAnyH_ready (rs := [15]) (by kernel_rfl) (by simp) ?_
          refine AllReadyH.cons rfl (fun K hK => ?_) AllReadyH.nil
          go_simp
          go_wp2_with (go_at_call 20; refine HFD.out.mono ?_; rintro e V7 ⟨rfl, hM7⟩)
          have cg7 : V7.cell? ⟨g19, 0, none⟩ = some (.int .i64 a0) := by rw [hM7.a19.cell]; rfl
          refine hK.out _ _ (cg7) (fun hHeld => ?_)
          clear hK K
          refine tkq 16 (some 130) (v := .bool false) rfl (Or.inl ⟨by rfl, ?_⟩) (by assumption) ?_
          · intro w hSw; (try dsimp only at hSw); go_simp; first | done | rfl
          simp only [Act.put, List.setIfInBounds_toArray, List.set_cons_zero, List.set_cons_succ]
          refine tkq 17 (some 131) (v := ?_) rfl (Or.inl ⟨by rfl, ?_⟩) (by assumption) ?_
          rotate_left
          · intro w hSw; (try dsimp only at hSw); go_simp; first | done | (with_reducible rfl)
          simp only [Act.put, List.setIfInBounds_toArray, List.set_cons_zero, List.set_cons_succ]
          refine wpAnyH_done (by kernel_rfl) ?_ _
          have fg7 : V7.frozen? ⟨g19, 0, none⟩ = false := hM7.a19.frozen 0
          have hM8a := hM7.set19 0 (.int .i64 ((a0 : Int) + (ka : Int))) (b0' := (a0 + ka)) (b1' := a1) rfl
          obtain ⟨V8, hV8⟩ : ∃ W, V7.setCell ⟨g19, 0, none⟩ (.int .i64 ((a0 : Int) + (ka : Int))) = W := ⟨_, rfl⟩
          rw [hV8] at hM8a
          clear hM7 HFD cgg cgd
          go_wp2_with fail
          clear hV8 cg7 fg7 hwr hlt0 hk0I hmn
          obtain ⟨RQb, hRQb⟩ : ∃ R, (if a0 + ka = N1 then M2 else []) = R := ⟨_, rfl⟩
          obtain ⟨rb, hrb⟩ : ∃ n, RQb.length = n := ⟨_, rfl⟩
          have Hrb := Lib.hid (show rb = if a0 + ka = N1 then N2 else 0 by rw [← hrb, ← hRQb]; split; exact HM.out.m2; rfl)
          have hrb61 : rb ≤ 61 := by rw [Hrb.out]; have := HM.out.z1; have := HM.out.z2; split <;> omega
          have hclb : c0 ≤ rb := by rw [Hrb.out]; have := hJ1.ca; have := hJ1.lc0; split <;> omega
          have HO1 := tw_out hM8a.tw.swap 0
          rw [HM.out.oy0 hJ1, hRQb] at HO1
          refine HO1.mono ?_
          rintro e V5 ⟨v5, rfl, ho5, hb5⟩
          obtain ⟨A5, c5, rfl, s51, s52, s53⟩ := ho5.open_n rb hrb
          have hM5 := hM8a.below hb5
          have hA5l : A5 = none → c5 = 0 := ho5.nil_cap
          have hrow5 : RdP V5.drew (fun b => V8.heap.size ≤ b) A5 rb RQb := ((ho5.rdP hrb).mono (fun b _ e => (ho5.block_lt b e).1)).kept ((Kept.refl (fun _ => False) V5).drewN 1) (fun _ _ h => h)
          obtain ⟨kb, hkb⟩ : ∃ k, k = min nn (rb - c0) := ⟨_, rfl⟩
          have hmn : min (nn : Int) ((rb : Int) - (c0 : Int)) = (kb : Int) := by omega
          have Hkb := Lib.hid hkb
          have hklb : kb ≤ rb - c0 := by omega
          have hk30b : kb ≤ 30 := by omega
          clear hrb hkb ho5 s53
          have cgg : V5.cell? ⟨g19 + 1, 0, none⟩ = some (.int .i64 c0) := by rw [hM5.a20.cell]; rfl
          have hk0I : (0 : Int) ≤ (kb : Int) := by omega
          go_wp2_with fail
          have hfy : feedX (XW c0 c1) 0 ((RQb.drop c0).take kb) = XW (c0 + kb) c1 := by rw [← hRQb]; exact HM.out.fx0 hJ1 kb (by rw [← Hrb.out]; exact hklb)
          have hJ2 := hJ1.stepB kb (by rw [← Hrb.out]; exact hklb)
          have hcode : (feedX (XW c0 c1) 0 ((RQb.drop c0).take kb)).code = 0 := by rw [hfy]; exact HM.out.cx hJ2
          have hbd := belowN hb5 1
          rw [show V5.drewN 1 = V5.drew from rfl] at hbd
          have hwr : IntKind.i64.wrap ((c0 : Int) + (kb : Int)) = (c0 : Int) + (kb : Int) := IntWalk.i64_in _ (by omega)
          have hlt0 : decide ((kb : Int) < 0) = false := decide_eq_false (by omega)
          have HFD := Lib.hid (mt_feedX hM8a hbd 0 _ kb (c5 - c0) _ ((hrow5.cutFrom hclb s51).cutTo hklb) (by omega) hcode)
          rw [hfy] at HFD
          have cgd : V5.drew.cell? ⟨g19 + 1, 0, none⟩ = some (.int .i64 c0) := cgg
          clear hrow5 hbd hM8a hM5 hb5 hcode hfy 
          obtain ⟨V6, hV6⟩ : ∃ W, V5.drew = W := ⟨_, rfl⟩
          refine wp_region_held_drew (S := fun W => W.cell? ⟨g19 + 1, 0, none⟩ = some (.int .i64 c0)) (by kernel_rfl) (cgd) (fun hHeld => ?_)
          rw [hV6] at cgd HFD ⊢
          have hHeld : V6.cell? ⟨g19 + 1, 0, none⟩ = some (.int .i64 c0) := cgd
          clear hV6
          refine tkq 0 (some 156) (v := ?_) rfl (Or.inl ⟨by rfl, ?_⟩) (by assumption) ?_
          rotate_left
          · intro w hSw; (try dsimp only at hSw); go_simp; first | done | (with_reducible rfl)
          simp only [Act.put, List.setIfInBounds_toArray, List.set_cons_zero, List.set_cons_succ]
          refine tkq 1 (some 157) (v := .bool false) rfl (Or.inl ⟨by rfl, ?_⟩) (by assumption) ?_
          · intro w hSw; (try dsimp only at hSw); go_simp; first | done | rfl | (rw [hlt0]) | (simp; omega)
          simp only [Act.put, List.setIfInBounds_toArray, List.set_cons_zero, List.set_cons_succ]
          refine tkq 2 (some 158) (v := ?_) rfl (Or.inl ⟨by rfl, ?_⟩) (by assumption) ?_
          rotate_left
          · intro w hSw; (try dsimp only at hSw); go_simp; first | done | (with_reducible rfl)
          simp only [Act.put, List.setIfInBounds_toArray, List.set_cons_zero, List.set_cons_succ]
          refine tkq 3 (some 159) (v := ?_) rfl (Or.inl ⟨by rfl, ?_⟩) (by assumption) ?_
          rotate_left
          · intro w hSw; (try dsimp only at hSw); go_simp; first | done | (with_reducible rfl)
          simp only [Act.put, List.setIfInBounds_toArray, List.set_cons_zero, List.set_cons_succ]
          refine tkq 4 (some 160) (v := ?_) rfl (Or.inl ⟨by rfl, ?_⟩) (by assumption) ?_
          rotate_left
          · intro w hSw; (try dsimp only at hSw); go_simp; first | done | (with_reducible rfl)
          simp only [Act.put, List.setIfInBounds_toArray, List.set_cons_zero, List.set_cons_succ]
          refine tkq 5 (some 161) (v := ?_) rfl (Or.inl ⟨by rfl, ?_⟩) (by assumption) ?_
          rotate_left
          · intro w hSw; (try dsimp only at hSw); go_simp; first | done | (with_reducible rfl)
          simp only [Act.put, List.setIfInBounds_toArray, List.set_cons_zero, List.set_cons_succ]
          refine tkq 6 (some 162) (v := ?_) rfl (Or.inl ⟨by rfl, ?_⟩) (by assumption) ?_
          rotate_left
          · intro w hSw; (try dsimp only at hSw); go_simp; first | done | (with_reducible rfl)
          simp only [Act.put, List.setIfInBounds_toArray, List.set_cons_zero, List.set_cons_succ]
          refine tkq 7 (some 163) (v := ?_) rfl (Or.inl ⟨by rfl, ?_⟩) (by assumption) ?_
          rotate_left
          · intro w hSw; (try dsimp only at hSw); go_simp; first | done | (with_reducible rfl)
          simp only [Act.put, List.setIfInBounds_toArray, List.set_cons_zero, List.set_cons_succ]
          refine tkq 8 (some 164) (v := ?_) rfl (Or.inl ⟨by rfl, ?_⟩) (by assumption) ?_
          rotate_left
          · intro w hSw; (try dsimp only at hSw); go_simp; first | done | (with_reducible rfl)
          simp only [Act.put, List.setIfInBounds_toArray, List.set_cons_zero, List.set_cons_succ]
          refine tkq 9 (some 165) (v := ?_) rfl (Or.inl ⟨by rfl, ?_⟩) (by assumption) ?_
          rotate_left
          · intro w hSw; (try dsimp only at hSw); go_simp; first | done | (with_reducible rfl)
          simp only [Act.put, List.setIfInBounds_toArray, List.set_cons_zero, List.set_cons_succ]
          refine tkq 10 (some 166) (v := ?_) rfl (Or.inl ⟨by rfl, ?_⟩) (by assumption) ?_
          rotate_left
          · intro w hSw; (try dsimp only at hSw); go_simp; first | done | (with_reducible rfl)
          simp only [Act.put, List.setIfInBounds_toArray, List.set_cons_zero, List.set_cons_succ]
          refine tkq 11 (some 167) (v := ?_) rfl (Or.inl ⟨by rfl, ?_⟩) (by assumption) ?_
          rotate_left
          · intro w hSw; (try dsimp only at hSw); go_simp; first | done | (with_reducible rfl)
          simp only [Act.put, List.setIfInBounds_toArray, List.set_cons_zero, List.set_cons_succ]
          refine tkq 12 (some 168) (v := ?_) rfl (Or.inl ⟨by rfl, ?_⟩) (by assumption) ?_
          rotate_left
          · intro w hSw; (try dsimp only at hSw); go_simp; first | done | (with_reducible rfl)
          simp only [Act.put, List.setIfInBounds_toArray, List.set_cons_zero, List.set_cons_succ]
          refine tkq 13 (some 169) (v := .int .i64 ((c0 : Int) + (kb : Int))) rfl (Or.inl ⟨by rfl, ?_⟩) (by assumption) ?_
          · intro w hSw; (try dsimp only at hSw); go_simp; first | done | rfl | (rw [hwr])
          simp only [Act.put, List.setIfInBounds_toArray, List.set_cons_zero, List.set_cons_succ]
          refine tkq 14 (some 170) (v := .slice (cutA A5 c5 c0) kb (c5 - c0)) rfl (yl_slice (.tmp 161) (.tmp 164) (.tmp 169) rfl A5 rb c5 c0 kb (by rfl) (by rfl) (by rfl) (by omega) (by rfl)) (by assumption) ?_
          simp only [Act.put, List.setIfInBounds_toArray, List.set_cons_zero, List.set_cons_succ]
          refine wpAnyH_ready (rs := [15]) (by kernel_rfl) (by simp) ?_
          refine AllReadyH.cons rfl (fun K hK => ?_) AllReadyH.nil
          go_simp
          go_wp2_with (go_at_call 20; refine HFD.out.mono ?_; rintro e V7 ⟨rfl, hM7⟩)
          have cg7 : V7.cell? ⟨g19 + 1, 0, none⟩ = some (.int .i64 c0) := by rw [hM7.a20.cell]; rfl
          refine hK.out _ _ (cg7) (fun hHeld => ?_)
          clear hK K
          refine tkq 16 (some 172) (v := .bool false) rfl (Or.inl ⟨by rfl, ?_⟩) (by assumption) ?_
          · intro w hSw; (try dsimp only at hSw); go_simp; first | done | rfl
          simp only [Act.put, List.setIfInBounds_toArray, List.set_cons_zero, List.set_cons_succ]
          refine tkq 17 (some 173) (v := ?_) rfl (Or.inl ⟨by rfl, ?_⟩) (by assumption) ?_
          rotate_left
          · intro w hSw; (try dsimp only at hSw); go_simp; first | done | (with_reducible rfl)
          simp only [Act.put, List.setIfInBounds_toArray, List.set_cons_zero, List.set_cons_succ]
          refine wpAnyH_done (by kernel_rfl) ?_ _
          have fg7 : V7.frozen? ⟨g19 + 1, 0, none⟩ = false := hM7.a20.frozen 0
          have hM12 := hM7.set20 0 (.int .i64 ((c0 : Int) + (kb : Int))) (d0' := (c0 + kb)) (d1' := c1) rfl
          obtain ⟨V8, hV8⟩ : ∃ W, V7.setCell ⟨g19 + 1, 0, none⟩ (.int .i64 ((c0 : Int) + (kb : Int))) = W := ⟨_, rfl⟩
          rw [hV8] at hM12
          clear hM7 HFD cgg cgd
          go_wp2_with fail
          go_roundw
          case rel => exact ⟨1, by omega, by go_num, Lib.hid ⟨a0 + ka, a1, c0 + kb, c1, hJ2, hM12, Pr.one hJ (hP.2.1 rfl) ka kb (by rw [Hka.out, Hra.out]) (by rw [Hkb.out, Hrb.out])⟩⟩
          case measure => simp [intOf]
        · obtain ⟨a0, a1, c0, c1, hJ, hM, hP⟩ := hst2.out
          clear hst2
          obtain ⟨LX, hLX⟩ : ∃ L, pmL (XW c0 c1).th = L := ⟨_, rfl⟩
          obtain ⟨LY, hLY⟩ : ∃ L, pmL (YW a0 a1).th = L := ⟨_, rfl⟩
          have hvx : pmV (XW c0 c1).th = .agg LX.toArray := by rw [← hLX]; rfl
          have hvy : pmV (YW a0 a1).th = .agg LY.toArray := by rw [← hLY]; rfl
          have LlX := Lib.hid (show LX.length = 12 by rw [← hLX]; rfl)
          have LlY := Lib.hid (show LY.length = 12 by rw [← hLY]; rfl)
          have LoX := Lib.hid (show LX.all (·.oneCell') = true by rw [← hLX]; rfl)
          have LoY := Lib.hid (show LY.all (·.oneCell') = true by rw [← hLY]; rfl)
          obtain ⟨f, hf⟩ : ∃ f, decide (c0 = N2) = f := ⟨_, rfl⟩
          obtain ⟨g, hg⟩ : ∃ g, decide (a0 = N1) = g := ⟨_, rfl⟩
          have HT1 := tw_theirs hM.tw
          rw [hvx, HM.out.gx hJ, hf] at HT1
          have HT1 := Lib.hid HT1
          clear hLX hLY
          go_wp2_with fail
          refine HT1.out.mono ?_
          rintro e V1 ⟨rfl, hb1⟩
          have hM1 := hM.below hb1
          clear HT1 hb1 hM
          have hz1 : At (V1.alloc (.cells #[.int .u64 0, .int .u64 0, .int .u64 0, .int .u64 0, .int .u8 0, .int .u8 0, .int .u8 0, .int .u8 0, .int .u8 0, .int .u8 0, .int .u8 0, .int .u8 0] 26)) V1.heap.size 26 (pmL .zero) := At.new V1 26 (pmL .zero)
          have hb1 : Below V1.heap.size V1 (V1.alloc (.cells #[.int .u64 0, .int .u64 0, .int .u64 0, .int .u64 0, .int .u8 0, .int .u8 0, .int .u8 0, .int .u8 0, .int .u8 0, .int .u8 0, .int .u8 0, .int .u8 0] 26)) := (Below.refl _ _).alloc (Nat.le_refl _) _
          obtain ⟨V1a, hV1a⟩ : ∃ W, V1.alloc (.cells #[.int .u64 0, .int .u64 0, .int .u64 0, .int .u64 0, .int .u8 0, .int .u8 0, .int .u8 0, .int .u8 0, .int .u8 0, .int .u8 0, .int .u8 0, .int .u8 0] 26) = W := ⟨_, rfl⟩
          obtain ⟨q1, hq1⟩ : ∃ g, V1.heap.size = g := ⟨_, rfl⟩
          rw [hV1a, hq1] at hz1
          rw [hV1a] at hb1
          go_wp2_with (first | ((with_reducible refine at_stp2 (.tmp 24) ?_); refine st_pm _ (pmL .zero) LX (by rfl) (by rfl) hz1 rfl LlX.out LoX.out ?_; intro V2 hz1' hk1; have hb2 := hk1.below hb1 hb1.size (by intro j hj; omega); have hM2 := hM1.below hb2; clear hz1 hb1 hk1 hb2 hq1 hV1a hM1 hz1') | fail)
          have HT2 := tw_theirs hM2.tw.swap
          rw [hvy, HM.out.gy hJ, hg] at HT2
          refine HT2.mono ?_
          rintro e V3 ⟨rfl, hb3⟩
          have hM3 := hM2.below hb3
          clear HT2 hb3 hM2
          have hz3 : At (V3.alloc (.cells #[.int .u64 0, .int .u64 0, .int .u64 0, .int .u64 0, .int .u8 0, .int .u8 0, .int .u8 0, .int .u8 0, .int .u8 0, .int .u8 0, .int .u8 0, .int .u8 0] 26)) V3.heap.size 26 (pmL .zero) := At.new V3 26 (pmL .zero)
          have hb3 : Below V3.heap.size V3 (V3.alloc (.cells #[.int .u64 0, .int .u64 0, .int .u64 0, .int .u64 0, .int .u8 0, .int .u8 0, .int .u8 0, .int .u8 0, .int .u8 0, .int .u8 0, .int .u8 0, .int .u8 0] 26)) := (Below.refl _ _).alloc (Nat.le_refl _) _
          obtain ⟨V3a, hV3a⟩ : ∃ W, V3.alloc (.cells #[.int .u64 0, .int .u64 0, .int .u64 0, .int .u64 0, .int .u8 0, .int .u8 0, .int .u8 0, .int .u8 0, .int .u8 0, .int .u8 0, .int .u8 0, .int .u8 0] 26) = W := ⟨_, rfl⟩
          obtain ⟨q3, hq3⟩ : ∃ g, V3.heap.size = g := ⟨_, rfl⟩
          rw [hV3a, hq3] at hz3
          rw [hV3a] at hb3
          go_wp2_with (first | ((with_reducible refine at_stp2 (.tmp 26) ?_); refine st_pm _ (pmL .zero) LY (by rfl) (by rfl) hz3 rfl LlY.out LoY.out ?_; intro V4 hz3' hk3; have hb4 := hk3.below hb3 hb3.size (by intro j hj; omega); have hM4 := hM3.below hb4; clear hz3 hb3 hk3 hb4 hq3 hV3a hM3 hz3') | fail)
          obtain ⟨RQa, hRQa⟩ : ∃ R, (if c1 = 11 then F1 else []) = R := ⟨_, rfl⟩
          obtain ⟨ra, hra⟩ : ∃ n, RQa.length = n := ⟨_, rfl⟩
          have Hra := Lib.hid (show ra = if c1 = 11 then 11 else 0 by rw [← hra, ← hRQa]; split; exact HM.out.f1; rfl)
          have hra61 : ra ≤ 61 := by rw [Hra.out]; have := HM.out.z1; have := HM.out.z2; split <;> omega
          have hcla : a1 ≤ ra := by rw [Hra.out]; have := hJ.ac; have := hJ.la1; split <;> omega
          have HO1 := tw_out hM4.tw 1
          rw [HM.out.ox1 hJ, hRQa] at HO1
          refine HO1.mono ?_
          rintro e V5 ⟨v5, rfl, ho5, hb5⟩
          obtain ⟨A5, c5, rfl, s51, s52, s53⟩ := ho5.open_n ra hra
          have hM5 := hM4.below hb5
          have hA5l : A5 = none → c5 = 0 := ho5.nil_cap
          have hrow5 : RdP V5.drew (fun b => V4.heap.size ≤ b) A5 ra RQa := ((ho5.rdP hra).mono (fun b _ e => (ho5.block_lt b e).1)).kept ((Kept.refl (fun _ => False) V5).drewN 1) (fun _ _ h => h)
          obtain ⟨kma, hkma⟩ : ∃ k, k = min nn (ra - a1) := ⟨_, rfl⟩
          have hmn : min (nn : Int) ((ra : Int) - (a1 : Int)) = (kma : Int) := by omega
          obtain ⟨ka, hka⟩ : ∃ k, k = if g = true then min nn (ra - a1) else 0 := ⟨_, rfl⟩
          have Hka := Lib.hid hka
          have HKMa := Lib.hid hkma
          have hkla : ka ≤ ra - a1 := by rw [hka]; split <;> omega
          have hk30a : ka ≤ 30 := by rw [hka]; split <;> omega
          clear hra hkma hka ho5 s53
          have cgg : V5.cell? ⟨g19, 1, none⟩ = some (.int .i64 a1) := by rw [hM5.a19.cell]; rfl
          have hk0I : (0 : Int) ≤ (ka : Int) := by omega
          go_upto_if 113 with fail
          go_cut [27, 29] from 83 to 180 (fun sg s29 wx => sg = .bool g ∧ s29 = .int .i64 ka ∧ wx = V5)
          case first =>
            go_wp2
            all_goals
              go_meet
              rename_i hb
              first
                | (have e : g = false := by simpa using hb
                   refine ⟨rfl, ?_, rfl⟩
                   rw [Hka.out, e]
                   rfl)
                | (have e : g = true := by simpa using hb
                   refine ⟨rfl, ?_, rfl⟩
                   rw [Hka.out, e, if_pos rfl, HKMa.out])
          case rest =>
          obtain ⟨rfl, rfl, hwc⟩ := hcut
          rw [hwc]
          clear hwc hmn HKMa
          go_wp2_with fail
          have hfy : feedX (YW a0 a1) 1 ((RQa.drop a1).take ka) = YW a0 (a1 + ka) := by rw [← hRQa]; exact HM.out.fy1 hJ ka (by rw [← Hra.out]; exact hkla)
          have hJ1 := hJ.stepC ka (by rw [← Hra.out]; exact hkla)
          have hcode : (feedX (YW a0 a1) 1 ((RQa.drop a1).take ka)).code = 0 := by rw [hfy]; exact HM.out.cy hJ1
          have hbd := belowN hb5 1
          rw [show V5.drewN 1 = V5.drew from rfl] at hbd
          have hwr : IntKind.i64.wrap ((a1 : Int) + (ka : Int)) = (a1 : Int) + (ka : Int) := IntWalk.i64_in _ (by omega)
          have hlt0 : decide ((ka : Int) < 0) = false := decide_eq_false (by omega)
          have HFD := Lib.hid (mt_feedY hM4 hbd 1 _ ka (c5 - a1) _ ((hrow5.cutFrom hcla s51).cutTo hkla) (by omega) hcode)
          rw [hfy] at HFD
          have cgd : V5.drew.cell? ⟨g19, 1, none⟩ = some (.int .i64 a1) := cgg
          clear hrow5 hbd hM4 hM5 hb5 hcode hfy 
          obtain ⟨V6, hV6⟩ : ∃ W, V5.drew = W := ⟨_, rfl⟩
          refine wp_region_held_drew (S := fun W => W.cell? ⟨g19, 1, none⟩ = some (.int .i64 a1)) (by kernel_rfl) (cgd) (fun hHeld => ?_)
          rw [hV6] at cgd HFD ⊢
          have hHeld : V6.cell? ⟨g19, 1, none⟩ = some (.int .i64 a1) := cgd
          clear hV6
          refine tkq 0 (some 114) (v := ?_) rfl (Or.inl ⟨by rfl, ?_⟩) (by assumption) ?_
          rotate_left
          · intro w hSw; (try dsimp only at hSw); go_simp; first | done | (with_reducible rfl)
          simp only [Act.put, List.setIfInBounds_toArray, List.set_cons_zero, List.set_cons_succ]
          refine tkq 1 (some 115) (v := .bool false) rfl (Or.inl ⟨by rfl, ?_⟩) (by assumption) ?_
          · intro w hSw; (try dsimp only at hSw); go_simp; first | done | rfl | (rw [hlt0]) | (simp; omega)
          simp only [Act.put, List.setIfInBounds_toArray, List.set_cons_zero, List.set_cons_succ]
          refine tkq 2 (some 116) (v := ?_) rfl (Or.inl ⟨by rfl, ?_⟩) (by assumption) ?_
          rotate_left
          · intro w hSw; (try dsimp only at hSw); go_simp; first | done | (with_reducible rfl)
          simp only [Act.put, List.setIfInBounds_toArray, List.set_cons_zero, List.set_cons_succ]
          refine tkq 3 (some 117) (v := ?_) rfl (Or.inl ⟨by rfl, ?_⟩) (by assumption) ?_
          rotate_left
          · intro w hSw; (try dsimp only at hSw); go_simp; first | done | (with_reducible rfl)
          simp only [Act.put, List.setIfInBounds_toArray, List.set_cons_zero, List.set_cons_succ]
          refine tkq 4 (some 118) (v := ?_) rfl (Or.inl ⟨by rfl, ?_⟩) (by assumption) ?_
          rotate_left
          · intro w hSw; (try dsimp only at hSw); go_simp; first | done | (with_reducible rfl)
          simp only [Act.put, List.setIfInBounds_toArray, List.set_cons_zero, List.set_cons_succ]
          refine tkq 5 (some 119) (v := ?_) rfl (Or.inl ⟨by rfl, ?_⟩) (by assumption) ?_
          rotate_left
          · intro w hSw; (try dsimp only at hSw); go_simp; first | done | (with_reducible rfl)
          simp only [Act.put, List.setIfInBounds_toArray, List.set_cons_zero, List.set_cons_succ]
          refine tkq 6 (some 120) (v := ?_) rfl (Or.inl ⟨by rfl, ?_⟩) (by assumption) ?_
          rotate_left
          · intro w hSw; (try dsimp only at hSw); go_simp; first | done | (with_reducible rfl)
          simp only [Act.put, List.setIfInBounds_toArray, List.set_cons_zero, List.set_cons_succ]
          refine tkq 7 (some 121) (v := ?_) rfl (Or.inl ⟨by rfl, ?_⟩) (by assumption) ?_
          rotate_left
          · intro w hSw; (try dsimp only at hSw); go_simp; first | done | (with_reducible rfl)
          simp only [Act.put, List.setIfInBounds_toArray, List.set_cons_zero, List.set_cons_succ]
          refine tkq 8 (some 122) (v := ?_) rfl (Or.inl ⟨by rfl, ?_⟩) (by assumption) ?_
          rotate_left
          · intro w hSw; (try dsimp only at hSw); go_simp; first | done | (with_reducible rfl)
          simp only [Act.put, List.setIfInBounds_toArray, List.set_cons_zero, List.set_cons_succ]
          refine tkq 9 (some 123) (v := ?_) rfl (Or.inl ⟨by rfl, ?_⟩) (by assumption) ?_
          rotate_left
          · intro w hSw; (try dsimp only at hSw); go_simp; first | done | (with_reducible rfl)
          simp only [Act.put, List.setIfInBounds_toArray, List.set_cons_zero, List.set_cons_succ]
          refine tkq 10 (some 124) (v := ?_) rfl (Or.inl ⟨by rfl, ?_⟩) (by assumption) ?_
          rotate_left
          · intro w hSw; (try dsimp only at hSw); go_simp; first | done | (with_reducible rfl)
          simp only [Act.put, List.setIfInBounds_toArray, List.set_cons_zero, List.set_cons_succ]
          refine tkq 11 (some 125) (v := ?_) rfl (Or.inl ⟨by rfl, ?_⟩) (by assumption) ?_
          rotate_left
          · intro w hSw; (try dsimp only at hSw); go_simp; first | done | (with_reducible rfl)
          simp only [Act.put, List.setIfInBounds_toArray, List.set_cons_zero, List.set_cons_succ]
          refine tkq 12 (some 126) (v := ?_) rfl (Or.inl ⟨by rfl, ?_⟩) (by assumption) ?_
          rotate_left
          · intro w hSw; (try dsimp only at hSw); go_simp; first | done | (with_reducible rfl)
          simp only [Act.put, List.setIfInBounds_toArray, List.set_cons_zero, List.set_cons_succ]
          refine tkq 13 (some 127) (v := .int .i64 ((a1 : Int) + (ka : Int))) rfl (Or.inl ⟨by rfl, ?_⟩) (by assumption) ?_
          · intro w hSw; (try dsimp only at hSw); go_simp; first | done | rfl | (rw [hwr])
          simp only [Act.put, List.setIfInBounds_toArray, List.set_cons_zero, List.set_cons_succ]
          refine tkq 14 (some 128) (v := .slice (cutA A5 c5 a1) ka (c5 - a1)) rfl (yl_slice (.tmp 119) (.tmp 122) (.tmp 127) rfl A5 ra c5 a1 ka (by rfl) (by rfl) (by rfl) (by omega) (by rfl)) (by assumption) ?_
          simp only [Act.put, List.setIfInBounds_toArray, List.set_cons_zero, List.set_cons_succ]
          refine wpAnyH_ready (rs := [15]) (by kernel_rfl) (by simp) ?_
          refine AllReadyH.cons rfl (fun K hK => ?_) AllReadyH.nil
          go_simp
          go_wp2_with (go_at_call 20; refine HFD.out.mono ?_; rintro e V7 ⟨rfl, hM7⟩)
          have cg7 : V7.cell? ⟨g19, 1, none⟩ = some (.int .i64 a1) := by rw [hM7.a19.cell]; rfl
          refine hK.out _ _ (cg7) (fun hHeld => ?_)
          clear hK K
          refine tkq 16 (some 130) (v := .bool false) rfl (Or.inl ⟨by rfl, ?_⟩) (by assumption) ?_
          · intro w hSw; (try dsimp only at hSw); go_simp; first | done | rfl
          simp only [Act.put, List.setIfInBounds_toArray, List.set_cons_zero, List.set_cons_succ]
          refine tkq 17 (some 131) (v := ?_) rfl (Or.inl ⟨by rfl, ?_⟩) (by assumption) ?_
          rotate_left
          · intro w hSw; (try dsimp only at hSw); go_simp; first | done | (with_reducible rfl)
          simp only [Act.put, List.setIfInBounds_toArray, List.set_cons_zero, List.set_cons_succ]
          refine wpAnyH_done (by kernel_rfl) ?_ _
          have fg7 : V7.frozen? ⟨g19, 1, none⟩ = false := hM7.a19.frozen 1
          have hM8a := hM7.set19 1 (.int .i64 ((a1 : Int) + (ka : Int))) (b0' := a0) (b1' := (a1 + ka)) rfl
          obtain ⟨V8, hV8⟩ : ∃ W, V7.setCell ⟨g19, 1, none⟩ (.int .i64 ((a1 : Int) + (ka : Int))) = W := ⟨_, rfl⟩
          rw [hV8] at hM8a
          clear hM7 HFD cgg cgd
          go_wp2_with fail
          clear hV8 cg7 fg7 hwr hlt0 hk0I
          obtain ⟨RQb, hRQb⟩ : ∃ R, (if a0 = N1 then F2 else []) = R := ⟨_, rfl⟩
          obtain ⟨rb, hrb⟩ : ∃ n, RQb.length = n := ⟨_, rfl⟩
          have Hrb := Lib.hid (show rb = if a0 = N1 then 11 else 0 by rw [← hrb, ← hRQb]; split; exact HM.out.f2; rfl)
          have hrb61 : rb ≤ 61 := by rw [Hrb.out]; have := HM.out.z1; have := HM.out.z2; split <;> omega
          have hclb : c1 ≤ rb := by rw [Hrb.out]; have := hJ1.ca; have := hJ1.cc; have := hJ1.n2; have := hJ1.lc1; split <;> omega
          have HO1 := tw_out hM8a.tw.swap 1
          rw [HM.out.oy1 hJ1, hRQb] at HO1
          refine HO1.mono ?_
          rintro e V5 ⟨v5, rfl, ho5, hb5⟩
          obtain ⟨A5, c5, rfl, s51, s52, s53⟩ := ho5.open_n rb hrb
          have hM5 := hM8a.below hb5
          have hA5l : A5 = none → c5 = 0 := ho5.nil_cap
          have hrow5 : RdP V5.drew (fun b => V8.heap.size ≤ b) A5 rb RQb := ((ho5.rdP hrb).mono (fun b _ e => (ho5.block_lt b e).1)).kept ((Kept.refl (fun _ => False) V5).drewN 1) (fun _ _ h => h)
          obtain ⟨kmb, hkmb⟩ : ∃ k, k = min nn (rb - c1) := ⟨_, rfl⟩
          have hmn : min (nn : Int) ((rb : Int) - (c1 : Int)) = (kmb : Int) := by omega
          obtain ⟨kb, hkb⟩ : ∃ k, k = if f = true then min nn (rb - c1) else 0 := ⟨_, rfl⟩
          have Hkb := Lib.hid hkb
          have HKMb := Lib.hid hkmb
          have hklb : kb ≤ rb - c1 := by rw [hkb]; split <;> omega
          have hk30b : kb ≤ 30 := by rw [hkb]; split <;> omega
          clear hrb hkmb hkb ho5 s53
          have cgg : V5.cell? ⟨g19 + 1, 1, none⟩ = some (.int .i64 c1) := by rw [hM5.a20.cell]; rfl
          have hk0I : (0 : Int) ≤ (kb : Int) := by omega
          go_upto_if 155 with fail
          go_cut [25, 29] from 83 to 180 (fun sg s29 wx => sg = .bool f ∧ s29 = .int .i64 kb ∧ wx = V5)
          case first =>
            go_wp2
            all_goals
              go_meet
              rename_i hb
              first
                | (have e : f = false := by simpa using hb
                   refine ⟨rfl, ?_, rfl⟩
                   rw [Hkb.out, e]
                   rfl)
                | (have e : f = true := by simpa using hb
                   refine ⟨rfl, ?_, rfl⟩
                   rw [Hkb.out, e, if_pos rfl, HKMb.out])
          case rest =>
          obtain ⟨rfl, rfl, hwc⟩ := hcut
          rw [hwc]
          clear hwc hmn HKMb
          go_wp2_with fail
          have hfy : feedX (XW c0 c1) 1 ((RQb.drop c1).take kb) = XW c0 (c1 + kb) := by rw [← hRQb]; exact HM.out.fx1 hJ1 kb (by rw [← Hrb.out]; exact hklb)
          have hJ2 := hJ1.stepD kb (by rw [← Hrb.out]; exact hklb) (by
            rcases Bool.eq_false_or_eq_true f with e | e
            · exact .inl (of_decide_eq_true (hf.trans e))
            · exact .inr (by rw [Hkb.out, if_neg (by rw [e]; simp)]))
          have hcode : (feedX (XW c0 c1) 1 ((RQb.drop c1).take kb)).code = 0 := by rw [hfy]; exact HM.out.cx hJ2
          have hbd := belowN hb5 1
          rw [show V5.drewN 1 = V5.drew from rfl] at hbd
          have hwr : IntKind.i64.wrap ((c1 : Int) + (kb : Int)) = (c1 : Int) + (kb : Int) := IntWalk.i64_in _ (by omega)
          have hlt0 : decide ((kb : Int) < 0) = false := decide_eq_false (by omega)
          have HFD := Lib.hid (mt_feedX hM8a hbd 1 _ kb (c5 - c1) _ ((hrow5.cutFrom hclb s51).cutTo hklb) (by omega) hcode)
          rw [hfy] at HFD
          have cgd : V5.drew.cell? ⟨g19 + 1, 1, none⟩ = some (.int .i64 c1) := cgg
          clear hrow5 hbd hM8a hM5 hb5 hcode hfy 
          obtain ⟨V6, hV6⟩ : ∃ W, V5.drew = W := ⟨_, rfl⟩
          refine wp_region_held_drew (S := fun W => W.cell? ⟨g19 + 1, 1, none⟩ = some (.int .i64 c1)) (by kernel_rfl) (cgd) (fun hHeld => ?_)
          rw [hV6] at cgd HFD ⊢
          have hHeld : V6.cell? ⟨g19 + 1, 1, none⟩ = some (.int .i64 c1) := cgd
          clear hV6
          refine tkq 0 (some 156) (v := ?_) rfl (Or.inl ⟨by rfl, ?_⟩) (by assumption) ?_
          rotate_left
          · intro w hSw; (try dsimp only at hSw); go_simp; first | done | (with_reducible rfl)
          simp only [Act.put, List.setIfInBounds_toArray, List.set_cons_zero, List.set_cons_succ]
          refine tkq 1 (some 157) (v := .bool false) rfl (Or.inl ⟨by rfl, ?_⟩) (by assumption) ?_
          · intro w hSw; (try dsimp only at hSw); go_simp; first | done | rfl | (rw [hlt0]) | (simp; omega)
          simp only [Act.put, List.setIfInBounds_toArray, List.set_cons_zero, List.set_cons_succ]
          refine tkq 2 (some 158) (v := ?_) rfl (Or.inl ⟨by rfl, ?_⟩) (by assumption) ?_
          rotate_left
          · intro w hSw; (try dsimp only at hSw); go_simp; first | done | (with_reducible rfl)
          simp only [Act.put, List.setIfInBounds_toArray, List.set_cons_zero, List.set_cons_succ]
          refine tkq 3 (some 159) (v := ?_) rfl (Or.inl ⟨by rfl, ?_⟩) (by assumption) ?_
          rotate_left
          · intro w hSw; (try dsimp only at hSw); go_simp; first | done | (with_reducible rfl)
          simp only [Act.put, List.setIfInBounds_toArray, List.set_cons_zero, List.set_cons_succ]
          refine tkq 4 (some 160) (v := ?_) rfl (Or.inl ⟨by rfl, ?_⟩) (by assumption) ?_
          rotate_left
          · intro w hSw; (try dsimp only at hSw); go_simp; first | done | (with_reducible rfl)
          simp only [Act.put, List.setIfInBounds_toArray, List.set_cons_zero, List.set_cons_succ]
          refine tkq 5 (some 161) (v := ?_) rfl (Or.inl ⟨by rfl, ?_⟩) (by assumption) ?_
          rotate_left
          · intro w hSw; (try dsimp only at hSw); go_simp; first | done | (with_reducible rfl)
          simp only [Act.put, List.setIfInBounds_toArray, List.set_cons_zero, List.set_cons_succ]
          refine tkq 6 (some 162) (v := ?_) rfl (Or.inl ⟨by rfl, ?_⟩) (by assumption) ?_
          rotate_left
          · intro w hSw; (try dsimp only at hSw); go_simp; first | done | (with_reducible rfl)
          simp only [Act.put, List.setIfInBounds_toArray, List.set_cons_zero, List.set_cons_succ]
          refine tkq 7 (some 163) (v := ?_) rfl (Or.inl ⟨by rfl, ?_⟩) (by assumption) ?_
          rotate_left
          · intro w hSw; (try dsimp only at hSw); go_simp; first | done | (with_reducible rfl)
          simp only [Act.put, List.setIfInBounds_toArray, List.set_cons_zero, List.set_cons_succ]
          refine tkq 8 (some 164) (v := ?_) rfl (Or.inl ⟨by rfl, ?_⟩) (by assumption) ?_
          rotate_left
          · intro w hSw; (try dsimp only at hSw); go_simp; first | done | (with_reducible rfl)
          simp only [Act.put, List.setIfInBounds_toArray, List.set_cons_zero, List.set_cons_succ]
          refine tkq 9 (some 165) (v := ?_) rfl (Or.inl ⟨by rfl, ?_⟩) (by assumption) ?_
          rotate_left
          · intro w hSw; (try dsimp only at hSw); go_simp; first | done | (with_reducible rfl)
          simp only [Act.put, List.setIfInBounds_toArray, List.set_cons_zero, List.set_cons_succ]
          refine tkq 10 (some 166) (v := ?_) rfl (Or.inl ⟨by rfl, ?_⟩) (by assumption) ?_
          rotate_left
          · intro w hSw; (try dsimp only at hSw); go_simp; first | done | (with_reducible rfl)
          simp only [Act.put, List.setIfInBounds_toArray, List.set_cons_zero, List.set_cons_succ]
          refine tkq 11 (some 167) (v := ?_) rfl (Or.inl ⟨by rfl, ?_⟩) (by assumption) ?_
          rotate_left
          · intro w hSw; (try dsimp only at hSw); go_simp; first | done | (with_reducible rfl)
          simp only [Act.put, List.setIfInBounds_toArray, List.set_cons_zero, List.set_cons_succ]
          refine tkq 12 (some 168) (v := ?_) rfl (Or.inl ⟨by rfl, ?_⟩) (by assumption) ?_
          rotate_left
          · intro w hSw; (try dsimp only at hSw); go_simp; first | done | (with_reducible rfl)
          simp only [Act.put, List.setIfInBounds_toArray, List.set_cons_zero, List.set_cons_succ]
          refine tkq 13 (some 169) (v := .int .i64 ((c1 : Int) + (kb : Int))) rfl (Or.inl ⟨by rfl, ?_⟩) (by assumption) ?_
          · intro w hSw; (try dsimp only at hSw); go_simp; first | done | rfl | (rw [hwr])
          simp only [Act.put, List.setIfInBounds_toArray, List.set_cons_zero, List.set_cons_succ]
          refine tkq 14 (some 170) (v := .slice (cutA A5 c5 c1) kb (c5 - c1)) rfl (yl_slice (.tmp 161) (.tmp 164) (.tmp 169) rfl A5 rb c5 c1 kb (by rfl) (by rfl) (by rfl) (by omega) (by rfl)) (by assumption) ?_
          simp only [Act.put, List.setIfInBounds_toArray, List.set_cons_zero, List.set_cons_succ]
          refine wpAnyH_ready (rs := [15]) (by kernel_rfl) (by simp) ?_
          refine AllReadyH.cons rfl (fun K hK => ?_) AllReadyH.nil
          go_simp
          go_wp2_with (go_at_call 20; refine HFD.out.mono ?_; rintro e V7 ⟨rfl, hM7⟩)
          have cg7 : V7.cell? ⟨g19 + 1, 1, none⟩ = some (.int .i64 c1) := by rw [hM7.a20.cell]; rfl
          refine hK.out _ _ (cg7) (fun hHeld => ?_)
          clear hK K
          refine tkq 16 (some 172) (v := .bool false) rfl (Or.inl ⟨by rfl, ?_⟩) (by assumption) ?_
          · intro w hSw; (try dsimp only at hSw); go_simp; first | done | rfl
          simp only [Act.put, List.setIfInBounds_toArray, List.set_cons_zero, List.set_cons_succ]
          refine tkq 17 (some 173) (v := ?_) rfl (Or.inl ⟨by rfl, ?_⟩) (by assumption) ?_
          rotate_left
          · intro w hSw; (try dsimp only at hSw); go_simp; first | done | (with_reducible rfl)
          simp only [Act.put, List.setIfInBounds_toArray, List.set_cons_zero, List.set_cons_succ]
          refine wpAnyH_done (by kernel_rfl) ?_ _
          have fg7 : V7.frozen? ⟨g19 + 1, 1, none⟩ = false := hM7.a20.frozen 1
          have hM12 := hM7.set20 1 (.int .i64 ((c1 : Int) + (kb : Int))) (d0' := c0) (d1' := (c1 + kb)) rfl
          obtain ⟨V8, hV8⟩ : ∃ W, V7.setCell ⟨g19 + 1, 1, none⟩ (.int .i64 ((c1 : Int) + (kb : Int))) = W := ⟨_, rfl⟩
          rw [hV8] at hM12
          clear hM7 HFD cgg cgd
          go_wp2_with fail
          go_roundw
          case rel => exact ⟨2, by omega, by go_num, Lib.hid ⟨a0, a1 + ka, c0, c1 + kb, hJ2, hM12, Pr.two hJ hP ka kb (by rw [Hka.out, Hra.out, ← hg]; simp) (by rw [Hkb.out, Hrb.out, ← hf]; simp)⟩⟩
          case measure => simp [intOf]
        · go_wp2_with fail
          go_roundw
          case rel =>
            obtain ⟨a0, a1, c0, c1, hJ, hM, hP⟩ := hst2.out
            exact ⟨k + 1, by omega, by go_num, Lib.hid ⟨a0, a1, c0, c1, hJ, hM, by
              have p1 := hP.1
              by_cases h100 : 100 ≤ k
              · by_cases h0 : 0 < r0
                · have p2 := (hP.2.2 (hn9 h100) h0).2 rfl
                  omega
                · omega
              · omega⟩⟩
          case measure => simp [intOf]; omega
    · have hk300 : k = 300 := by omega
      have hnlt : ¬ (k : Int) < 300 := by omega
      obtain ⟨a0, a1, c0, c1, hJ, hM, hrem⟩ := hst.out
      obtain ⟨e1, e2, e3, e4⟩ := hJ.fin (by omega)
      rw [e1, e2, e3, e4] at hM
      clear e1 e2 e3 e4
      have HMM := Lib.hid hM
      clear hM hJ hrem hst hlt hk hk300
      go_wp2_with fail
      go_loopw [30] (fun i wx => ∃ s : Nat, (s = 1 ∨ s = 2 ∨ s = 3) ∧ i = .int .i64 s ∧ Hid (Mt w wx px py g19 (g19 + 1) g15 L1 L2 (XW N2 11) (YW N1 11) N1 11 N2 11)) (fun i _ => 3 - (intOf i).toNat)
      case atStart => exact ⟨1, by omega, rfl, HMM⟩
      case round =>
        clear HMM
        obtain ⟨s, hs, rfl, hM⟩ := hrel
        rcases hs with rfl | rfl | rfl
        · have HS1 := tw_secret hM.out.tw 1
          rw [HM.out.sx1] at HS1
          go_wp2_with fail
          refine HS1.mono ?_
          rintro e V1 ⟨rfl, hb1⟩
          have hM1 := hM.out.below hb1
          have HS2 := tw_secret hM1.tw.swap 1
          rw [HM.out.sy1] at HS2
          clear HS1 hb1 hM
          go_wp2_with fail
          refine HS2.mono ?_
          rintro e V2 ⟨rfl, hb2⟩
          have hM2 := Lib.hid (hM1.below hb2)
          clear HS2 hb2 hM1
          go_wp2_with fail
          go_roundw
          case rel => exact ⟨2, by omega, by go_num, hM2⟩
          case measure => simp [intOf]
        · have HS1 := tw_secret hM.out.tw 2
          rw [HM.out.sx2] at HS1
          go_wp2_with fail
          refine HS1.mono ?_
          rintro e V1 ⟨rfl, hb1⟩
          have hM1 := hM.out.below hb1
          have HS2 := tw_secret hM1.tw.swap 2
          rw [HM.out.sy2] at HS2
          clear HS1 hb1 hM
          go_wp2_with fail
          refine HS2.mono ?_
          rintro e V2 ⟨rfl, hb2⟩
          have hM2 := Lib.hid (hM1.below hb2)
          clear HS2 hb2 hM1
          go_wp2_with fail
          go_roundw
          case rel => exact ⟨3, by omega, by go_num, hM2⟩
          case measure => simp [intOf]
        · have hM1 := hM.out
          clear hM
          have HT1 := tw_theirs hM1.tw
          rw [HM.out.tx, HV2.out, HM.out.gx (a0 := N1) (a1 := 11) ⟨by omega, by omega, by omega, by omega, by omega, by omega, by omega, by omega, by omega⟩, decide_eq_true rfl] at HT1
          have HT1 := Lib.hid HT1
          go_wp2_with fail
          refine HT1.out.mono ?_
          rintro e V2 ⟨rfl, hb2⟩
          have hM2 := hM1.below hb2
          clear HT1 hb2 hM1
          have hz1 : At (V2.alloc (.cells #[.int .u64 0, .int .u64 0, .int .u64 0, .int .u64 0, .int .u8 0, .int .u8 0, .int .u8 0, .int .u8 0, .int .u8 0, .int .u8 0, .int .u8 0, .int .u8 0] 26)) V2.heap.size 26 (pmL .zero) := At.new V2 26 (pmL .zero)
          have hb1 : Below V2.heap.size V2 (V2.alloc (.cells #[.int .u64 0, .int .u64 0, .int .u64 0, .int .u64 0, .int .u8 0, .int .u8 0, .int .u8 0, .int .u8 0, .int .u8 0, .int .u8 0, .int .u8 0, .int .u8 0] 26)) := (Below.refl _ _).alloc (Nat.le_refl _) _
          obtain ⟨V2a, hV2a⟩ : ∃ W, V2.alloc (.cells #[.int .u64 0, .int .u64 0, .int .u64 0, .int .u64 0, .int .u8 0, .int .u8 0, .int .u8 0, .int .u8 0, .int .u8 0, .int .u8 0, .int .u8 0, .int .u8 0] 26) = W := ⟨_, rfl⟩
          obtain ⟨q35, hq1⟩ : ∃ g, V2.heap.size = g := ⟨_, rfl⟩
          rw [hV2a, hq1] at hz1
          rw [hV2a] at hb1
          go_wp2_with (first | ((with_reducible refine at_stp2 (.tmp 35) ?_); refine st_pm _ (pmL .zero) L2 (by rfl) (by rfl) hz1 rfl Ll2.out Lo2.out ?_; intro V3 hq35 hk1; have hb2 := hk1.below hb1 hb1.size (by intro j hj; omega); have hM3 := hM2.below hb2; clear hz1 hb1 hk1 hb2 hq1 hV2a hM2) | fail)
          have HT2 := tw_theirs hM3.tw.swap
          rw [HM.out.ty, HV1.out, HM.out.gy (c0 := N2) (c1 := 11) ⟨by omega, by omega, by omega, by omega, by omega, by omega, by omega, by omega, by omega⟩, decide_eq_true rfl] at HT2
          refine HT2.mono ?_
          rintro e V4 ⟨rfl, hb4⟩
          have hM4 := hM3.below hb4
          have hq35 := hq35.below hb4 hq35.lt
          clear HT2 hb4 hM3
          have hz3 : At (V4.alloc (.cells #[.int .u64 0, .int .u64 0, .int .u64 0, .int .u64 0, .int .u8 0, .int .u8 0, .int .u8 0, .int .u8 0, .int .u8 0, .int .u8 0, .int .u8 0, .int .u8 0] 26)) V4.heap.size 26 (pmL .zero) := At.new V4 26 (pmL .zero)
          have hb3 : Below V4.heap.size V4 (V4.alloc (.cells #[.int .u64 0, .int .u64 0, .int .u64 0, .int .u64 0, .int .u8 0, .int .u8 0, .int .u8 0, .int .u8 0, .int .u8 0, .int .u8 0, .int .u8 0, .int .u8 0] 26)) := (Below.refl _ _).alloc (Nat.le_refl _) _
          obtain ⟨V4a, hV4a⟩ : ∃ W, V4.alloc (.cells #[.int .u64 0, .int .u64 0, .int .u64 0, .int .u64 0, .int .u8 0, .int .u8 0, .int .u8 0, .int .u8 0, .int .u8 0, .int .u8 0, .int .u8 0, .int .u8 0] 26) = W := ⟨_, rfl⟩
          obtain ⟨q37, hq3⟩ : ∃ g, V4.heap.size = g := ⟨_, rfl⟩
          rw [hV4a, hq3] at hz3
          rw [hV4a] at hb3
          go_wp2_with (first | ((with_reducible refine at_stp2 (.tmp 37) ?_); refine st_pm _ (pmL .zero) L1 (by rfl) (by rfl) hz3 rfl Ll1.out Lo1.out ?_; intro V5 hq37 hk3; have hb4 := hk3.below hb3 hb3.size (by intro j hj; omega); have hM5 := hM4.below hb4; have hq35b := hq35.below hb4 hq35.lt; clear hz3 hb3 hk3 hb4 hq3 hV4a hM4 hq35) | fail)
          have HD1 := tw_done hM5.tw
          rw [HM.out.dx] at HD1
          have HD1 := Lib.hid HD1
          have HD2 := tw_done hM5.tw.swap
          rw [HM.out.dy] at HD2
          have HD2 := Lib.hid HD2
          go_wp2_with fail
          refine HD1.out.mono ?_
          rintro e w' ⟨rfl, e2⟩
          rw [e2]
          clear e2
          go_wp2_with (first | (go_at_call 9; refine HD2.out.mono ?_; rintro e w' ⟨rfl, e2⟩; rw [e2]; clear e2) | ((with_reducible refine at_ldp (x := .tmp 35) ?_); refine ld_pm_g (by go_simp) q35 0 L2 (by rfl) hq35b.rangeAt Ll2.out ?_) | ((with_reducible refine at_ldp (x := .tmp 37) ?_); refine ld_pm_g (by go_simp) q37 0 L1 (by rfl) hq37.rangeAt Ll1.out ?_) | ((with_reducible refine at_ldp (x := .tmp 15) ?_); refine ld_pm_g (by go_simp) g15 0 L1 (by rfl) hM5.p1.rangeAt Ll1.out ?_) | ((with_reducible refine at_ldp (x := .tmp 16) ?_); refine ld_pm_g (by go_simp) (g15 + 1) 0 L2 (by rfl) hM5.p2.rangeAt Ll2.out ?_) | ((with_reducible refine at_eqp (x := .tmp 231) ?_); refine wpList_eql_agg (by go_simp) _ _ _ _ rfl L2.toArray L2.toArray (by rfl) (by rfl) pm_guard true (HPM2.out _) ?_) | ((with_reducible refine at_eqp (x := .tmp 236) ?_); refine wpList_eql_agg (by go_simp) _ _ _ _ rfl L1.toArray L1.toArray (by rfl) (by rfl) pm_guard true (HPM1.out _) ?_) | (go_at_call 22; refine (HR6.out _).mono ?_; rintro e V9 ⟨rfl, hb9⟩; have hM9 := hM5.below hb9) | (go_at_call 12; refine (known19_any V9).mono ?_; rintro e V99 ⟨rfl, hb99⟩; have hM99 := hM9.below hb99) | fail)
          go_ret
          exact ⟨rfl, hM99.tw.bl⟩
end Go.Proofs.Ytdakbedohjemeaa
