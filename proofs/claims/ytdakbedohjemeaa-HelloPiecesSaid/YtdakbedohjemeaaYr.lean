/-
  HelloPieces: bytes that are fed in pieces are as bytes that are fed at once.
-/
import Derived.Test.YtdakbedohjemeaaMq17
import Derived.Test.YtdakbedohjemeaaPu
import Derived.Test.YtdakbedohjemeaaMq11
import Derived.Deep.Cut
import Derived.Deep.CutRange
namespace Go.Proofs.Ytdakbedohjemeaa
set_option linter.unusedVariables false
set_option linter.unusedSimpArgs false
open Go.RowKit Go.ChangeShapes Go.WideShapes Go.Deep
theorem pencS_ge (p : PN) : 10 ≤ (pencS p).length := by
  have h1 : (putS 0).length = 1 := rfl
  have h2 : (textB p.c.l).length = 9 := rfl
  unfold pencS
  simp only [List.length_append, h1, h2]
  omega
theorem helS_ge (m : N8) (p : PN) : 21 ≤ (helS m p).length := by
  unfold helS
  rw [msgS_len, List.length_append]
  have := pencS_ge p
  have : m.l.length = 8 := rfl
  omega
theorem RdP.blocks {W W' : World} {P : Nat → Prop} {A : Option Addr} {n : Nat} {bs : List Int} (h : RdP W P A n bs) (hs : W.heap.size ≤ W'.heap.size) (k : ∀ b, P b → W'.heap[b]? = W.heap[b]?) : RdP W' P A n bs := by
  obtain ⟨⟨h1, h2, h3⟩, h4⟩ := h
  refine ⟨⟨h1, h2, fun hp => ?_⟩, h4⟩
  obtain ⟨b, off, e, hb, hc⟩ := h3 hp
  exact ⟨b, off, e, Nat.lt_of_lt_of_le hb hs, fun i hi => (World.cell?_of_block (k b (h4 b off hp e))).trans (hc i hi)⟩
theorem yl_eqpm {ops : Array Oper} {S : World → Prop} {o : Oper} {a : Act} (x y : Operand) (ty : TypeId) (ho : o.op = .binOp .eql 26 x y ty) (L : List Value) (HL : Hid (∀ W, (Op.equalIn 10000 26 (.agg L.toArray) (.agg L.toArray)).run Try.prog W = .ok true W)) (hx : a.eval x = .agg L.toArray) (hy : a.eval y = .agg L.toArray)
    (hw : Region.wanted o (yielded ops a.tmps) = true) : YieldsIf Try.prog ops S o (.bool true) a := by
  refine .inl ⟨hw, fun w _ => ?_⟩
  have h1 := run_eqGuard_agg (P := Try.prog) w .eql 26 x y L.toArray L.toArray pm_guard
  have h2 := run_eql_struct (P := Try.prog) w 26 L.toArray L.toArray
  rw [HL.out w] at h2
  unfold execOp
  simp only [ho, hx, hy, Sem.run_bind, h1, h2, Result.andThen_ok]
  rfl
section
variable {ops : Array Oper} {rest : List Oper} {a : Act} {w : World} {Q : Exit → Act → World → Prop} {dst : Option Tmp} {x y : Operand} {t : TypeId} {pos : String} {after : Array Edge}
theorem at_stp_ {g : Option (Nat × Bool)} (x : Operand) (h : wpList Try.prog ops Q (⟨dst, .store 26 x y, t, pos, after, g⟩ :: rest) a w) : wpList Try.prog ops Q (⟨dst, .store 26 x y, t, pos, after, g⟩ :: rest) a w := h
end
set_option maxRecDepth 100000 in
set_option maxHeartbeats 8000000 in
theorem hpieces_law (psk r a b c d cut turn bit : Int) (w : World) (hp : (Lit.int .u64 psk).wf = true) (hr : (Lit.int .u64 r).wf = true) (ha : (Lit.int .u64 a).wf = true) (hb : (Lit.int .u64 b).wf = true) (hc : (Lit.int .u64 c).wf = true) (hd : (Lit.int .u64 d).wf = true) (hcut : (Lit.int .i64 cut).wf = true) (hturn : (Lit.int .i64 turn).wf = true) (hbit : (Lit.int .u8 bit).wf = true) :
    Calls Try.prog 5 #[.int .u64 psk, .int .u64 r, .int .u64 a, .int .u64 b, .int .u64 c, .int .u64 d, .int .i64 cut, .int .i64 turn, .int .u8 bit] w fun e w'' => e = .returned (.bool true) ∧ Below w.heap.size w w'' := by
  obtain ⟨i0, hi, hz0, hz1, hz2⟩ := info_parts u8_info
  have bp := bounds_u64 hp
  have br := bounds_u64 hr
  have ba := bounds_u64 ha
  have bb := bounds_u64 hb
  have bc := bounds_u64 hc
  have bd := bounds_u64 hd
  have bcut := bounds_i64 hcut
  have bturn := bounds_i64 hturn
  have bbit := bounds_u8 hbit
  have HP1 := Lib.hid (fun W => kparams_any a b c d 1 W (by omega) (by omega) (by omega) (by omega) (by omega) (by omega))
  have HP2 := Lib.hid (fun W => kparams_any d a c b 2 W (by omega) (by omega) (by omega) (by omega) (by omega) (by omega))
  have rw1 := kpS_right a b c d 1
  have rw2 := kpS_right d a c b 2
  have wf1 := kpS_wf a b c d 1
  have wf2 := kpS_wf d a c b 2
  generalize kpS a b c d 1 = P1 at *
  generalize kpS d a c b 2 = P2 at *
  obtain ⟨r1, hr1⟩ : ∃ x, IntKind.u64.wrap (r + 1) = x := ⟨_, rfl⟩
  have br1 : 0 ≤ r1 ∧ r1 < 18446744073709551616 := by rw [← hr1]; exact u64_wrap_bd _
  have HRN := Lib.hid (fun W => random_any r W (by omega) (by omega))
  have HRM := Lib.hid (fun W => random_any r1 W br1.1 br1.2)
  have HAS := Lib.hid (fun W => h_ask psk (rndS r) P1 W (rndS_byt r) wf1 rw1 (by omega) (by omega))
  have HAN := Lib.hid (fun W => h_answer psk (rndS r1) P2 W (rndS_byt r1) wf2 rw2 (by omega) (by omega))
  have hol := helS_len (rndS r) P1
  have hog := helS_ge (rndS r) P1
  have HXO := Lib.hid (show outS (hs0 true psk (rndS r) P1) 0 = helS (rndS r) P1 from rfl)
  have okx := hs0_ok true psk (rndS r) P1 (by omega) (by omega)
  have oky := hs0_ok false psk (rndS r1) P2 (by omega) (by omega)
  generalize hs0 true psk (rndS r) P1 = X0 at *
  generalize hs0 false psk (rndS r1) P2 = Y0 at *
  generalize rndS r = N0 at *
  generalize rndS r1 = N1 at *
  obtain ⟨L1, hL1⟩ : ∃ L, pmL P1 = L := ⟨_, rfl⟩
  obtain ⟨L2, hL2⟩ : ∃ L, pmL P2 = L := ⟨_, rfl⟩
  have hv1 : pmV P1 = .agg L1.toArray := by rw [← hL1]; rfl
  have hv2 : pmV P2 = .agg L2.toArray := by rw [← hL2]; rfl
  have l1 : L1.length = 12 := by rw [← hL1]; rfl
  have l2 : L2.length = 12 := by rw [← hL2]; rfl
  have o1 : L1.all (·.oneCell') = true := by rw [← hL1]; rfl
  have o2 : L2.all (·.oneCell') = true := by rw [← hL2]; rfl
  rw [hv1] at HP1 HAS
  rw [hv2] at HP2 HAN
  have Ll1 := Lib.hid l1
  have Ll2 := Lib.hid l2
  have Lo1 := Lib.hid o1
  have Lo2 := Lib.hid o2
  generalize helS N0 P1 = HX at *
  obtain ⟨N, hN⟩ : ∃ n, HX.length = n := ⟨_, rfl⟩
  have HN := Lib.hid hN
  rw [hN] at hol hog
  clear hp hr ha hb hc hd hcut hturn hbit ba bb bc bd rw1 rw2 wf1 wf2 hL1 hL2 hv1 hv2 l1 l2 o1 o2 hN
  have HRW := Lib.hid hr1
  clear hr1
  go_enter Try.func5, Try.ntmps5
  go_wp2_with fail
  refine (HP1.out _).mono ?_
  rintro e w1 ⟨rfl, hb1⟩
  go_wp2_with fail
  refine (HP2.out _).mono ?_
  rintro e w2 ⟨rfl, hb2⟩
  have hB2 := hb1.trans (hb2.mono hb1.size)
  have hA19 : At ((w2.alloc (.cells #[.int .u64 0, .int .u64 0, .int .u64 0, .int .u64 0, .int .u8 0, .int .u8 0, .int .u8 0, .int .u8 0, .int .u8 0, .int .u8 0, .int .u8 0, .int .u8 0] 26)).alloc (.cells #[.int .u64 0, .int .u64 0, .int .u64 0, .int .u64 0, .int .u8 0, .int .u8 0, .int .u8 0, .int .u8 0, .int .u8 0, .int .u8 0, .int .u8 0, .int .u8 0] 26)) w2.heap.size 26 (pmL .zero) := (At.new w2 26 (pmL .zero)).alloc _
  have hA20 : At ((w2.alloc (.cells #[.int .u64 0, .int .u64 0, .int .u64 0, .int .u64 0, .int .u8 0, .int .u8 0, .int .u8 0, .int .u8 0, .int .u8 0, .int .u8 0, .int .u8 0, .int .u8 0] 26)).alloc (.cells #[.int .u64 0, .int .u64 0, .int .u64 0, .int .u64 0, .int .u8 0, .int .u8 0, .int .u8 0, .int .u8 0, .int .u8 0, .int .u8 0, .int .u8 0, .int .u8 0] 26)) (w2.heap.size + 1) 26 (pmL .zero) := At.new_ 26 (pmL .zero) _ (by simp)
  have hB3 : Below w.heap.size w ((w2.alloc (.cells #[.int .u64 0, .int .u64 0, .int .u64 0, .int .u64 0, .int .u8 0, .int .u8 0, .int .u8 0, .int .u8 0, .int .u8 0, .int .u8 0, .int .u8 0, .int .u8 0] 26)).alloc (.cells #[.int .u64 0, .int .u64 0, .int .u64 0, .int .u64 0, .int .u8 0, .int .u8 0, .int .u8 0, .int .u8 0, .int .u8 0, .int .u8 0, .int .u8 0, .int .u8 0] 26)) := (hB2.alloc hB2.size _).alloc (by have := hB2.size; simp; omega) _
  have hs2 := hB2.size
  clear hb1 hb2 hB2
  go_wp2_with (first | ((with_reducible refine at_stp_ (.tmp 19) ?_); refine st_pm _ (pmL .zero) L1 (by rfl) (by rfl) hA19 rfl Ll1.out Lo1.out ?_; intro w4 hA19' hk4; have hA20' := hA20.kept hk4 (by omega); have hB4 := hk4.below hB3 hB3.size (by intro j hj; omega)) | ((with_reducible refine at_stp_ (.tmp 20) ?_); refine st_pm _ (pmL .zero) L2 (by rfl) (by rfl) hA20' rfl Ll2.out Lo2.out ?_; intro w5 hA20'' hk5; have hA19'' := hA19'.kept hk5 (by omega); have hB5 := hk5.below hB4 hB4.size (by intro j hj; omega)) | fail)
  obtain ⟨g19, hg19⟩ : ∃ g, w2.heap.size = g := ⟨_, rfl⟩
  rw [hg19] at hA19'' hA20'' hs2 ⊢
  have hgw : w.heap.size ≤ g19 := hs2
  clear hA19 hA20 hB3 hA19' hA20' hk4 hk5 hB4 hs2
  have hA19 := hA19''.drewN 1
  have hA20 := hA20''.drewN 1
  have hB6 := belowN hB5 1
  rw [show w5.drewN 1 = w5.drew from rfl] at hA19 hA20 hB6
  clear hA19'' hA20'' hB5
  obtain ⟨W0, hW0⟩ : ∃ W, w5.drew = W := ⟨_, rfl⟩
  refine wp_region_held_drew (S := fun W => W.rangeAt g19 0 L1 ∧ W.rangeAt (g19 + 1) 0 L2) (by kernel_rfl) (⟨hA19.rangeAt, hA20.rangeAt⟩) (fun hHeld => ?_)
  rw [hW0] at hA19 hA20 hB6 ⊢
  have hB0s := hB6.size
  have hHeld : W0.rangeAt g19 0 L1 ∧ W0.rangeAt (g19 + 1) 0 L2 := ⟨hA19.rangeAt, hA20.rangeAt⟩
  clear hW0
  refine tkq 0 (some 47) (v := ?_) rfl (Or.inl ⟨by rfl, ?_⟩) (by assumption) ?_
  rotate_left
  · intro w hSw; (try dsimp only at hSw); go_simp; first | done | (with_reducible rfl)
  simp only [Act.put, List.setIfInBounds_toArray, List.set_cons_zero, List.set_cons_succ]
  refine tkq 1 (some 48) (v := ?_) rfl (Or.inl ⟨by rfl, ?_⟩) (by assumption) ?_
  rotate_left
  · intro w hSw; (try dsimp only at hSw); go_simp; first | done | (with_reducible rfl)
  simp only [Act.put, List.setIfInBounds_toArray, List.set_cons_zero, List.set_cons_succ]
  refine tkq 3 (some 50) (v := .agg L1.toArray) rfl (yl_any 26 (.tmp 19) rfl (g19) 0 (by rfl) L1 _ (fun W hW => hW.1) Try.underlying26 rfl (by rw [Ll1.out]; exact pm_info) (by rfl)) (by assumption) ?_
  simp only [Act.put, List.setIfInBounds_toArray, List.set_cons_zero, List.set_cons_succ]
  refine tkq 5 (some 52) (v := ?_) rfl (Or.inl ⟨by rfl, ?_⟩) (by assumption) ?_
  rotate_left
  · intro w hSw; (try dsimp only at hSw); go_simp; first | done | (with_reducible rfl)
  simp only [Act.put, List.setIfInBounds_toArray, List.set_cons_zero, List.set_cons_succ]
  refine tkq 6 (some 53) (v := ?_) rfl (Or.inl ⟨by rfl, ?_⟩) (by assumption) ?_
  rotate_left
  · intro w hSw; (try dsimp only at hSw); go_simp; first | done | (with_reducible rfl)
  simp only [Act.put, List.setIfInBounds_toArray, List.set_cons_zero, List.set_cons_succ]
  refine tkq 7 (some 54) (v := .int .u64 r1) rfl (Or.inl ⟨by rfl, ?_⟩) (by assumption) ?_
  · intro w hSw; (try dsimp only at hSw); (try go_simp); rw [← HRW.out]; first | done | rfl
  simp only [Act.put, List.setIfInBounds_toArray, List.set_cons_zero, List.set_cons_succ]
  refine tkq 9 (some 56) (v := .agg L2.toArray) rfl (yl_any 26 (.tmp 20) rfl (g19 + 1) 0 (by rfl) L2 _ (fun W hW => hW.2) Try.underlying26 rfl (by rw [Ll2.out]; exact pm_info) (by rfl)) (by assumption) ?_
  simp only [Act.put, List.setIfInBounds_toArray, List.set_cons_zero, List.set_cons_succ]
  refine tkq 11 (some 58) (v := ?_) rfl (Or.inl ⟨by rfl, ?_⟩) (by assumption) ?_
  rotate_left
  · intro w hSw; (try dsimp only at hSw); go_simp; first | done | (with_reducible rfl)
  simp only [Act.put, List.setIfInBounds_toArray, List.set_cons_zero, List.set_cons_succ]
  refine tkq 12 (some 59) (v := ?_) rfl (Or.inl ⟨by rfl, ?_⟩) (by assumption) ?_
  rotate_left
  · intro w hSw; (try dsimp only at hSw); go_simp; first | done | (with_reducible rfl)
  simp only [Act.put, List.setIfInBounds_toArray, List.set_cons_zero, List.set_cons_succ]
  refine tkq 13 (some 60) (v := .int .u64 r1) rfl (Or.inl ⟨by rfl, ?_⟩) (by assumption) ?_
  · intro w hSw; (try dsimp only at hSw); (try go_simp); rw [← HRW.out]; first | done | rfl
  simp only [Act.put, List.setIfInBounds_toArray, List.set_cons_zero, List.set_cons_succ]
  refine tkq 15 (some 62) (v := .agg L2.toArray) rfl (yl_any 26 (.tmp 20) rfl (g19 + 1) 0 (by rfl) L2 _ (fun W hW => hW.2) Try.underlying26 rfl (by rw [Ll2.out]; exact pm_info) (by rfl)) (by assumption) ?_
  simp only [Act.put, List.setIfInBounds_toArray, List.set_cons_zero, List.set_cons_succ]
  refine wpAnyH_ready (rs := [2]) (by kernel_rfl) (by simp) ?_
  refine AllReadyH.cons rfl (fun K hK => ?_) AllReadyH.nil
  go_simp
  go_wp2_with (go_at_call 15; refine (HRN.out W0).mono ?_; rintro e W1 ⟨rfl, hb1⟩)
  have hA19 := hA19.below hb1 hA19.lt
  have hA20 := hA20.below hb1 hA20.lt
  have hB6 := hB6.trans (hb1.mono hB6.size)
  refine hK.out _ _ (⟨hA19.rangeAt, hA20.rangeAt⟩) (fun hHeld => ?_)
  clear hK K
  refine wpAnyH_ready (rs := [4]) (by kernel_rfl) (by simp) ?_
  refine AllReadyH.cons rfl (fun K hK => ?_) AllReadyH.nil
  go_simp
  go_wp2_with (go_at_call 14; refine (HAS.out W1).mono ?_; rintro e W2 ⟨px, rfl, ⟨Ox, hmx⟩, hb2⟩)
  have hA19 := hA19.below hb2 hA19.lt
  have hA20 := hA20.below hb2 hA20.lt
  have hB6 := hB6.trans (hb2.mono hB6.size)
  refine hK.out _ _ (⟨hA19.rangeAt, hA20.rangeAt⟩) (fun hHeld => ?_)
  clear hK K
  refine wpAnyH_ready (rs := [8]) (by kernel_rfl) (by simp) ?_
  refine AllReadyH.cons rfl (fun K hK => ?_) AllReadyH.nil
  go_simp
  go_wp2_with (go_at_call 15; refine (HRM.out W2).mono ?_; rintro e W3 ⟨rfl, hb3⟩)
  have hA19 := hA19.below hb3 hA19.lt
  have hA20 := hA20.below hb3 hA20.lt
  have hB6 := hB6.trans (hb3.mono hB6.size)
  have hmx := hmx.below hb3
  refine hK.out _ _ (⟨hA19.rangeAt, hA20.rangeAt⟩) (fun hHeld => ?_)
  clear hK K
  refine wpAnyH_ready (rs := [10]) (by kernel_rfl) (by simp) ?_
  refine AllReadyH.cons rfl (fun K hK => ?_) AllReadyH.nil
  go_simp
  go_wp2_with (go_at_call 16; refine (HAN.out W3).mono ?_; rintro e W4 ⟨py, rfl, ⟨Oy, hmy⟩, hb4⟩)
  have hA19 := hA19.below hb4 hA19.lt
  have hA20 := hA20.below hb4 hA20.lt
  have hB6 := hB6.trans (hb4.mono hB6.size)
  have hmx := hmx.below hb4
  refine hK.out _ _ (⟨hA19.rangeAt, hA20.rangeAt⟩) (fun hHeld => ?_)
  clear hK K
  refine wpAnyH_ready (rs := [14]) (by kernel_rfl) (by simp) ?_
  refine AllReadyH.cons rfl (fun K hK => ?_) AllReadyH.nil
  go_simp
  go_wp2_with (go_at_call 15; refine (HRM.out W4).mono ?_; rintro e W5 ⟨rfl, hb5⟩)
  have hA19 := hA19.below hb5 hA19.lt
  have hA20 := hA20.below hb5 hA20.lt
  have hB6 := hB6.trans (hb5.mono hB6.size)
  have hmx := hmx.below hb5
  have hmy := hmy.below hb5
  refine hK.out _ _ (⟨hA19.rangeAt, hA20.rangeAt⟩) (fun hHeld => ?_)
  clear hK K
  refine wpAnyH_ready (rs := [16]) (by kernel_rfl) (by simp) ?_
  refine AllReadyH.cons rfl (fun K hK => ?_) AllReadyH.nil
  go_simp
  go_wp2_with (go_at_call 16; refine (HAN.out W5).mono ?_; rintro e W6 ⟨pz, rfl, ⟨Oz, hmz⟩, hb6⟩)
  have hA19 := hA19.below hb6 hA19.lt
  have hA20 := hA20.below hb6 hA20.lt
  have hB6 := hB6.trans (hb6.mono hB6.size)
  have hmx := hmx.below hb6
  refine hK.out _ _ (⟨hA19.rangeAt, hA20.rangeAt⟩) (fun hHeld => ?_)
  clear hK K
  refine tkq 17 (some 21) (v := ?_) rfl (Or.inl ⟨by rfl, ?_⟩) (by assumption) ?_
  rotate_left
  · intro w hSw; (try dsimp only at hSw); go_simp; first | done | (with_reducible rfl)
  simp only [Act.put, List.setIfInBounds_toArray, List.set_cons_zero, List.set_cons_succ]
  refine tkq 18 (some 22) (v := ?_) rfl (Or.inl ⟨by rfl, ?_⟩) (by assumption) ?_
  rotate_left
  · intro w hSw; (try dsimp only at hSw); go_simp; first | done | (with_reducible rfl)
  simp only [Act.put, List.setIfInBounds_toArray, List.set_cons_zero, List.set_cons_succ]
  refine tkq 19 (some 23) (v := ?_) rfl (Or.inl ⟨by rfl, ?_⟩) (by assumption) ?_
  rotate_left
  · intro w hSw; (try dsimp only at hSw); go_simp; first | done | (with_reducible rfl)
  simp only [Act.put, List.setIfInBounds_toArray, List.set_cons_zero, List.set_cons_succ]
  refine wpAnyH_done (by kernel_rfl) ?_ _
  have HT : Tw w W6 py pz Y0 Y0 (fun b => b < W3.heap.size) := tw_of oky oky (M := W3.heap.size) hmy (by have h := (hmx.lt px (hmx.own)).1; have := hb3.size; have := hb2.size; have := hb1.size; have := hB0s; omega) hb6 hmz hB6 (fun b hb => hb)
  clear hmy hmz hb1 hb2 hb3 hb4 hb5 hb6 hA19 hA20
  clear HRN HRM HAS HAN Ll1 Ll2 Lo1 Lo2 HRW
  have HB6s := HT.bl.size
  have ba7 : Below W6.heap.size W6 (W6.alloc (.cells #[] 5)) := (Below.refl _ _).alloc (Nat.le_refl _) _
  have hx7 := hmx.below ba7
  have ho7 : Own (W6.alloc (.cells #[] 5)) W6.heap.size 5 (.slice (some ⟨W6.heap.size, 0, none⟩) 0 0) [] := Own.of_block (n := 0) (cap := 0) Byt.nil rfl (heap_alloc_new W6 _) (Nat.le_refl _) (Nat.le_refl _) (Nat.zero_le _) rfl rfl
  obtain ⟨g7, hg7⟩ : ∃ g, W6.heap.size = g := ⟨_, rfl⟩
  have hba : Below g7 W6 (W6.alloc (.cells #[] 5)) := hg7 ▸ ba7
  have hsa : g7 ≤ (W6.alloc (.cells #[] 5)).heap.size := hg7 ▸ ba7.size
  obtain ⟨W7, hW7⟩ : ∃ W, W6.alloc (.cells #[] 5) = W := ⟨_, rfl⟩
  rw [hW7] at hx7 ho7 hba hsa
  rw [hg7] at ho7
  have HO := Lib.hid (h_out hx7 okx 0)
  rw [HXO.out] at HO
  clear ba7 hx7
  go_wp2_with fail
  refine HO.out.mono ?_
  rintro e W8 ⟨v8, rfl, ho8, hb8⟩
  obtain ⟨A8, c8, rfl, s1, s2, s3⟩ := ho8.open_n N HN.out
  have hba8 := hba.trans (hb8.mono hsa)
  have hs8 := hb8.size
  have ho8' := ho7.below hb8 (Nat.le_refl _)
  clear ho8 ho7 hb8 hba hW7 hmx
  go_wp2_with (first | (at_builtin; refine wpList_append_rd rfl (.tmp 74) (.tmp 76) 31 rfl g7 5 i0 Try.underlying31 hi hz0 hz1 hz2 _ [] rfl ho8' W8.heap.size A8 N c8 HX rfl s3 (by simp; omega) W8 (Below.refl _ _) (by omega) ?_; intro v9 W9 ho9 hb9 hgr9; have ho9 := ho9.cast (List.nil_append _); have hHX := HN.out; obtain ⟨g, c, l, rfl, hAm, hll, htk, hbg, hnc, hcm⟩ := ho9.place (by omega); have hby := ho9.byt; rw [hHX] at hnc ⊢; clear hHX ho9 hgr9) | fail)
  have HB9 : Below W6.heap.size W6 W9 := hg7 ▸ hba8.trans hb9
  have hglt := hAm.lt
  have HTF : Tw w W9 py pz Y0 Y0 (fun b => b = g) := HT.fresh HB9 (fun b e => .inr ⟨by rw [hg7, e]; exact hbg, by rw [e]; exact hglt⟩)
  have hgw7 : w.heap.size ≤ g := by omega
  clear HT HB9 hba8 hb9 ho8' s1 s2 s3 hg7 hs8 hsa
  obtain ⟨j, hwj, hjN⟩ : ∃ j : Nat, withinS turn 0 ((N : Int) - 1) = j ∧ j < N := by
    have h := withinS_bd turn 0 ((N : Int) - 1) (by omega)
    exact ⟨(withinS turn 0 ((N : Int) - 1)).toNat, by omega, by omega⟩
  obtain ⟨k, hwk, hkN⟩ : ∃ k : Nat, withinS cut 0 (N : Int) = k ∧ k ≤ N := by
    have h := withinS_bd cut 0 (N : Int) (by omega)
    exact ⟨(withinS cut 0 (N : Int)).toNat, by omega, by omega⟩
  have HW1 := Lib.hid (fun W => within_any turn 0 ((N : Int) - 1) W bturn.1 bturn.2 (by omega) (by omega) (by omega))
  have HW2 := Lib.hid (fun W => within_any cut 0 (N : Int) W bcut.1 bcut.2 (by omega) (by omega) (by omega))
  rw [hwj] at HW1
  rw [hwk] at HW2
  obtain ⟨xi, hxi⟩ : ∃ x, HX[j]? = some x := ⟨_, List.getElem?_eq_getElem (by rw [HN.out]; exact hjN)⟩
  have hxb := hby xi (List.mem_of_getElem? hxi)
  obtain ⟨z0, z1⟩ := b_xor xi bit hxb.1 hxb.2 (by omega) (by omega)
  obtain ⟨Z, hZ⟩ : ∃ z, bits BinOp.xor IntKind.u8 xi bit = z := ⟨_, rfl⟩
  rw [hZ] at z0 z1
  have y0 := place_cell hAm htk j xi hxi
  have fy := hAm.frozen j
  have hwrap : IntKind.i64.wrap ((N : Int) - 1) = (N : Int) - 1 := IntWalk.i64_in _ (by omega)
  have hYo := place_set hAm hll htk hby hbg (by rw [HN.out]; exact hnc) hcm j Z ⟨z0, z1⟩
  rw [HN.out] at hYo
  have HT10 := HTF.set (b := g) rfl hgw7 j (.int .u8 Z)
  obtain ⟨W10, hW10⟩ : ∃ W, W9.setCell ⟨g, j, none⟩ (.int .u8 Z) = W := ⟨_, rfl⟩
  rw [hW10] at hYo HT10
  have hMl : (HX.set j Z).length = N := by rw [List.length_set, HN.out]
  generalize HX.set j Z = M at *
  have HRD : RdP W10 (fun b => b = g) (some ⟨g, 0, none⟩) N M := (hYo.rdP hMl).mono (fun b _ e => by injection e with e; exact e.symm)
  have hcm2 := hcm
  unfold maxLen at hcm2
  have hj0 : (0 : Int) ≤ (j : Int) := by omega
  have hjl : (j : Int) < (N : Int) := by omega
  have hk0 : (0 : Int) ≤ (k : Int) := by omega
  have hkl : (k : Int) ≤ (N : Int) := by omega
  have hncI : (N : Int) ≤ (c : Int) := by omega
  clear hwj hwk hxi hxb z0 z1 hAm hll htk hby hbg HTF hYo hMl
  go_wp2_with fail
  refine (HW1.out _).mono ?_
  rintro e w' ⟨rfl, e2⟩
  rw [← e2]
  clear e2
  go_wp2_with fail
  refine (HW2.out _).mono ?_
  rintro e w' ⟨rfl, e2⟩
  rw [← e2]
  clear e2 y0 fy hwrap hW10 hZ
  go_wp2_with fail
  refine (tw_feed HT10 (Below.refl _ _) 0 _ N c M (HRD.mono fun b _ h => .inl h) (by omega)).mono ?_
  rintro e W11 ⟨rfl, HT11, kb11, ks11⟩
  have HRD11 := HRD.blocks ks11 kb11
  clear HT10 HRD kb11 ks11
  have HCK : feedX (feedX Y0 0 (M.take k)) 0 (M.drop k) = feedX Y0 0 M := by rw [← feedX_app, List.take_append_drop]
  have HCL : (feedX Y0 0 (M.take k)).code ≠ 0 → (feedX Y0 0 (M.take k)).code = (feedX Y0 0 M).code := fun h => by rw [← HCK, feedX_closed h]
  have HCK := Lib.hid HCK
  generalize hY1 : feedX Y0 0 M = Y1 at *
  generalize hY2 : feedX Y0 0 (M.take k) = Y2 at *
  clear hY1
  go_wp2_with fail
  refine (tw_feed HT11.swap (Below.refl _ _) 0 _ k c (M.take k) ((HRD11.cutTo hkN).mono fun b _ h => .inl h) (by omega)).mono ?_
  rintro e W12 ⟨rfl, HT12, kb12, ks12⟩
  rw [hY2] at HT12 ⊢
  have HRD12 := HRD11.blocks ks12 kb12
  clear HT11 HRD11 kb12 ks12 hY2
  have HCL := Lib.hid HCL
  go_upto_region 12 with fail
  go_cut [28] from 104 to 108 (fun s28 wx => s28 = .int .i64 Y1.code ∧ Hid (Tw w wx pz py Y1 Y1 (fun b => b = g)))
  case first =>
    by_cases hck : c = k
    · obtain rfl : N = c := by omega
      subst hck
      have HRX := HRD12.cutFrom (c := N) (Nat.le_refl _) (Nat.le_refl _)
      rw [show cutA (some (⟨g, 0, none⟩ : Addr)) N N = some ⟨g, 0, none⟩ by simp [cutA], Nat.sub_self] at HRX
      go_wp2_with fail
      refine (tw_feed HT12 (Below.refl _ _) 0 _ 0 0 (M.drop N) (HRX.mono fun b _ h => .inl h) (by omega)).mono ?_
      rintro e W13 ⟨rfl, HT13, _, _⟩
      rw [HCK.out] at HT13
      rw [HCK.out]
      have HH := Lib.hid HT13
      clear HT13 HRX
      go_wp2
      go_meet
      exact ⟨rfl, HH⟩
    · have hckI : ¬ (c : Int) = (k : Int) := by omega
      have HRX := HRD12.cutFrom (c := c) hkN hnc
      rw [show cutA (some (⟨g, 0, none⟩ : Addr)) c k = some ⟨g, k, none⟩ by unfold cutA; rw [if_neg hck]; show some ((⟨g, 0, none⟩ : Addr).add k) = _; rw [addr_add]; simp] at HRX
      go_wp2_with fail
      refine (tw_feed HT12 (Below.refl _ _) 0 _ (N - k) (c - k) (M.drop k) (HRX.mono fun b _ h => .inl h) (by omega)).mono ?_
      rintro e W13 ⟨rfl, HT13, _, _⟩
      rw [HCK.out] at HT13
      rw [HCK.out]
      have HH := Lib.hid HT13
      clear HT13 HRX
      go_wp2
      go_meet
      exact ⟨rfl, HH⟩
  case rest =>
  obtain ⟨rfl, hcut⟩ := hcut
  have HT13 := hcut.out
  clear hcut HT12 HRD12 HCK
  go_upto_region 13 with fail
  go_cut [120] from 109 to 120 (fun s wx => s = .bool false ∧ wx = wc)
  case first =>
    by_cases hz : Y2.code = 0
    · have en : (Y2.code != 0) = false := by rw [hz]; rfl
      clear hz
      go_wp2
      go_meet
      exact ⟨rfl, rfl⟩
    · have en : (Y2.code != 0) = true := by simpa using hz
      have en2 : (Y2.code != Y1.code) = false := by rw [HCL.out hz]; simp
      clear hz
      go_wp2
      go_meet
      exact ⟨rfl, rfl⟩
  case rest =>
  obtain ⟨rfl, rfl⟩ := hcut
  obtain ⟨sk, sb, hsec⟩ : ∃ a b, secS Y1 1 = (a, b) := ⟨_, _, rfl⟩
  have HSE := Lib.hid (fun W p q (h : Tw w W p q Y1 Y1 (fun b => b = g)) => tw_secret h 1)
  rw [hsec] at HSE
  simp only at HSE
  obtain ⟨L, hL⟩ : ∃ L, pmL Y1.th = L := ⟨_, rfl⟩
  have hfv : pmV Y1.th = .agg L.toArray := by rw [← hL]; rfl
  have Ll := Lib.hid (show L.length = 12 by rw [← hL]; rfl)
  have Lo := Lib.hid (show L.all (·.oneCell') = true by rw [← hL]; rfl)
  have HPM := Lib.hid (fun W => run_pm W Y1.th)
  have HTH := Lib.hid (fun W p q (h : Tw w W p q Y1 Y1 (fun b => b = g)) => tw_theirs h)
  rw [hfv] at HPM HTH
  generalize greetB Y1 = gb at *
  have HO0 := Lib.hid (fun W p q (h : Tw w W p q Y1 Y1 (fun b => b = g)) => tw_out h 0)
  have HO1 := Lib.hid (fun W p q (h : Tw w W p q Y1 Y1 (fun b => b = g)) => tw_out h 1)
  generalize outS Y1 0 = R0 at *
  generalize outS Y1 1 = R1 at *
  obtain ⟨T0, hT0⟩ : ∃ t, strOfNums R0 = t := ⟨_, rfl⟩
  obtain ⟨T1, hT1⟩ : ∃ t, strOfNums R1 = t := ⟨_, rfl⟩
  have HT0 := Lib.hid hT0
  have HT1 := Lib.hid hT1
  have q0 := bb_refl T0
  have q1 := bb_refl T1
  clear hsec hL hfv hT0 hT1 HCL
  go_wp2_with fail
  refine (HSE.out wc py pz HT13.swap).mono ?_
  rintro e W14 ⟨rfl, hb14⟩
  have HT14 := HT13.below hb14
  clear hb14 HT13
  go_wp2_with fail
  refine (HSE.out W14 pz py HT14).mono ?_
  rintro e W15 ⟨rfl, hb15⟩
  have HT15 := HT14.below hb15
  clear hb15 HT14
  go_wp2_with fail
  refine (HTH.out W15 py pz HT15.swap).mono ?_
  rintro e W16 ⟨rfl, hb16⟩
  have HT16 := HT15.below hb16
  clear hb16 HT15 HSE
  have hA33 : At (W16.alloc (.cells #[.int .u64 0, .int .u64 0, .int .u64 0, .int .u64 0, .int .u8 0, .int .u8 0, .int .u8 0, .int .u8 0, .int .u8 0, .int .u8 0, .int .u8 0, .int .u8 0] 26)) W16.heap.size 26 (pmL .zero) := At.new W16 26 (pmL .zero)
  have hb17 : Below W16.heap.size W16 (W16.alloc (.cells #[.int .u64 0, .int .u64 0, .int .u64 0, .int .u64 0, .int .u8 0, .int .u8 0, .int .u8 0, .int .u8 0, .int .u8 0, .int .u8 0, .int .u8 0, .int .u8 0] 26)) := (Below.refl _ _).alloc (Nat.le_refl _) _
  obtain ⟨g33, hg33⟩ : ∃ g, W16.heap.size = g := ⟨_, rfl⟩
  obtain ⟨W17, hW17⟩ : ∃ W, W16.alloc (.cells #[.int .u64 0, .int .u64 0, .int .u64 0, .int .u64 0, .int .u8 0, .int .u8 0, .int .u8 0, .int .u8 0, .int .u8 0, .int .u8 0, .int .u8 0, .int .u8 0] 26) = W := ⟨_, rfl⟩
  rw [hW17, hg33] at hA33
  rw [hW17] at hb17
  go_wp2_with (first | ((with_reducible refine at_stp_ (.tmp 33) ?_); refine st_pm _ (pmL .zero) L (by rfl) (by rfl) hA33 rfl Ll.out Lo.out ?_; intro W18 hA33' hk18; have hb18 := hk18.below hb17 hb17.size (by intro j hj; omega); have HT18 := HT16.below hb18) | fail)
  clear hA33 hb17 hg33 hW17 hk18 hb18 HT16
  refine (HTH.out W18 pz py HT18).mono ?_
  rintro e W19 ⟨rfl, hb19⟩
  have HT19 := HT18.below hb19
  have hA33 := hA33'.below hb19 hA33'.lt
  clear hb19 HT18 hA33' HTH
  have hA35 : At (W19.alloc (.cells #[.int .u64 0, .int .u64 0, .int .u64 0, .int .u64 0, .int .u8 0, .int .u8 0, .int .u8 0, .int .u8 0, .int .u8 0, .int .u8 0, .int .u8 0, .int .u8 0] 26)) W19.heap.size 26 (pmL .zero) := At.new W19 26 (pmL .zero)
  have hb20 : Below W19.heap.size W19 (W19.alloc (.cells #[.int .u64 0, .int .u64 0, .int .u64 0, .int .u64 0, .int .u8 0, .int .u8 0, .int .u8 0, .int .u8 0, .int .u8 0, .int .u8 0, .int .u8 0, .int .u8 0] 26)) := (Below.refl _ _).alloc (Nat.le_refl _) _
  obtain ⟨g35, hg35⟩ : ∃ g, W19.heap.size = g := ⟨_, rfl⟩
  obtain ⟨W20, hW20⟩ : ∃ W, W19.alloc (.cells #[.int .u64 0, .int .u64 0, .int .u64 0, .int .u64 0, .int .u8 0, .int .u8 0, .int .u8 0, .int .u8 0, .int .u8 0, .int .u8 0, .int .u8 0, .int .u8 0] 26) = W := ⟨_, rfl⟩
  rw [hW20, hg35] at hA35
  rw [hW20] at hb20
  go_wp2_with (first | ((with_reducible refine at_stp_ (.tmp 35) ?_); refine st_pm _ (pmL .zero) L (by rfl) (by rfl) hA35 rfl Ll.out Lo.out ?_; intro W21 hA35' hk21; have hb21 := hk21.below hb20 hb20.size (by intro j hj; omega); have HT21 := HT19.below hb21; have hA33' := hA33.below hb21 hA33.lt) | fail)
  clear hA33 hA35 hb20 hg35 hW20 hk21 hb21 HT19
  have HT21 := HT21.drewN 1
  have hA33 := hA33'.drewN 1
  have hA35 := hA35'.drewN 1
  rw [show W21.drewN 1 = W21.drew from rfl] at HT21 hA33 hA35
  clear hA33' hA35'
  obtain ⟨V, hV⟩ : ∃ W, W21.drew = W := ⟨_, rfl⟩
  refine wp_region_held_drew (S := fun W => W.rangeAt g33 0 L ∧ W.rangeAt g35 0 L) (by kernel_rfl) (⟨hA33.rangeAt, hA35.rangeAt⟩) (fun hHeld => ?_)
  rw [hV] at HT21 hA33 hA35 ⊢
  have hHeld : V.rangeAt g33 0 L ∧ V.rangeAt g35 0 L := ⟨hA33.rangeAt, hA35.rangeAt⟩
  clear hV
  refine tkq 0 (some 141) (v := ?_) rfl (Or.inl ⟨by rfl, ?_⟩) (by assumption) ?_
  rotate_left
  · intro w hSw; (try dsimp only at hSw); go_simp; first | done | (with_reducible rfl)
  simp only [Act.put, List.setIfInBounds_toArray, List.set_cons_zero, List.set_cons_succ]
  refine tkq 1 (some 142) (v := ?_) rfl (Or.inl ⟨by rfl, ?_⟩) (by assumption) ?_
  rotate_left
  · intro w hSw; (try dsimp only at hSw); go_simp; first | done | (with_reducible rfl)
  simp only [Act.put, List.setIfInBounds_toArray, List.set_cons_zero, List.set_cons_succ]
  refine tkq 2 (some 143) (v := .bool true) rfl (Or.inl ⟨by rfl, ?_⟩) (by assumption) ?_
  · intro w hSw; (try dsimp only at hSw); cases sb <;> (go_simp; first | done | rfl)
  simp only [Act.put, List.setIfInBounds_toArray, List.set_cons_zero, List.set_cons_succ]
  refine tkq 3 (some 144) (v := ?_) rfl (Or.inl ⟨by rfl, ?_⟩) (by assumption) ?_
  rotate_left
  · intro w hSw; (try dsimp only at hSw); go_simp; first | done | (with_reducible rfl)
  simp only [Act.put, List.setIfInBounds_toArray, List.set_cons_zero, List.set_cons_succ]
  refine tkq 4 (some 145) (v := ?_) rfl (Or.inl ⟨by rfl, ?_⟩) (by assumption) ?_
  rotate_left
  · intro w hSw; (try dsimp only at hSw); go_simp; first | done | (with_reducible rfl)
  simp only [Act.put, List.setIfInBounds_toArray, List.set_cons_zero, List.set_cons_succ]
  refine tkq 5 (some 146) (v := ?_) rfl (Or.inl ⟨by rfl, ?_⟩) (by assumption) ?_
  rotate_left
  · intro w hSw; (try dsimp only at hSw); go_simp; first | done | (with_reducible rfl)
  simp only [Act.put, List.setIfInBounds_toArray, List.set_cons_zero, List.set_cons_succ]
  refine tkq 6 (some 147) (v := .bool true) rfl (Or.inl ⟨by rfl, ?_⟩) (by assumption) ?_
  · intro w hSw; (try dsimp only at hSw); go_simp; first | done | rfl | simp
  simp only [Act.put, List.setIfInBounds_toArray, List.set_cons_zero, List.set_cons_succ]
  refine tkq 7 (some 148) (v := ?_) rfl (Or.inl ⟨by rfl, ?_⟩) (by assumption) ?_
  rotate_left
  · intro w hSw; (try dsimp only at hSw); go_simp; first | done | (with_reducible rfl)
  simp only [Act.put, List.setIfInBounds_toArray, List.set_cons_zero, List.set_cons_succ]
  refine tkq 8 (some 149) (v := ?_) rfl (Or.inl ⟨by rfl, ?_⟩) (by assumption) ?_
  rotate_left
  · intro w hSw; (try dsimp only at hSw); go_simp; first | done | (with_reducible rfl)
  simp only [Act.put, List.setIfInBounds_toArray, List.set_cons_zero, List.set_cons_succ]
  refine tkq 9 (some 150) (v := .agg L.toArray) rfl (yl_any 26 (.tmp 33) rfl g33 0 (by rfl) L _ (fun W hW => hW.1) Try.underlying26 rfl (by rw [Ll.out]; exact pm_info) (by rfl)) (by assumption) ?_
  simp only [Act.put, List.setIfInBounds_toArray, List.set_cons_zero, List.set_cons_succ]
  refine tkq 10 (some 151) (v := .agg L.toArray) rfl (yl_any 26 (.tmp 35) rfl g35 0 (by rfl) L _ (fun W hW => hW.2) Try.underlying26 rfl (by rw [Ll.out]; exact pm_info) (by rfl)) (by assumption) ?_
  simp only [Act.put, List.setIfInBounds_toArray, List.set_cons_zero, List.set_cons_succ]
  refine tkq 11 (some 152) (v := .bool true) rfl (yl_eqpm _ _ _ rfl L HPM (by rfl) (by rfl) (by rfl)) (by assumption) ?_
  simp only [Act.put, List.setIfInBounds_toArray, List.set_cons_zero, List.set_cons_succ]
  refine tkq 12 (some 153) (v := ?_) rfl (Or.inl ⟨by rfl, ?_⟩) (by assumption) ?_
  rotate_left
  · intro w hSw; (try dsimp only at hSw); go_simp; first | done | (with_reducible rfl)
  simp only [Act.put, List.setIfInBounds_toArray, List.set_cons_zero, List.set_cons_succ]
  refine tkq 13 (some 154) (v := ?_) rfl (Or.inl ⟨by rfl, ?_⟩) (by assumption) ?_
  rotate_left
  · intro w hSw; (try dsimp only at hSw); go_simp; first | done | (with_reducible rfl)
  simp only [Act.put, List.setIfInBounds_toArray, List.set_cons_zero, List.set_cons_succ]
  refine tkq 14 (some 155) (v := ?_) rfl (Or.inl ⟨by rfl, ?_⟩) (by assumption) ?_
  rotate_left
  · intro w hSw; (try dsimp only at hSw); go_simp; first | done | (with_reducible rfl)
  simp only [Act.put, List.setIfInBounds_toArray, List.set_cons_zero, List.set_cons_succ]
  refine tkq 15 (some 156) (v := ?_) rfl (Or.inl ⟨by rfl, ?_⟩) (by assumption) ?_
  rotate_left
  · intro w hSw; (try dsimp only at hSw); go_simp; first | done | (with_reducible rfl)
  simp only [Act.put, List.setIfInBounds_toArray, List.set_cons_zero, List.set_cons_succ]
  refine tkq 16 (some 157) (v := .bool true) rfl (Or.inl ⟨by rfl, ?_⟩) (by assumption) ?_
  · intro w hSw; (try dsimp only at hSw); cases gb <;> (go_simp; first | done | rfl)
  simp only [Act.put, List.setIfInBounds_toArray, List.set_cons_zero, List.set_cons_succ]
  refine tkq 17 (some 158) (v := ?_) rfl (Or.inl ⟨by rfl, ?_⟩) (by assumption) ?_
  rotate_left
  · intro w hSw; (try dsimp only at hSw); go_simp; first | done | (with_reducible rfl)
  simp only [Act.put, List.setIfInBounds_toArray, List.set_cons_zero, List.set_cons_succ]
  refine tkq 18 (some 159) (v := ?_) rfl (Or.inl ⟨by rfl, ?_⟩) (by assumption) ?_
  rotate_left
  · intro w hSw; (try dsimp only at hSw); go_simp; first | done | (with_reducible rfl)
  simp only [Act.put, List.setIfInBounds_toArray, List.set_cons_zero, List.set_cons_succ]
  refine tkq 19 (some 160) (v := ?_) rfl (Or.inl ⟨by rfl, ?_⟩) (by assumption) ?_
  rotate_left
  · intro w hSw; (try dsimp only at hSw); go_simp; first | done | (with_reducible rfl)
  simp only [Act.put, List.setIfInBounds_toArray, List.set_cons_zero, List.set_cons_succ]
  refine tkq 22 (some 163) (v := ?_) rfl (Or.inl ⟨by rfl, ?_⟩) (by assumption) ?_
  rotate_left
  · intro w hSw; (try dsimp only at hSw); go_simp; first | done | (with_reducible rfl)
  simp only [Act.put, List.setIfInBounds_toArray, List.set_cons_zero, List.set_cons_succ]
  refine wpAnyH_ready (rs := [20]) (by kernel_rfl) (by simp) ?_
  refine AllReadyH.cons rfl (fun K hK => ?_) AllReadyH.nil
  go_simp
  go_wp2_with (go_at_call 19; refine (HO0.out V py pz HT21.swap).mono ?_; rintro e V1 ⟨v20, rfl, ho20, hb20⟩)
  obtain ⟨A20, c20, rfl, _, _, r20⟩ := ho20.open_n _ rfl
  have HT21 := HT21.below hb20
  have hA33 := hA33.below hb20 hA33.lt
  have hA35 := hA35.below hb20 hA35.lt
  refine hK.out _ _ (⟨hA33.rangeAt, hA35.rangeAt⟩) (fun hHeld => ?_)
  clear hK K
  refine wpAnyH_ready (rs := [21, 23]) (by kernel_rfl) (by simp) ?_
  refine AllReadyH.cons rfl (fun K hK => ?_) (AllReadyH.cons rfl (fun K hK => ?_) (AllReadyH.nil))
  · have t20 := run_text (P := Try.prog) (c := c20) r20 31 5 9 Try.underlying31 Try.underlying5 Try.underlying9
    rw [HT0.out] at t20
    go_simp
    refine hK.out _ _ (⟨hA33.rangeAt, hA35.rangeAt⟩) (fun hHeld => ?_)
    clear hK K
    refine wpAnyH_ready (rs := [23]) (by kernel_rfl) (by simp) ?_
    refine AllReadyH.cons rfl (fun K hK => ?_) AllReadyH.nil
    go_simp
    go_wp2_with (go_at_call 19; refine (HO0.out V1 pz py HT21).mono ?_; rintro e V2 ⟨v23, rfl, ho23, hb23⟩)
    obtain ⟨A23, c23, rfl, _, _, r23⟩ := ho23.open_n _ rfl
    have HT21 := HT21.below hb23
    have hA33 := hA33.below hb23 hA33.lt
    have hA35 := hA35.below hb23 hA35.lt
    refine hK.out _ _ (⟨hA33.rangeAt, hA35.rangeAt⟩) (fun hHeld => ?_)
    clear hK K
    refine wpAnyH_ready (rs := [24]) (by kernel_rfl) (by simp) ?_
    refine AllReadyH.cons rfl (fun K hK => ?_) AllReadyH.nil
    have t23 := run_text (P := Try.prog) (c := c23) r23 31 5 9 Try.underlying31 Try.underlying5 Try.underlying9
    rw [HT0.out] at t23
    go_simp
    refine hK.out _ _ (⟨hA33.rangeAt, hA35.rangeAt⟩) (fun hHeld => ?_)
    clear hK K
    refine tkq 25 (some 166) (v := .bool true) rfl (Or.inl ⟨by rfl, ?_⟩) (by assumption) ?_
    · intro w hSw; (try dsimp only at hSw); go_simp; first | done | rfl | simp [q0]
    simp only [Act.put, List.setIfInBounds_toArray, List.set_cons_zero, List.set_cons_succ]
    refine tkq 26 (some 167) (v := ?_) rfl (Or.inl ⟨by rfl, ?_⟩) (by assumption) ?_
    rotate_left
    · intro w hSw; (try dsimp only at hSw); go_simp; first | done | (with_reducible rfl)
    simp only [Act.put, List.setIfInBounds_toArray, List.set_cons_zero, List.set_cons_succ]
    refine tkq 27 (some 168) (v := ?_) rfl (Or.inl ⟨by rfl, ?_⟩) (by assumption) ?_
    rotate_left
    · intro w hSw; (try dsimp only at hSw); go_simp; first | done | (with_reducible rfl)
    simp only [Act.put, List.setIfInBounds_toArray, List.set_cons_zero, List.set_cons_succ]
    refine tkq 28 (some 169) (v := ?_) rfl (Or.inl ⟨by rfl, ?_⟩) (by assumption) ?_
    rotate_left
    · intro w hSw; (try dsimp only at hSw); go_simp; first | done | (with_reducible rfl)
    simp only [Act.put, List.setIfInBounds_toArray, List.set_cons_zero, List.set_cons_succ]
    refine tkq 31 (some 172) (v := ?_) rfl (Or.inl ⟨by rfl, ?_⟩) (by assumption) ?_
    rotate_left
    · intro w hSw; (try dsimp only at hSw); go_simp; first | done | (with_reducible rfl)
    simp only [Act.put, List.setIfInBounds_toArray, List.set_cons_zero, List.set_cons_succ]
    refine wpAnyH_ready (rs := [29]) (by kernel_rfl) (by simp) ?_
    refine AllReadyH.cons rfl (fun K hK => ?_) AllReadyH.nil
    go_simp
    go_wp2_with (go_at_call 19; refine (HO1.out V2 py pz HT21.swap).mono ?_; rintro e V3 ⟨v29, rfl, ho29, hb29⟩)
    obtain ⟨A29, c29, rfl, _, _, r29⟩ := ho29.open_n _ rfl
    have HT21 := HT21.below hb29
    have hA33 := hA33.below hb29 hA33.lt
    have hA35 := hA35.below hb29 hA35.lt
    refine hK.out _ _ (⟨hA33.rangeAt, hA35.rangeAt⟩) (fun hHeld => ?_)
    clear hK K
    refine wpAnyH_ready (rs := [30, 32]) (by kernel_rfl) (by simp) ?_
    refine AllReadyH.cons rfl (fun K hK => ?_) (AllReadyH.cons rfl (fun K hK => ?_) (AllReadyH.nil))
    · have t29 := run_text (P := Try.prog) (c := c29) r29 31 5 9 Try.underlying31 Try.underlying5 Try.underlying9
      rw [HT1.out] at t29
      go_simp
      refine hK.out _ _ (⟨hA33.rangeAt, hA35.rangeAt⟩) (fun hHeld => ?_)
      clear hK K
      refine wpAnyH_ready (rs := [32]) (by kernel_rfl) (by simp) ?_
      refine AllReadyH.cons rfl (fun K hK => ?_) AllReadyH.nil
      go_simp
      go_wp2_with (go_at_call 19; refine (HO1.out V3 pz py HT21).mono ?_; rintro e V4 ⟨v32, rfl, ho32, hb32⟩)
      obtain ⟨A32, c32, rfl, _, _, r32⟩ := ho32.open_n _ rfl
      have HT21 := HT21.below hb32
      have hA33 := hA33.below hb32 hA33.lt
      have hA35 := hA35.below hb32 hA35.lt
      refine hK.out _ _ (⟨hA33.rangeAt, hA35.rangeAt⟩) (fun hHeld => ?_)
      clear hK K
      refine wpAnyH_ready (rs := [33]) (by kernel_rfl) (by simp) ?_
      refine AllReadyH.cons rfl (fun K hK => ?_) AllReadyH.nil
      have t32 := run_text (P := Try.prog) (c := c32) r32 31 5 9 Try.underlying31 Try.underlying5 Try.underlying9
      rw [HT1.out] at t32
      go_simp
      refine hK.out _ _ (⟨hA33.rangeAt, hA35.rangeAt⟩) (fun hHeld => ?_)
      clear hK K
      refine tkq 34 (some 175) (v := .bool true) rfl (Or.inl ⟨by rfl, ?_⟩) (by assumption) ?_
      · intro w hSw; (try dsimp only at hSw); go_simp; first | done | rfl | simp [q1]
      simp only [Act.put, List.setIfInBounds_toArray, List.set_cons_zero, List.set_cons_succ]
      refine tkq 35 (some 176) (v := ?_) rfl (Or.inl ⟨by rfl, ?_⟩) (by assumption) ?_
      rotate_left
      · intro w hSw; (try dsimp only at hSw); go_simp; first | done | (with_reducible rfl)
      simp only [Act.put, List.setIfInBounds_toArray, List.set_cons_zero, List.set_cons_succ]
      refine tkq 36 (some 177) (v := ?_) rfl (Or.inl ⟨by rfl, ?_⟩) (by assumption) ?_
      rotate_left
      · intro w hSw; (try dsimp only at hSw); go_simp; first | done | (with_reducible rfl)
      simp only [Act.put, List.setIfInBounds_toArray, List.set_cons_zero, List.set_cons_succ]
      refine wpAnyH_ready (rs := [37]) (by kernel_rfl) (by simp) ?_
      refine AllReadyH.cons rfl (fun K hK => ?_) AllReadyH.nil
      go_simp
      go_wp2_with (go_at_call 12; refine (known19_any V4).mono ?_; rintro e V99 ⟨rfl, hb99⟩)
      have HT21 := HT21.below hb99
      have hA33 := hA33.below hb99 hA33.lt
      have hA35 := hA35.below hb99 hA35.lt
      refine hK.out _ _ (⟨hA33.rangeAt, hA35.rangeAt⟩) (fun hHeld => ?_)
      clear hK K
      refine tkq 38 (some 179) (v := ?_) rfl (Or.inl ⟨by rfl, ?_⟩) (by assumption) ?_
      rotate_left
      · intro w hSw; (try dsimp only at hSw); go_simp; first | done | (with_reducible rfl)
      simp only [Act.put, List.setIfInBounds_toArray, List.set_cons_zero, List.set_cons_succ]
      refine tkq 39 (some 18) (v := ?_) rfl (Or.inl ⟨by rfl, ?_⟩) (by assumption) ?_
      rotate_left
      · intro w hSw; (try dsimp only at hSw); go_simp; first | done | (with_reducible rfl)
      simp only [Act.put, List.setIfInBounds_toArray, List.set_cons_zero, List.set_cons_succ]
      refine wpAnyH_done (by kernel_rfl) ?_ _
      go_wp2_with fail
      go_ret
      exact ⟨rfl, HT21.bl⟩
    · go_simp
      go_wp2_with (go_at_call 19; refine (HO1.out V3 pz py HT21).mono ?_; rintro e V4 ⟨v32, rfl, ho32, hb32⟩)
      obtain ⟨A32, c32, rfl, _, _, r32⟩ := ho32.open_n _ rfl
      have HT21 := HT21.below hb32
      have hA33 := hA33.below hb32 hA33.lt
      have hA35 := hA35.below hb32 hA35.lt
      have r29 := (r29.below hb32).more hb32.size
      refine hK.out _ _ (⟨hA33.rangeAt, hA35.rangeAt⟩) (fun hHeld => ?_)
      clear hK K
      refine wpAnyH_ready (rs := [30, 33]) (by kernel_rfl) (by simp) ?_
      refine AllReadyH.cons rfl (fun K hK => ?_) (AllReadyH.cons rfl (fun K hK => ?_) (AllReadyH.nil))
      · have t29 := run_text (P := Try.prog) (c := c29) r29 31 5 9 Try.underlying31 Try.underlying5 Try.underlying9
        rw [HT1.out] at t29
        go_simp
        refine hK.out _ _ (⟨hA33.rangeAt, hA35.rangeAt⟩) (fun hHeld => ?_)
        clear hK K
        refine wpAnyH_ready (rs := [33]) (by kernel_rfl) (by simp) ?_
        refine AllReadyH.cons rfl (fun K hK => ?_) AllReadyH.nil
        have t32 := run_text (P := Try.prog) (c := c32) r32 31 5 9 Try.underlying31 Try.underlying5 Try.underlying9
        rw [HT1.out] at t32
        go_simp
        refine hK.out _ _ (⟨hA33.rangeAt, hA35.rangeAt⟩) (fun hHeld => ?_)
        clear hK K
        refine tkq 34 (some 175) (v := .bool true) rfl (Or.inl ⟨by rfl, ?_⟩) (by assumption) ?_
        · intro w hSw; (try dsimp only at hSw); go_simp; first | done | rfl | simp [q1]
        simp only [Act.put, List.setIfInBounds_toArray, List.set_cons_zero, List.set_cons_succ]
        refine tkq 35 (some 176) (v := ?_) rfl (Or.inl ⟨by rfl, ?_⟩) (by assumption) ?_
        rotate_left
        · intro w hSw; (try dsimp only at hSw); go_simp; first | done | (with_reducible rfl)
        simp only [Act.put, List.setIfInBounds_toArray, List.set_cons_zero, List.set_cons_succ]
        refine tkq 36 (some 177) (v := ?_) rfl (Or.inl ⟨by rfl, ?_⟩) (by assumption) ?_
        rotate_left
        · intro w hSw; (try dsimp only at hSw); go_simp; first | done | (with_reducible rfl)
        simp only [Act.put, List.setIfInBounds_toArray, List.set_cons_zero, List.set_cons_succ]
        refine wpAnyH_ready (rs := [37]) (by kernel_rfl) (by simp) ?_
        refine AllReadyH.cons rfl (fun K hK => ?_) AllReadyH.nil
        go_simp
        go_wp2_with (go_at_call 12; refine (known19_any V4).mono ?_; rintro e V99 ⟨rfl, hb99⟩)
        have HT21 := HT21.below hb99
        have hA33 := hA33.below hb99 hA33.lt
        have hA35 := hA35.below hb99 hA35.lt
        refine hK.out _ _ (⟨hA33.rangeAt, hA35.rangeAt⟩) (fun hHeld => ?_)
        clear hK K
        refine tkq 38 (some 179) (v := ?_) rfl (Or.inl ⟨by rfl, ?_⟩) (by assumption) ?_
        rotate_left
        · intro w hSw; (try dsimp only at hSw); go_simp; first | done | (with_reducible rfl)
        simp only [Act.put, List.setIfInBounds_toArray, List.set_cons_zero, List.set_cons_succ]
        refine tkq 39 (some 18) (v := ?_) rfl (Or.inl ⟨by rfl, ?_⟩) (by assumption) ?_
        rotate_left
        · intro w hSw; (try dsimp only at hSw); go_simp; first | done | (with_reducible rfl)
        simp only [Act.put, List.setIfInBounds_toArray, List.set_cons_zero, List.set_cons_succ]
        refine wpAnyH_done (by kernel_rfl) ?_ _
        go_wp2_with fail
        go_ret
        exact ⟨rfl, HT21.bl⟩
      · have t32 := run_text (P := Try.prog) (c := c32) r32 31 5 9 Try.underlying31 Try.underlying5 Try.underlying9
        rw [HT1.out] at t32
        go_simp
        refine hK.out _ _ (⟨hA33.rangeAt, hA35.rangeAt⟩) (fun hHeld => ?_)
        clear hK K
        refine wpAnyH_ready (rs := [30]) (by kernel_rfl) (by simp) ?_
        refine AllReadyH.cons rfl (fun K hK => ?_) AllReadyH.nil
        have t29 := run_text (P := Try.prog) (c := c29) r29 31 5 9 Try.underlying31 Try.underlying5 Try.underlying9
        rw [HT1.out] at t29
        go_simp
        refine hK.out _ _ (⟨hA33.rangeAt, hA35.rangeAt⟩) (fun hHeld => ?_)
        clear hK K
        refine tkq 34 (some 175) (v := .bool true) rfl (Or.inl ⟨by rfl, ?_⟩) (by assumption) ?_
        · intro w hSw; (try dsimp only at hSw); go_simp; first | done | rfl | simp [q1]
        simp only [Act.put, List.setIfInBounds_toArray, List.set_cons_zero, List.set_cons_succ]
        refine tkq 35 (some 176) (v := ?_) rfl (Or.inl ⟨by rfl, ?_⟩) (by assumption) ?_
        rotate_left
        · intro w hSw; (try dsimp only at hSw); go_simp; first | done | (with_reducible rfl)
        simp only [Act.put, List.setIfInBounds_toArray, List.set_cons_zero, List.set_cons_succ]
        refine tkq 36 (some 177) (v := ?_) rfl (Or.inl ⟨by rfl, ?_⟩) (by assumption) ?_
        rotate_left
        · intro w hSw; (try dsimp only at hSw); go_simp; first | done | (with_reducible rfl)
        simp only [Act.put, List.setIfInBounds_toArray, List.set_cons_zero, List.set_cons_succ]
        refine wpAnyH_ready (rs := [37]) (by kernel_rfl) (by simp) ?_
        refine AllReadyH.cons rfl (fun K hK => ?_) AllReadyH.nil
        go_simp
        go_wp2_with (go_at_call 12; refine (known19_any V4).mono ?_; rintro e V99 ⟨rfl, hb99⟩)
        have HT21 := HT21.below hb99
        have hA33 := hA33.below hb99 hA33.lt
        have hA35 := hA35.below hb99 hA35.lt
        refine hK.out _ _ (⟨hA33.rangeAt, hA35.rangeAt⟩) (fun hHeld => ?_)
        clear hK K
        refine tkq 38 (some 179) (v := ?_) rfl (Or.inl ⟨by rfl, ?_⟩) (by assumption) ?_
        rotate_left
        · intro w hSw; (try dsimp only at hSw); go_simp; first | done | (with_reducible rfl)
        simp only [Act.put, List.setIfInBounds_toArray, List.set_cons_zero, List.set_cons_succ]
        refine tkq 39 (some 18) (v := ?_) rfl (Or.inl ⟨by rfl, ?_⟩) (by assumption) ?_
        rotate_left
        · intro w hSw; (try dsimp only at hSw); go_simp; first | done | (with_reducible rfl)
        simp only [Act.put, List.setIfInBounds_toArray, List.set_cons_zero, List.set_cons_succ]
        refine wpAnyH_done (by kernel_rfl) ?_ _
        go_wp2_with fail
        go_ret
        exact ⟨rfl, HT21.bl⟩
  · go_simp
    go_wp2_with (go_at_call 19; refine (HO0.out V1 pz py HT21).mono ?_; rintro e V2 ⟨v23, rfl, ho23, hb23⟩)
    obtain ⟨A23, c23, rfl, _, _, r23⟩ := ho23.open_n _ rfl
    have HT21 := HT21.below hb23
    have hA33 := hA33.below hb23 hA33.lt
    have hA35 := hA35.below hb23 hA35.lt
    have r20 := (r20.below hb23).more hb23.size
    refine hK.out _ _ (⟨hA33.rangeAt, hA35.rangeAt⟩) (fun hHeld => ?_)
    clear hK K
    refine wpAnyH_ready (rs := [21, 24]) (by kernel_rfl) (by simp) ?_
    refine AllReadyH.cons rfl (fun K hK => ?_) (AllReadyH.cons rfl (fun K hK => ?_) (AllReadyH.nil))
    · have t20 := run_text (P := Try.prog) (c := c20) r20 31 5 9 Try.underlying31 Try.underlying5 Try.underlying9
      rw [HT0.out] at t20
      go_simp
      refine hK.out _ _ (⟨hA33.rangeAt, hA35.rangeAt⟩) (fun hHeld => ?_)
      clear hK K
      refine wpAnyH_ready (rs := [24]) (by kernel_rfl) (by simp) ?_
      refine AllReadyH.cons rfl (fun K hK => ?_) AllReadyH.nil
      have t23 := run_text (P := Try.prog) (c := c23) r23 31 5 9 Try.underlying31 Try.underlying5 Try.underlying9
      rw [HT0.out] at t23
      go_simp
      refine hK.out _ _ (⟨hA33.rangeAt, hA35.rangeAt⟩) (fun hHeld => ?_)
      clear hK K
      refine tkq 25 (some 166) (v := .bool true) rfl (Or.inl ⟨by rfl, ?_⟩) (by assumption) ?_
      · intro w hSw; (try dsimp only at hSw); go_simp; first | done | rfl | simp [q0]
      simp only [Act.put, List.setIfInBounds_toArray, List.set_cons_zero, List.set_cons_succ]
      refine tkq 26 (some 167) (v := ?_) rfl (Or.inl ⟨by rfl, ?_⟩) (by assumption) ?_
      rotate_left
      · intro w hSw; (try dsimp only at hSw); go_simp; first | done | (with_reducible rfl)
      simp only [Act.put, List.setIfInBounds_toArray, List.set_cons_zero, List.set_cons_succ]
      refine tkq 27 (some 168) (v := ?_) rfl (Or.inl ⟨by rfl, ?_⟩) (by assumption) ?_
      rotate_left
      · intro w hSw; (try dsimp only at hSw); go_simp; first | done | (with_reducible rfl)
      simp only [Act.put, List.setIfInBounds_toArray, List.set_cons_zero, List.set_cons_succ]
      refine tkq 28 (some 169) (v := ?_) rfl (Or.inl ⟨by rfl, ?_⟩) (by assumption) ?_
      rotate_left
      · intro w hSw; (try dsimp only at hSw); go_simp; first | done | (with_reducible rfl)
      simp only [Act.put, List.setIfInBounds_toArray, List.set_cons_zero, List.set_cons_succ]
      refine tkq 31 (some 172) (v := ?_) rfl (Or.inl ⟨by rfl, ?_⟩) (by assumption) ?_
      rotate_left
      · intro w hSw; (try dsimp only at hSw); go_simp; first | done | (with_reducible rfl)
      simp only [Act.put, List.setIfInBounds_toArray, List.set_cons_zero, List.set_cons_succ]
      refine wpAnyH_ready (rs := [29]) (by kernel_rfl) (by simp) ?_
      refine AllReadyH.cons rfl (fun K hK => ?_) AllReadyH.nil
      go_simp
      go_wp2_with (go_at_call 19; refine (HO1.out V2 py pz HT21.swap).mono ?_; rintro e V3 ⟨v29, rfl, ho29, hb29⟩)
      obtain ⟨A29, c29, rfl, _, _, r29⟩ := ho29.open_n _ rfl
      have HT21 := HT21.below hb29
      have hA33 := hA33.below hb29 hA33.lt
      have hA35 := hA35.below hb29 hA35.lt
      refine hK.out _ _ (⟨hA33.rangeAt, hA35.rangeAt⟩) (fun hHeld => ?_)
      clear hK K
      refine wpAnyH_ready (rs := [30, 32]) (by kernel_rfl) (by simp) ?_
      refine AllReadyH.cons rfl (fun K hK => ?_) (AllReadyH.cons rfl (fun K hK => ?_) (AllReadyH.nil))
      · have t29 := run_text (P := Try.prog) (c := c29) r29 31 5 9 Try.underlying31 Try.underlying5 Try.underlying9
        rw [HT1.out] at t29
        go_simp
        refine hK.out _ _ (⟨hA33.rangeAt, hA35.rangeAt⟩) (fun hHeld => ?_)
        clear hK K
        refine wpAnyH_ready (rs := [32]) (by kernel_rfl) (by simp) ?_
        refine AllReadyH.cons rfl (fun K hK => ?_) AllReadyH.nil
        go_simp
        go_wp2_with (go_at_call 19; refine (HO1.out V3 pz py HT21).mono ?_; rintro e V4 ⟨v32, rfl, ho32, hb32⟩)
        obtain ⟨A32, c32, rfl, _, _, r32⟩ := ho32.open_n _ rfl
        have HT21 := HT21.below hb32
        have hA33 := hA33.below hb32 hA33.lt
        have hA35 := hA35.below hb32 hA35.lt
        refine hK.out _ _ (⟨hA33.rangeAt, hA35.rangeAt⟩) (fun hHeld => ?_)
        clear hK K
        refine wpAnyH_ready (rs := [33]) (by kernel_rfl) (by simp) ?_
        refine AllReadyH.cons rfl (fun K hK => ?_) AllReadyH.nil
        have t32 := run_text (P := Try.prog) (c := c32) r32 31 5 9 Try.underlying31 Try.underlying5 Try.underlying9
        rw [HT1.out] at t32
        go_simp
        refine hK.out _ _ (⟨hA33.rangeAt, hA35.rangeAt⟩) (fun hHeld => ?_)
        clear hK K
        refine tkq 34 (some 175) (v := .bool true) rfl (Or.inl ⟨by rfl, ?_⟩) (by assumption) ?_
        · intro w hSw; (try dsimp only at hSw); go_simp; first | done | rfl | simp [q1]
        simp only [Act.put, List.setIfInBounds_toArray, List.set_cons_zero, List.set_cons_succ]
        refine tkq 35 (some 176) (v := ?_) rfl (Or.inl ⟨by rfl, ?_⟩) (by assumption) ?_
        rotate_left
        · intro w hSw; (try dsimp only at hSw); go_simp; first | done | (with_reducible rfl)
        simp only [Act.put, List.setIfInBounds_toArray, List.set_cons_zero, List.set_cons_succ]
        refine tkq 36 (some 177) (v := ?_) rfl (Or.inl ⟨by rfl, ?_⟩) (by assumption) ?_
        rotate_left
        · intro w hSw; (try dsimp only at hSw); go_simp; first | done | (with_reducible rfl)
        simp only [Act.put, List.setIfInBounds_toArray, List.set_cons_zero, List.set_cons_succ]
        refine wpAnyH_ready (rs := [37]) (by kernel_rfl) (by simp) ?_
        refine AllReadyH.cons rfl (fun K hK => ?_) AllReadyH.nil
        go_simp
        go_wp2_with (go_at_call 12; refine (known19_any V4).mono ?_; rintro e V99 ⟨rfl, hb99⟩)
        have HT21 := HT21.below hb99
        have hA33 := hA33.below hb99 hA33.lt
        have hA35 := hA35.below hb99 hA35.lt
        refine hK.out _ _ (⟨hA33.rangeAt, hA35.rangeAt⟩) (fun hHeld => ?_)
        clear hK K
        refine tkq 38 (some 179) (v := ?_) rfl (Or.inl ⟨by rfl, ?_⟩) (by assumption) ?_
        rotate_left
        · intro w hSw; (try dsimp only at hSw); go_simp; first | done | (with_reducible rfl)
        simp only [Act.put, List.setIfInBounds_toArray, List.set_cons_zero, List.set_cons_succ]
        refine tkq 39 (some 18) (v := ?_) rfl (Or.inl ⟨by rfl, ?_⟩) (by assumption) ?_
        rotate_left
        · intro w hSw; (try dsimp only at hSw); go_simp; first | done | (with_reducible rfl)
        simp only [Act.put, List.setIfInBounds_toArray, List.set_cons_zero, List.set_cons_succ]
        refine wpAnyH_done (by kernel_rfl) ?_ _
        go_wp2_with fail
        go_ret
        exact ⟨rfl, HT21.bl⟩
      · go_simp
        go_wp2_with (go_at_call 19; refine (HO1.out V3 pz py HT21).mono ?_; rintro e V4 ⟨v32, rfl, ho32, hb32⟩)
        obtain ⟨A32, c32, rfl, _, _, r32⟩ := ho32.open_n _ rfl
        have HT21 := HT21.below hb32
        have hA33 := hA33.below hb32 hA33.lt
        have hA35 := hA35.below hb32 hA35.lt
        have r29 := (r29.below hb32).more hb32.size
        refine hK.out _ _ (⟨hA33.rangeAt, hA35.rangeAt⟩) (fun hHeld => ?_)
        clear hK K
        refine wpAnyH_ready (rs := [30, 33]) (by kernel_rfl) (by simp) ?_
        refine AllReadyH.cons rfl (fun K hK => ?_) (AllReadyH.cons rfl (fun K hK => ?_) (AllReadyH.nil))
        · have t29 := run_text (P := Try.prog) (c := c29) r29 31 5 9 Try.underlying31 Try.underlying5 Try.underlying9
          rw [HT1.out] at t29
          go_simp
          refine hK.out _ _ (⟨hA33.rangeAt, hA35.rangeAt⟩) (fun hHeld => ?_)
          clear hK K
          refine wpAnyH_ready (rs := [33]) (by kernel_rfl) (by simp) ?_
          refine AllReadyH.cons rfl (fun K hK => ?_) AllReadyH.nil
          have t32 := run_text (P := Try.prog) (c := c32) r32 31 5 9 Try.underlying31 Try.underlying5 Try.underlying9
          rw [HT1.out] at t32
          go_simp
          refine hK.out _ _ (⟨hA33.rangeAt, hA35.rangeAt⟩) (fun hHeld => ?_)
          clear hK K
          refine tkq 34 (some 175) (v := .bool true) rfl (Or.inl ⟨by rfl, ?_⟩) (by assumption) ?_
          · intro w hSw; (try dsimp only at hSw); go_simp; first | done | rfl | simp [q1]
          simp only [Act.put, List.setIfInBounds_toArray, List.set_cons_zero, List.set_cons_succ]
          refine tkq 35 (some 176) (v := ?_) rfl (Or.inl ⟨by rfl, ?_⟩) (by assumption) ?_
          rotate_left
          · intro w hSw; (try dsimp only at hSw); go_simp; first | done | (with_reducible rfl)
          simp only [Act.put, List.setIfInBounds_toArray, List.set_cons_zero, List.set_cons_succ]
          refine tkq 36 (some 177) (v := ?_) rfl (Or.inl ⟨by rfl, ?_⟩) (by assumption) ?_
          rotate_left
          · intro w hSw; (try dsimp only at hSw); go_simp; first | done | (with_reducible rfl)
          simp only [Act.put, List.setIfInBounds_toArray, List.set_cons_zero, List.set_cons_succ]
          refine wpAnyH_ready (rs := [37]) (by kernel_rfl) (by simp) ?_
          refine AllReadyH.cons rfl (fun K hK => ?_) AllReadyH.nil
          go_simp
          go_wp2_with (go_at_call 12; refine (known19_any V4).mono ?_; rintro e V99 ⟨rfl, hb99⟩)
          have HT21 := HT21.below hb99
          have hA33 := hA33.below hb99 hA33.lt
          have hA35 := hA35.below hb99 hA35.lt
          refine hK.out _ _ (⟨hA33.rangeAt, hA35.rangeAt⟩) (fun hHeld => ?_)
          clear hK K
          refine tkq 38 (some 179) (v := ?_) rfl (Or.inl ⟨by rfl, ?_⟩) (by assumption) ?_
          rotate_left
          · intro w hSw; (try dsimp only at hSw); go_simp; first | done | (with_reducible rfl)
          simp only [Act.put, List.setIfInBounds_toArray, List.set_cons_zero, List.set_cons_succ]
          refine tkq 39 (some 18) (v := ?_) rfl (Or.inl ⟨by rfl, ?_⟩) (by assumption) ?_
          rotate_left
          · intro w hSw; (try dsimp only at hSw); go_simp; first | done | (with_reducible rfl)
          simp only [Act.put, List.setIfInBounds_toArray, List.set_cons_zero, List.set_cons_succ]
          refine wpAnyH_done (by kernel_rfl) ?_ _
          go_wp2_with fail
          go_ret
          exact ⟨rfl, HT21.bl⟩
        · have t32 := run_text (P := Try.prog) (c := c32) r32 31 5 9 Try.underlying31 Try.underlying5 Try.underlying9
          rw [HT1.out] at t32
          go_simp
          refine hK.out _ _ (⟨hA33.rangeAt, hA35.rangeAt⟩) (fun hHeld => ?_)
          clear hK K
          refine wpAnyH_ready (rs := [30]) (by kernel_rfl) (by simp) ?_
          refine AllReadyH.cons rfl (fun K hK => ?_) AllReadyH.nil
          have t29 := run_text (P := Try.prog) (c := c29) r29 31 5 9 Try.underlying31 Try.underlying5 Try.underlying9
          rw [HT1.out] at t29
          go_simp
          refine hK.out _ _ (⟨hA33.rangeAt, hA35.rangeAt⟩) (fun hHeld => ?_)
          clear hK K
          refine tkq 34 (some 175) (v := .bool true) rfl (Or.inl ⟨by rfl, ?_⟩) (by assumption) ?_
          · intro w hSw; (try dsimp only at hSw); go_simp; first | done | rfl | simp [q1]
          simp only [Act.put, List.setIfInBounds_toArray, List.set_cons_zero, List.set_cons_succ]
          refine tkq 35 (some 176) (v := ?_) rfl (Or.inl ⟨by rfl, ?_⟩) (by assumption) ?_
          rotate_left
          · intro w hSw; (try dsimp only at hSw); go_simp; first | done | (with_reducible rfl)
          simp only [Act.put, List.setIfInBounds_toArray, List.set_cons_zero, List.set_cons_succ]
          refine tkq 36 (some 177) (v := ?_) rfl (Or.inl ⟨by rfl, ?_⟩) (by assumption) ?_
          rotate_left
          · intro w hSw; (try dsimp only at hSw); go_simp; first | done | (with_reducible rfl)
          simp only [Act.put, List.setIfInBounds_toArray, List.set_cons_zero, List.set_cons_succ]
          refine wpAnyH_ready (rs := [37]) (by kernel_rfl) (by simp) ?_
          refine AllReadyH.cons rfl (fun K hK => ?_) AllReadyH.nil
          go_simp
          go_wp2_with (go_at_call 12; refine (known19_any V4).mono ?_; rintro e V99 ⟨rfl, hb99⟩)
          have HT21 := HT21.below hb99
          have hA33 := hA33.below hb99 hA33.lt
          have hA35 := hA35.below hb99 hA35.lt
          refine hK.out _ _ (⟨hA33.rangeAt, hA35.rangeAt⟩) (fun hHeld => ?_)
          clear hK K
          refine tkq 38 (some 179) (v := ?_) rfl (Or.inl ⟨by rfl, ?_⟩) (by assumption) ?_
          rotate_left
          · intro w hSw; (try dsimp only at hSw); go_simp; first | done | (with_reducible rfl)
          simp only [Act.put, List.setIfInBounds_toArray, List.set_cons_zero, List.set_cons_succ]
          refine tkq 39 (some 18) (v := ?_) rfl (Or.inl ⟨by rfl, ?_⟩) (by assumption) ?_
          rotate_left
          · intro w hSw; (try dsimp only at hSw); go_simp; first | done | (with_reducible rfl)
          simp only [Act.put, List.setIfInBounds_toArray, List.set_cons_zero, List.set_cons_succ]
          refine wpAnyH_done (by kernel_rfl) ?_ _
          go_wp2_with fail
          go_ret
          exact ⟨rfl, HT21.bl⟩
    · have t23 := run_text (P := Try.prog) (c := c23) r23 31 5 9 Try.underlying31 Try.underlying5 Try.underlying9
      rw [HT0.out] at t23
      go_simp
      refine hK.out _ _ (⟨hA33.rangeAt, hA35.rangeAt⟩) (fun hHeld => ?_)
      clear hK K
      refine wpAnyH_ready (rs := [21]) (by kernel_rfl) (by simp) ?_
      refine AllReadyH.cons rfl (fun K hK => ?_) AllReadyH.nil
      have t20 := run_text (P := Try.prog) (c := c20) r20 31 5 9 Try.underlying31 Try.underlying5 Try.underlying9
      rw [HT0.out] at t20
      go_simp
      refine hK.out _ _ (⟨hA33.rangeAt, hA35.rangeAt⟩) (fun hHeld => ?_)
      clear hK K
      refine tkq 25 (some 166) (v := .bool true) rfl (Or.inl ⟨by rfl, ?_⟩) (by assumption) ?_
      · intro w hSw; (try dsimp only at hSw); go_simp; first | done | rfl | simp [q0]
      simp only [Act.put, List.setIfInBounds_toArray, List.set_cons_zero, List.set_cons_succ]
      refine tkq 26 (some 167) (v := ?_) rfl (Or.inl ⟨by rfl, ?_⟩) (by assumption) ?_
      rotate_left
      · intro w hSw; (try dsimp only at hSw); go_simp; first | done | (with_reducible rfl)
      simp only [Act.put, List.setIfInBounds_toArray, List.set_cons_zero, List.set_cons_succ]
      refine tkq 27 (some 168) (v := ?_) rfl (Or.inl ⟨by rfl, ?_⟩) (by assumption) ?_
      rotate_left
      · intro w hSw; (try dsimp only at hSw); go_simp; first | done | (with_reducible rfl)
      simp only [Act.put, List.setIfInBounds_toArray, List.set_cons_zero, List.set_cons_succ]
      refine tkq 28 (some 169) (v := ?_) rfl (Or.inl ⟨by rfl, ?_⟩) (by assumption) ?_
      rotate_left
      · intro w hSw; (try dsimp only at hSw); go_simp; first | done | (with_reducible rfl)
      simp only [Act.put, List.setIfInBounds_toArray, List.set_cons_zero, List.set_cons_succ]
      refine tkq 31 (some 172) (v := ?_) rfl (Or.inl ⟨by rfl, ?_⟩) (by assumption) ?_
      rotate_left
      · intro w hSw; (try dsimp only at hSw); go_simp; first | done | (with_reducible rfl)
      simp only [Act.put, List.setIfInBounds_toArray, List.set_cons_zero, List.set_cons_succ]
      refine wpAnyH_ready (rs := [29]) (by kernel_rfl) (by simp) ?_
      refine AllReadyH.cons rfl (fun K hK => ?_) AllReadyH.nil
      go_simp
      go_wp2_with (go_at_call 19; refine (HO1.out V2 py pz HT21.swap).mono ?_; rintro e V3 ⟨v29, rfl, ho29, hb29⟩)
      obtain ⟨A29, c29, rfl, _, _, r29⟩ := ho29.open_n _ rfl
      have HT21 := HT21.below hb29
      have hA33 := hA33.below hb29 hA33.lt
      have hA35 := hA35.below hb29 hA35.lt
      refine hK.out _ _ (⟨hA33.rangeAt, hA35.rangeAt⟩) (fun hHeld => ?_)
      clear hK K
      refine wpAnyH_ready (rs := [30, 32]) (by kernel_rfl) (by simp) ?_
      refine AllReadyH.cons rfl (fun K hK => ?_) (AllReadyH.cons rfl (fun K hK => ?_) (AllReadyH.nil))
      · have t29 := run_text (P := Try.prog) (c := c29) r29 31 5 9 Try.underlying31 Try.underlying5 Try.underlying9
        rw [HT1.out] at t29
        go_simp
        refine hK.out _ _ (⟨hA33.rangeAt, hA35.rangeAt⟩) (fun hHeld => ?_)
        clear hK K
        refine wpAnyH_ready (rs := [32]) (by kernel_rfl) (by simp) ?_
        refine AllReadyH.cons rfl (fun K hK => ?_) AllReadyH.nil
        go_simp
        go_wp2_with (go_at_call 19; refine (HO1.out V3 pz py HT21).mono ?_; rintro e V4 ⟨v32, rfl, ho32, hb32⟩)
        obtain ⟨A32, c32, rfl, _, _, r32⟩ := ho32.open_n _ rfl
        have HT21 := HT21.below hb32
        have hA33 := hA33.below hb32 hA33.lt
        have hA35 := hA35.below hb32 hA35.lt
        refine hK.out _ _ (⟨hA33.rangeAt, hA35.rangeAt⟩) (fun hHeld => ?_)
        clear hK K
        refine wpAnyH_ready (rs := [33]) (by kernel_rfl) (by simp) ?_
        refine AllReadyH.cons rfl (fun K hK => ?_) AllReadyH.nil
        have t32 := run_text (P := Try.prog) (c := c32) r32 31 5 9 Try.underlying31 Try.underlying5 Try.underlying9
        rw [HT1.out] at t32
        go_simp
        refine hK.out _ _ (⟨hA33.rangeAt, hA35.rangeAt⟩) (fun hHeld => ?_)
        clear hK K
        refine tkq 34 (some 175) (v := .bool true) rfl (Or.inl ⟨by rfl, ?_⟩) (by assumption) ?_
        · intro w hSw; (try dsimp only at hSw); go_simp; first | done | rfl | simp [q1]
        simp only [Act.put, List.setIfInBounds_toArray, List.set_cons_zero, List.set_cons_succ]
        refine tkq 35 (some 176) (v := ?_) rfl (Or.inl ⟨by rfl, ?_⟩) (by assumption) ?_
        rotate_left
        · intro w hSw; (try dsimp only at hSw); go_simp; first | done | (with_reducible rfl)
        simp only [Act.put, List.setIfInBounds_toArray, List.set_cons_zero, List.set_cons_succ]
        refine tkq 36 (some 177) (v := ?_) rfl (Or.inl ⟨by rfl, ?_⟩) (by assumption) ?_
        rotate_left
        · intro w hSw; (try dsimp only at hSw); go_simp; first | done | (with_reducible rfl)
        simp only [Act.put, List.setIfInBounds_toArray, List.set_cons_zero, List.set_cons_succ]
        refine wpAnyH_ready (rs := [37]) (by kernel_rfl) (by simp) ?_
        refine AllReadyH.cons rfl (fun K hK => ?_) AllReadyH.nil
        go_simp
        go_wp2_with (go_at_call 12; refine (known19_any V4).mono ?_; rintro e V99 ⟨rfl, hb99⟩)
        have HT21 := HT21.below hb99
        have hA33 := hA33.below hb99 hA33.lt
        have hA35 := hA35.below hb99 hA35.lt
        refine hK.out _ _ (⟨hA33.rangeAt, hA35.rangeAt⟩) (fun hHeld => ?_)
        clear hK K
        refine tkq 38 (some 179) (v := ?_) rfl (Or.inl ⟨by rfl, ?_⟩) (by assumption) ?_
        rotate_left
        · intro w hSw; (try dsimp only at hSw); go_simp; first | done | (with_reducible rfl)
        simp only [Act.put, List.setIfInBounds_toArray, List.set_cons_zero, List.set_cons_succ]
        refine tkq 39 (some 18) (v := ?_) rfl (Or.inl ⟨by rfl, ?_⟩) (by assumption) ?_
        rotate_left
        · intro w hSw; (try dsimp only at hSw); go_simp; first | done | (with_reducible rfl)
        simp only [Act.put, List.setIfInBounds_toArray, List.set_cons_zero, List.set_cons_succ]
        refine wpAnyH_done (by kernel_rfl) ?_ _
        go_wp2_with fail
        go_ret
        exact ⟨rfl, HT21.bl⟩
      · go_simp
        go_wp2_with (go_at_call 19; refine (HO1.out V3 pz py HT21).mono ?_; rintro e V4 ⟨v32, rfl, ho32, hb32⟩)
        obtain ⟨A32, c32, rfl, _, _, r32⟩ := ho32.open_n _ rfl
        have HT21 := HT21.below hb32
        have hA33 := hA33.below hb32 hA33.lt
        have hA35 := hA35.below hb32 hA35.lt
        have r29 := (r29.below hb32).more hb32.size
        refine hK.out _ _ (⟨hA33.rangeAt, hA35.rangeAt⟩) (fun hHeld => ?_)
        clear hK K
        refine wpAnyH_ready (rs := [30, 33]) (by kernel_rfl) (by simp) ?_
        refine AllReadyH.cons rfl (fun K hK => ?_) (AllReadyH.cons rfl (fun K hK => ?_) (AllReadyH.nil))
        · have t29 := run_text (P := Try.prog) (c := c29) r29 31 5 9 Try.underlying31 Try.underlying5 Try.underlying9
          rw [HT1.out] at t29
          go_simp
          refine hK.out _ _ (⟨hA33.rangeAt, hA35.rangeAt⟩) (fun hHeld => ?_)
          clear hK K
          refine wpAnyH_ready (rs := [33]) (by kernel_rfl) (by simp) ?_
          refine AllReadyH.cons rfl (fun K hK => ?_) AllReadyH.nil
          have t32 := run_text (P := Try.prog) (c := c32) r32 31 5 9 Try.underlying31 Try.underlying5 Try.underlying9
          rw [HT1.out] at t32
          go_simp
          refine hK.out _ _ (⟨hA33.rangeAt, hA35.rangeAt⟩) (fun hHeld => ?_)
          clear hK K
          refine tkq 34 (some 175) (v := .bool true) rfl (Or.inl ⟨by rfl, ?_⟩) (by assumption) ?_
          · intro w hSw; (try dsimp only at hSw); go_simp; first | done | rfl | simp [q1]
          simp only [Act.put, List.setIfInBounds_toArray, List.set_cons_zero, List.set_cons_succ]
          refine tkq 35 (some 176) (v := ?_) rfl (Or.inl ⟨by rfl, ?_⟩) (by assumption) ?_
          rotate_left
          · intro w hSw; (try dsimp only at hSw); go_simp; first | done | (with_reducible rfl)
          simp only [Act.put, List.setIfInBounds_toArray, List.set_cons_zero, List.set_cons_succ]
          refine tkq 36 (some 177) (v := ?_) rfl (Or.inl ⟨by rfl, ?_⟩) (by assumption) ?_
          rotate_left
          · intro w hSw; (try dsimp only at hSw); go_simp; first | done | (with_reducible rfl)
          simp only [Act.put, List.setIfInBounds_toArray, List.set_cons_zero, List.set_cons_succ]
          refine wpAnyH_ready (rs := [37]) (by kernel_rfl) (by simp) ?_
          refine AllReadyH.cons rfl (fun K hK => ?_) AllReadyH.nil
          go_simp
          go_wp2_with (go_at_call 12; refine (known19_any V4).mono ?_; rintro e V99 ⟨rfl, hb99⟩)
          have HT21 := HT21.below hb99
          have hA33 := hA33.below hb99 hA33.lt
          have hA35 := hA35.below hb99 hA35.lt
          refine hK.out _ _ (⟨hA33.rangeAt, hA35.rangeAt⟩) (fun hHeld => ?_)
          clear hK K
          refine tkq 38 (some 179) (v := ?_) rfl (Or.inl ⟨by rfl, ?_⟩) (by assumption) ?_
          rotate_left
          · intro w hSw; (try dsimp only at hSw); go_simp; first | done | (with_reducible rfl)
          simp only [Act.put, List.setIfInBounds_toArray, List.set_cons_zero, List.set_cons_succ]
          refine tkq 39 (some 18) (v := ?_) rfl (Or.inl ⟨by rfl, ?_⟩) (by assumption) ?_
          rotate_left
          · intro w hSw; (try dsimp only at hSw); go_simp; first | done | (with_reducible rfl)
          simp only [Act.put, List.setIfInBounds_toArray, List.set_cons_zero, List.set_cons_succ]
          refine wpAnyH_done (by kernel_rfl) ?_ _
          go_wp2_with fail
          go_ret
          exact ⟨rfl, HT21.bl⟩
        · have t32 := run_text (P := Try.prog) (c := c32) r32 31 5 9 Try.underlying31 Try.underlying5 Try.underlying9
          rw [HT1.out] at t32
          go_simp
          refine hK.out _ _ (⟨hA33.rangeAt, hA35.rangeAt⟩) (fun hHeld => ?_)
          clear hK K
          refine wpAnyH_ready (rs := [30]) (by kernel_rfl) (by simp) ?_
          refine AllReadyH.cons rfl (fun K hK => ?_) AllReadyH.nil
          have t29 := run_text (P := Try.prog) (c := c29) r29 31 5 9 Try.underlying31 Try.underlying5 Try.underlying9
          rw [HT1.out] at t29
          go_simp
          refine hK.out _ _ (⟨hA33.rangeAt, hA35.rangeAt⟩) (fun hHeld => ?_)
          clear hK K
          refine tkq 34 (some 175) (v := .bool true) rfl (Or.inl ⟨by rfl, ?_⟩) (by assumption) ?_
          · intro w hSw; (try dsimp only at hSw); go_simp; first | done | rfl | simp [q1]
          simp only [Act.put, List.setIfInBounds_toArray, List.set_cons_zero, List.set_cons_succ]
          refine tkq 35 (some 176) (v := ?_) rfl (Or.inl ⟨by rfl, ?_⟩) (by assumption) ?_
          rotate_left
          · intro w hSw; (try dsimp only at hSw); go_simp; first | done | (with_reducible rfl)
          simp only [Act.put, List.setIfInBounds_toArray, List.set_cons_zero, List.set_cons_succ]
          refine tkq 36 (some 177) (v := ?_) rfl (Or.inl ⟨by rfl, ?_⟩) (by assumption) ?_
          rotate_left
          · intro w hSw; (try dsimp only at hSw); go_simp; first | done | (with_reducible rfl)
          simp only [Act.put, List.setIfInBounds_toArray, List.set_cons_zero, List.set_cons_succ]
          refine wpAnyH_ready (rs := [37]) (by kernel_rfl) (by simp) ?_
          refine AllReadyH.cons rfl (fun K hK => ?_) AllReadyH.nil
          go_simp
          go_wp2_with (go_at_call 12; refine (known19_any V4).mono ?_; rintro e V99 ⟨rfl, hb99⟩)
          have HT21 := HT21.below hb99
          have hA33 := hA33.below hb99 hA33.lt
          have hA35 := hA35.below hb99 hA35.lt
          refine hK.out _ _ (⟨hA33.rangeAt, hA35.rangeAt⟩) (fun hHeld => ?_)
          clear hK K
          refine tkq 38 (some 179) (v := ?_) rfl (Or.inl ⟨by rfl, ?_⟩) (by assumption) ?_
          rotate_left
          · intro w hSw; (try dsimp only at hSw); go_simp; first | done | (with_reducible rfl)
          simp only [Act.put, List.setIfInBounds_toArray, List.set_cons_zero, List.set_cons_succ]
          refine tkq 39 (some 18) (v := ?_) rfl (Or.inl ⟨by rfl, ?_⟩) (by assumption) ?_
          rotate_left
          · intro w hSw; (try dsimp only at hSw); go_simp; first | done | (with_reducible rfl)
          simp only [Act.put, List.setIfInBounds_toArray, List.set_cons_zero, List.set_cons_succ]
          refine wpAnyH_done (by kernel_rfl) ?_ _
          go_wp2_with fail
          go_ret
          exact ⟨rfl, HT21.bl⟩
end Go.Proofs.Ytdakbedohjemeaa
