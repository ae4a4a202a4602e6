/-
  LockTurns returns true at every input: its walk.
-/
import Derived.Test.YtkgeeoogmkpjhaaL3
import Derived.Test.YtkgeeoogmkpjhaaSized
namespace Go.Proofs.Ytkgeeoogmkpjhaa
set_option linter.unusedVariables false
set_option linter.unusedSimpArgs false
open Go.RowKit Go.ChangeShapes Go.WideShapes Go.Deep
theorem xorB_cancel (a b r : Int) (a0 : 0 ≤ a) (a1 : a < 256) (b0 : 0 ≤ b) (b1 : b < 256) (r0 : 0 ≤ r) (r1 : r < 256) : xorB (xorB a r) (xorB b r) = xorB a b := by
  have h1 := xorB_bd a r
  have h2 := xorB_bd b r
  unfold xorB at *
  rw [u8_xor _ _ h1.1 h1.2 h2.1 h2.2, u8_xor _ _ a0 a1 r0 r1, u8_xor _ _ b0 b1 r0 r1, u8_xor _ _ a0 a1 b0 b1]
  simp only [Int.toNat_natCast]
  congr 1
  rw [Nat.xor_comm b.toNat r.toNat, Nat.xor_assoc, ← Nat.xor_assoc r.toNat r.toNat, Nat.xor_self, Nat.zero_xor]
theorem seal_at (key n : Int) (head body : List Int) (i : Nat) (hi : i < body.length) : (sealS key n head body).getD i 0 = xorB (body.getD i 0) (rowX key n i) := by
  unfold sealS
  rw [List.getD_eq_getElem?_getD, List.getElem?_append_left (by rw [turnS_len]; exact hi), turnS_at key n body i hi]
  rfl
theorem seal_take (key n : Int) (head body : List Int) (k : Nat) (hk : k ≤ body.length) : (sealS key n head body).take k = turnS key n (body.take k) := by
  unfold sealS
  rw [List.take_append_of_le_length (by rw [turnS_len]; exact hk), turnS_take]
set_option maxRecDepth 100000 in
set_option maxHeartbeats 4000000 in
theorem lturns_walk (key n : Int) (Ah : Option Addr) (nh ch : Nat) (head : List Int) (Aa : Option Addr) (na ca : Nat) (a0 : List Int) (Ab : Option Addr) (nb cb : Nat) (b0 : List Int) (w : World) (k0 : 0 ≤ key) (k1 : key < 18446744073709551616) (n0 : 0 ≤ n) (n1 : n < 18446744073709551616)
    (hih : InRow w Ah nh ch head) (shh : ch ≤ 140737488351232) (hia : InRow w Aa na ca a0) (hib : InRow w Ab nb cb b0) :
    Calls Try.prog 6 #[.int .u64 key, .int .u64 n, .slice Ah nh ch, .slice Aa na ca, .slice Ab nb cb] w fun e w' => e = .returned (.bool true) ∧ Below w.heap.size w w' := by
  have hca := cut_any Aa na ca 60 w hia.2.1 hia.2.2.1 (by omega) (hia.cutk 60).2.2.2.2.2
  have hcb := cut_any Ab nb cb 60 w hib.2.1 hib.2.2.1 (by omega) (hib.cutk 60).2.2.2.2.2
  obtain ⟨hra, ha1, _, ha2, ha3, _⟩ := hia.cutk 60
  obtain ⟨hrb, hb1, _, hb2, hb3, _⟩ := hib.cutk 60
  obtain ⟨hrh, hh2, hh3, _⟩ := hih
  obtain ⟨a, hha⟩ : ∃ x, a0.take (min na 60) = x := ⟨_, rfl⟩
  obtain ⟨b, hhb⟩ : ∃ x, b0.take (min nb 60) = x := ⟨_, rfl⟩
  rw [hha] at hra
  rw [hhb] at hrb
  obtain ⟨la, hla⟩ : ∃ x, min na 60 = x := ⟨_, rfl⟩
  obtain ⟨lb, hlb⟩ : ∃ x, min nb 60 = x := ⟨_, rfl⟩
  rw [hla] at hra hca ha1 ha2
  rw [hlb] at hrb hcb hb1 hb2
  obtain ⟨kk, hkk, hka, hkb⟩ : ∃ kk : Nat, min (la : Int) (lb : Int) = (kk : Int) ∧ kk ≤ la ∧ kk ≤ lb := by
    by_cases h : la ≤ lb
    · exact ⟨la, by omega, by omega, h⟩
    · exact ⟨lb, by omega, by omega, by omega⟩
  have hal := hra.1
  have hbl := hrb.1
  have haby := hra.2.1
  have hbby := hrb.2.1
  have HCA := Lib.hid hca
  have HCB := Lib.hid hcb
  have HRH := Lib.hid hrh
  have HRA := Lib.hid hra
  have HRB := Lib.hid hrb
  have HSA := Lib.hid (show (sealS key n head a).length = la + 8 by rw [sealS_len, hal])
  have HSB := Lib.hid (show (sealS key n head b).length = lb + 8 by rw [sealS_len, hbl])
  have HX := Lib.hid (fun i (hi : i < kk) => (show bits BinOp.xor IntKind.u8 ((sealS key n head a).getD i 0) ((sealS key n head b).getD i 0) = bits BinOp.xor IntKind.u8 (a.getD i 0) (b.getD i 0) by
    rw [seal_at key n head a i (by omega), seal_at key n head b i (by omega)]
    have h1 := haby.getD i
    have h2 := hbby.getD i
    have h3 := rowX_bd key n i
    exact xorB_cancel _ _ _ h1.1 h1.2 h2.1 h2.2 h3.1 h3.2))
  clear hha hhb hla hlb hca hcb hrh hra hrb hia hib
  go_enter Try.func6, Try.ntmps6
  go_wp2_with fail
  refine HCA.out.mono ?_
  rintro e w' ⟨rfl, rfl⟩
  go_wp2_with fail
  refine HCB.out.mono ?_
  rintro e w' ⟨rfl, rfl⟩
  go_wp2_with fail
  clear hkk
  refine (seal_any key n Ah nh ch head Aa la ca a w HRH.out HRA.out hh2 hh3 ha2 ha3 (by omega) k0 k1 n0 n1).mono ?_
  rintro e w1 ⟨v1, rfl, ho1, hb1'⟩
  go_wp2_with fail
  refine (seal_any key n Ah nh ch head Ab lb cb b w1 ((HRH.out.below hb1').more hb1'.size) ((HRB.out.below hb1').more hb1'.size) hh2 hh3 hb2 hb3 (by omega) k0 k1 n0 n1).mono ?_
  rintro e w2 ⟨v2, rfl, ho2, hb2'⟩
  have ho1 := ho1.below hb2' (Nat.le_refl _)
  have hb2' := hb1'.trans (hb2'.mono hb1'.size)
  obtain ⟨A1, c1, rfl, p1, p2, p3⟩ := ho1.open_n (la + 8) HSA.out
  obtain ⟨A2, c2, rfl, q1, q2, q3⟩ := ho2.open_n (lb + 8) HSB.out
  obtain ⟨g1, o1, rfl, _, hc1⟩ := p3.2.2 (by omega)
  obtain ⟨g2, o2, rfl, _, hc2⟩ := q3.2.2 (by omega)
  have hra2 := (HRA.out.below hb2').more hb2'.size
  have hrb2 := (HRB.out.below hb2').more hb2'.size
  have hc3 := hra2.2.2
  have hc4 := hrb2.2.2
  have C1 := Lib.hid hc1
  have C2 := Lib.hid hc2
  have C3 := Lib.hid hc3
  have C4 := Lib.hid hc4
  have hp4 := p2
  have hq4 := q2
  unfold maxLen at hp4 hq4
  have P3 := Lib.hid p3
  clear ho1 ho2 hb1' hc1 hc2 hc3 hc4 p3 q3 hra2 hrb2
  go_wp2_with fail
  go_loopw [14] (fun i wr => ∃ j : Nat, j ≤ kk ∧ i = .int .i64 j ∧ ∃ m, wr = w2.drewN m) (fun i _ => kk - (intOf i).toNat)
  case atStart => exact ⟨0, Nat.zero_le _, rfl, 0, rfl⟩
  case round =>
    obtain ⟨j, hj, rfl, m, rfl⟩ := hrel
    by_cases hlt : j < kk
    · have d1 := C1.out j (by omega)
      have d2 := C2.out j (by omega)
      obtain ⟨g3, o3, rfl, _, e3⟩ := C3.out (by omega)
      obtain ⟨g4, o4, rfl, _, e4⟩ := C4.out (by omega)
      have d3 := e3 j (by omega)
      have d4 := e4 j (by omega)
      clear e3 e4
      have hx := HX.out j hlt
      obtain ⟨X, hX⟩ : ∃ x, (sealS key n head a).getD j 0 = x := ⟨_, rfl⟩
      obtain ⟨Y, hY⟩ : ∃ x, (sealS key n head b).getD j 0 = x := ⟨_, rfl⟩
      obtain ⟨xa, hxa⟩ : ∃ x, a.getD j 0 = x := ⟨_, rfl⟩
      obtain ⟨xb, hxb⟩ : ∃ x, b.getD j 0 = x := ⟨_, rfl⟩
      rw [hX] at d1 hx
      rw [hY] at d2 hx
      rw [hxa] at d3 hx
      rw [hxb] at d4 hx
      have hja : j < la := by omega
      have hjb : j < lb := by omega
      have hja2 : j < la + 8 := by omega
      have hjb2 : j < lb + 8 := by omega
      have hjI : (j : Int) < (kk : Int) := by omega
      clear hX hY hxa hxb
      go_wp2_with fail
      go_quiet (fail)
      go_wp2_with fail
      go_roundw
      case rel => exact ⟨j + 1, by omega, by go_num, _, rfl⟩
      case measure => simp [intOf]; omega
    · obtain rfl : j = kk := by omega
      have hra3 : Rd (w2.drewN m) (w2.drewN m).heap.size Aa j (a.take j) := ((HRA.out.below hb2').more hb2'.size).cut hka |>.drewN m
      have hrh3 : Rd (w2.drewN m) (w2.drewN m).heap.size Ah nh head := ((HRH.out.below hb2').more hb2'.size).drewN m
      have hb3' := belowN hb2' m
      have hz : Rd (w2.drewN m) (w2.drewN m).heap.size (some ⟨g1, o1, none⟩) (la + 8) (sealS key n head a) := P3.out.drewN m
      obtain ⟨w3, hw3⟩ : ∃ x, w2.drewN m = x := ⟨_, rfl⟩
      rw [hw3] at hra3 hrh3 hb3' hz ⊢
      have hjca : j ≤ ca := by omega
      have HZL := Lib.hid (show (sealS key n head (a.take j)).length = j + 8 by rw [sealS_len, List.length_take, hal]; omega)
      have HZT := Lib.hid (seal_take key n head (a.take j) j (by rw [List.length_take, hal]; omega))
      have HXT := Lib.hid (seal_take key n head a j (by omega))
      have HSQ := Lib.hid (fun A (h : Rd w3 w3.heap.size A j (a.take j)) => seal_any key n Ah nh ch head A j ca (a.take j) w3 hrh3 h hh2 hh3 hjca ha3 (by omega) k0 k1 n0 n1)
      have hlast : ∀ (A5 : Option Addr) (c5 : Nat) (w4 : World), Own w4 w3.heap.size 5 (.slice A5 (j + 8) c5) (sealS key n head (a.take j)) → Below w3.heap.size w3 w4 → ∃ g5 o5, A5 = some ⟨g5, o5, none⟩ ∧ j + 8 ≤ c5 ∧ c5 ≤ maxLen ∧ Below w.heap.size w w4 ∧ Rd w4 w4.heap.size A5 j (turnS key n (a.take j)) ∧ Rd w4 w4.heap.size (some ⟨g1, o1, none⟩) j (turnS key n (a.take j)) := by
        intro A5 c5 w4 ho hb
        obtain ⟨A5', c5', e5, r1, r2, r3⟩ := ho.open_n (j + 8) HZL.out
        injection e5 with e5 _ e6
        subst e5; subst e6
        obtain ⟨g5, o5, rfl, _, _⟩ := r3.2.2 (by omega)
        have r4 := r3.cut (m := j) (by omega)
        rw [HZT.out, List.take_take, Nat.min_self] at r4
        have r5 := ((hz.below hb).more hb.size).cut (m := j) (by omega)
        rw [HXT.out] at r5
        exact ⟨g5, o5, rfl, r1, r2, hb3'.trans (hb.mono hb3'.size), r4, r5⟩
      have HLAST := Lib.hid hlast
      have hjI : (j : Int) ≤ (ca : Int) := by omega
      have htx : ∀ (W : World) A c, Rd W W.heap.size A j (turnS key n (a.take j)) → (convert 22 9 (.slice A j c)).run Try.prog W = .ok (.string (strOfNums (turnS key n (a.take j)))) W := fun W A c h => run_text (P := Try.prog) (c := c) h 22 5 9 Try.underlying22 Try.underlying5 Try.underlying9
      obtain ⟨T, hT⟩ : ∃ x, strOfNums (turnS key n (a.take j)) = x := ⟨_, rfl⟩
      rw [hT] at htx
      have HTX := Lib.hid htx
      have hTT : (T.toList == T.toList) = true := by simp
      have HZ := Lib.hid hra3
      clear hlast hz hrh3 htx hT hra3
      have hown : ∀ v (w4 : World), Own w4 w3.heap.size 5 v (sealS key n head (a.take j)) → ∃ A c, v = .slice A (j + 8) c := fun v w4 h => by obtain ⟨A, c, h, _⟩ := h.open_n (j + 8) HZL.out; exact ⟨A, c, h⟩
      have HOWN := Lib.hid hown
      clear hown
      rcases Aa with _ | ad
      · go_wp2_with fail
        refine (HSQ.out _ HZ.out).mono ?_
        rintro e w4 ⟨v4, rfl, ho4, hb4⟩
        obtain ⟨A5, c5, rfl⟩ := HOWN.out v4 w4 ho4
        obtain ⟨g5, o5, rfl, r1, r2, hb5, r4, r5⟩ := HLAST.out A5 c5 w4 ho4 hb4
        have hj5 : (j : Int) ≤ (c5 : Int) := by omega
        have hj1 : (j : Int) ≤ (c1 : Int) := by omega
        have hj5n : j ≤ c5 := by omega
        have hj1n : j ≤ c1 := by omega
        have hr5 := r2
        unfold maxLen at hr5
        clear ho4 hb4
        go_wp2_with fail
        have hb5 : Below w.heap.size w w4.drew := belowN hb5 1
        have r4 := r4.drew
        have r5 := r5.drew
        have r4 : Rd w4.drew w4.drew.heap.size _ _ _ := r4
        have r5 : Rd w4.drew w4.drew.heap.size _ _ _ := r5
        obtain ⟨Y, hY⟩ : ∃ x, w4.drew = x := ⟨_, rfl⟩
        rw [hY] at hb5 r4 r5
        refine wp_region_held_drew (S := (fun W => (convert 22 9 (.slice (some ⟨g5, o5, none⟩) j c5)).run Try.prog W = .ok (.string T) W ∧ (convert 22 9 (.slice (some ⟨g1, o1, none⟩) j c1)).run Try.prog W = .ok (.string T) W)) (by kernel_rfl) (by rw [hY]; exact ⟨HTX.out Y _ _ r4, HTX.out Y _ _ r5⟩) (fun hHeld => ?_)
        rw [hY] at hHeld ⊢
        clear hY
        refine tkq 0 (some 80) (v := ?_) rfl (Or.inl ⟨by rfl, ?_⟩) (by assumption) ?_
        rotate_left
        · intro w hSw; (try dsimp only at hSw); go_simp; first | done | (with_reducible rfl)
        simp only [Act.put, List.setIfInBounds_toArray, List.set_cons_zero, List.set_cons_succ]
        refine tkq 1 (some 81) (v := ?_) rfl (Or.inl ⟨by rfl, ?_⟩) (by assumption) ?_
        rotate_left
        · intro w hSw; (try dsimp only at hSw); go_simp; first | done | (with_reducible rfl)
        simp only [Act.put, List.setIfInBounds_toArray, List.set_cons_zero, List.set_cons_succ]
        refine tkq 2 (some 82) (v := ?_) rfl (Or.inl ⟨by rfl, ?_⟩) (by assumption) ?_
        rotate_left
        · intro w hSw; (try dsimp only at hSw); go_simp; first | done | (with_reducible rfl)
        simp only [Act.put, List.setIfInBounds_toArray, List.set_cons_zero, List.set_cons_succ]
        refine tkq 3 (some 83) (v := ?_) rfl (Or.inl ⟨by rfl, ?_⟩) (by assumption) ?_
        rotate_left
        · intro w hSw; (try dsimp only at hSw); go_simp; first | done | (with_reducible rfl)
        simp only [Act.put, List.setIfInBounds_toArray, List.set_cons_zero, List.set_cons_succ]
        refine tkq 4 (some 84) (v := .bool true) rfl (Or.inl ⟨by rfl, ?_⟩) (by assumption) ?_
        · intro w hSw; (try dsimp only at hSw); go_simp; rw [IntKind.wrap_i64]; omega
        simp only [Act.put, List.setIfInBounds_toArray, List.set_cons_zero, List.set_cons_succ]
        refine tkq 5 (some 85) (v := ?_) rfl (Or.inl ⟨by rfl, ?_⟩) (by assumption) ?_
        rotate_left
        · intro w hSw; (try dsimp only at hSw); go_simp; first | done | (with_reducible rfl)
        simp only [Act.put, List.setIfInBounds_toArray, List.set_cons_zero, List.set_cons_succ]
        refine tkq 6 (some 86) (v := ?_) rfl (Or.inl ⟨by rfl, ?_⟩) (by assumption) ?_
        rotate_left
        · intro w hSw; (try dsimp only at hSw); go_simp; first | done | (with_reducible rfl)
        simp only [Act.put, List.setIfInBounds_toArray, List.set_cons_zero, List.set_cons_succ]
        refine tkq 7 (some 87) (v := ?_) rfl (Or.inl ⟨by rfl, ?_⟩) (by assumption) ?_
        rotate_left
        · intro w hSw; (try dsimp only at hSw); go_simp; first | done | (with_reducible rfl)
        simp only [Act.put, List.setIfInBounds_toArray, List.set_cons_zero, List.set_cons_succ]
        refine tkq 8 (some 88) (v := ?_) rfl (Or.inl ⟨by rfl, ?_⟩) (by assumption) ?_
        rotate_left
        · intro w hSw; (try dsimp only at hSw); go_simp; first | done | (with_reducible rfl)
        simp only [Act.put, List.setIfInBounds_toArray, List.set_cons_zero, List.set_cons_succ]
        refine tkq 9 (some 89) (v := ?_) rfl (Or.inl ⟨by rfl, ?_⟩) (by assumption) ?_
        rotate_left
        · intro w hSw; (try dsimp only at hSw); have ht := hSw.1; go_simp; first | done | (with_reducible rfl)
        simp only [Act.put, List.setIfInBounds_toArray, List.set_cons_zero, List.set_cons_succ]
        refine tkq 10 (some 90) (v := ?_) rfl (Or.inl ⟨by rfl, ?_⟩) (by assumption) ?_
        rotate_left
        · intro w hSw; (try dsimp only at hSw); go_simp; first | done | (with_reducible rfl)
        simp only [Act.put, List.setIfInBounds_toArray, List.set_cons_zero, List.set_cons_succ]
        refine tkq 11 (some 91) (v := ?_) rfl (Or.inl ⟨by rfl, ?_⟩) (by assumption) ?_
        rotate_left
        · intro w hSw; (try dsimp only at hSw); go_simp; first | done | (with_reducible rfl)
        simp only [Act.put, List.setIfInBounds_toArray, List.set_cons_zero, List.set_cons_succ]
        refine tkq 12 (some 92) (v := ?_) rfl (Or.inl ⟨by rfl, ?_⟩) (by assumption) ?_
        rotate_left
        · intro w hSw; (try dsimp only at hSw); go_simp; first | done | (with_reducible rfl)
        simp only [Act.put, List.setIfInBounds_toArray, List.set_cons_zero, List.set_cons_succ]
        refine tkq 13 (some 93) (v := ?_) rfl (Or.inl ⟨by rfl, ?_⟩) (by assumption) ?_
        rotate_left
        · intro w hSw; (try dsimp only at hSw); have ht := hSw.2; go_simp; first | done | (with_reducible rfl)
        simp only [Act.put, List.setIfInBounds_toArray, List.set_cons_zero, List.set_cons_succ]
        refine tkq 14 (some 94) (v := ?_) rfl (Or.inl ⟨by rfl, ?_⟩) (by assumption) ?_
        rotate_left
        · intro w hSw; (try dsimp only at hSw); go_simp; first | done | (with_reducible rfl)
        simp only [Act.put, List.setIfInBounds_toArray, List.set_cons_zero, List.set_cons_succ]
        refine tkq 15 (some 95) (v := ?_) rfl (Or.inl ⟨by rfl, ?_⟩) (by assumption) ?_
        rotate_left
        · intro w hSw; (try dsimp only at hSw); go_simp; first | done | (with_reducible rfl)
        simp only [Act.put, List.setIfInBounds_toArray, List.set_cons_zero, List.set_cons_succ]
        refine tkq 16 (some 96) (v := ?_) rfl (Or.inl ⟨by rfl, ?_⟩) (by assumption) ?_
        rotate_left
        · intro w hSw; (try dsimp only at hSw); go_simp; first | done | (with_reducible rfl)
        simp only [Act.put, List.setIfInBounds_toArray, List.set_cons_zero, List.set_cons_succ]
        refine wpAnyH_ready (rs := [17]) (by kernel_rfl) (by simp) ?_
        refine AllReadyH.cons rfl (fun K hK => ?_) AllReadyH.nil
        go_simp
        go_wp2_with (go_at_call 10; refine (lknown_any _).mono ?_; rintro e w6 ⟨rfl, hb6⟩; have r4 := (r4.below hb6).more hb6.size; have r5 := (r5.below hb6).more hb6.size; have hb6 := hb5.trans (hb6.mono hb5.size))
        refine hK.out _ _ (⟨HTX.out w6 _ _ r4, HTX.out w6 _ _ r5⟩) (fun hHeld => ?_)
        clear hK K
        refine tkq 18 (some 98) (v := ?_) rfl (Or.inl ⟨by rfl, ?_⟩) (by assumption) ?_
        rotate_left
        · intro w hSw; (try dsimp only at hSw); go_simp; first | done | (with_reducible rfl)
        simp only [Act.put, List.setIfInBounds_toArray, List.set_cons_zero, List.set_cons_succ]
        refine tkq 19 (some 10) (v := ?_) rfl (Or.inl ⟨by rfl, ?_⟩) (by assumption) ?_
        rotate_left
        · intro w hSw; (try dsimp only at hSw); go_simp; first | done | (with_reducible rfl)
        simp only [Act.put, List.setIfInBounds_toArray, List.set_cons_zero, List.set_cons_succ]
        refine wpAnyH_done (by kernel_rfl) ?_ _
        go_wp2_with fail
        go_ret
        exact ⟨rfl, hb6⟩
      · go_wp2_with fail
        refine (HSQ.out _ HZ.out).mono ?_
        rintro e w4 ⟨v4, rfl, ho4, hb4⟩
        obtain ⟨A5, c5, rfl⟩ := HOWN.out v4 w4 ho4
        obtain ⟨g5, o5, rfl, r1, r2, hb5, r4, r5⟩ := HLAST.out A5 c5 w4 ho4 hb4
        have hj5 : (j : Int) ≤ (c5 : Int) := by omega
        have hj1 : (j : Int) ≤ (c1 : Int) := by omega
        have hj5n : j ≤ c5 := by omega
        have hj1n : j ≤ c1 := by omega
        have hr5 := r2
        unfold maxLen at hr5
        clear ho4 hb4
        go_wp2_with fail
        have hb5 : Below w.heap.size w w4.drew := belowN hb5 1
        have r4 := r4.drew
        have r5 := r5.drew
        have r4 : Rd w4.drew w4.drew.heap.size _ _ _ := r4
        have r5 : Rd w4.drew w4.drew.heap.size _ _ _ := r5
        obtain ⟨Y, hY⟩ : ∃ x, w4.drew = x := ⟨_, rfl⟩
        rw [hY] at hb5 r4 r5
        refine wp_region_held_drew (S := (fun W => (convert 22 9 (.slice (some ⟨g5, o5, none⟩) j c5)).run Try.prog W = .ok (.string T) W ∧ (convert 22 9 (.slice (some ⟨g1, o1, none⟩) j c1)).run Try.prog W = .ok (.string T) W)) (by kernel_rfl) (by rw [hY]; exact ⟨HTX.out Y _ _ r4, HTX.out Y _ _ r5⟩) (fun hHeld => ?_)
        rw [hY] at hHeld ⊢
        clear hY
        refine tkq 0 (some 80) (v := ?_) rfl (Or.inl ⟨by rfl, ?_⟩) (by assumption) ?_
        rotate_left
        · intro w hSw; (try dsimp only at hSw); go_simp; first | done | (with_reducible rfl)
        simp only [Act.put, List.setIfInBounds_toArray, List.set_cons_zero, List.set_cons_succ]
        refine tkq 1 (some 81) (v := ?_) rfl (Or.inl ⟨by rfl, ?_⟩) (by assumption) ?_
        rotate_left
        · intro w hSw; (try dsimp only at hSw); go_simp; first | done | (with_reducible rfl)
        simp only [Act.put, List.setIfInBounds_toArray, List.set_cons_zero, List.set_cons_succ]
        refine tkq 2 (some 82) (v := ?_) rfl (Or.inl ⟨by rfl, ?_⟩) (by assumption) ?_
        rotate_left
        · intro w hSw; (try dsimp only at hSw); go_simp; first | done | (with_reducible rfl)
        simp only [Act.put, List.setIfInBounds_toArray, List.set_cons_zero, List.set_cons_succ]
        refine tkq 3 (some 83) (v := ?_) rfl (Or.inl ⟨by rfl, ?_⟩) (by assumption) ?_
        rotate_left
        · intro w hSw; (try dsimp only at hSw); go_simp; first | done | (with_reducible rfl)
        simp only [Act.put, List.setIfInBounds_toArray, List.set_cons_zero, List.set_cons_succ]
        refine tkq 4 (some 84) (v := .bool true) rfl (Or.inl ⟨by rfl, ?_⟩) (by assumption) ?_
        · intro w hSw; (try dsimp only at hSw); go_simp; rw [IntKind.wrap_i64]; omega
        simp only [Act.put, List.setIfInBounds_toArray, List.set_cons_zero, List.set_cons_succ]
        refine tkq 5 (some 85) (v := ?_) rfl (Or.inl ⟨by rfl, ?_⟩) (by assumption) ?_
        rotate_left
        · intro w hSw; (try dsimp only at hSw); go_simp; first | done | (with_reducible rfl)
        simp only [Act.put, List.setIfInBounds_toArray, List.set_cons_zero, List.set_cons_succ]
        refine tkq 6 (some 86) (v := ?_) rfl (Or.inl ⟨by rfl, ?_⟩) (by assumption) ?_
        rotate_left
        · intro w hSw; (try dsimp only at hSw); go_simp; first | done | (with_reducible rfl)
        simp only [Act.put, List.setIfInBounds_toArray, List.set_cons_zero, List.set_cons_succ]
        refine tkq 7 (some 87) (v := ?_) rfl (Or.inl ⟨by rfl, ?_⟩) (by assumption) ?_
        rotate_left
        · intro w hSw; (try dsimp only at hSw); go_simp; first | done | (with_reducible rfl)
        simp only [Act.put, List.setIfInBounds_toArray, List.set_cons_zero, List.set_cons_succ]
        refine tkq 8 (some 88) (v := ?_) rfl (Or.inl ⟨by rfl, ?_⟩) (by assumption) ?_
        rotate_left
        · intro w hSw; (try dsimp only at hSw); go_simp; first | done | (with_reducible rfl)
        simp only [Act.put, List.setIfInBounds_toArray, List.set_cons_zero, List.set_cons_succ]
        refine tkq 9 (some 89) (v := ?_) rfl (Or.inl ⟨by rfl, ?_⟩) (by assumption) ?_
        rotate_left
        · intro w hSw; (try dsimp only at hSw); have ht := hSw.1; go_simp; first | done | (with_reducible rfl)
        simp only [Act.put, List.setIfInBounds_toArray, List.set_cons_zero, List.set_cons_succ]
        refine tkq 10 (some 90) (v := ?_) rfl (Or.inl ⟨by rfl, ?_⟩) (by assumption) ?_
        rotate_left
        · intro w hSw; (try dsimp only at hSw); go_simp; first | done | (with_reducible rfl)
        simp only [Act.put, List.setIfInBounds_toArray, List.set_cons_zero, List.set_cons_succ]
        refine tkq 11 (some 91) (v := ?_) rfl (Or.inl ⟨by rfl, ?_⟩) (by assumption) ?_
        rotate_left
        · intro w hSw; (try dsimp only at hSw); go_simp; first | done | (with_reducible rfl)
        simp only [Act.put, List.setIfInBounds_toArray, List.set_cons_zero, List.set_cons_succ]
        refine tkq 12 (some 92) (v := ?_) rfl (Or.inl ⟨by rfl, ?_⟩) (by assumption) ?_
        rotate_left
        · intro w hSw; (try dsimp only at hSw); go_simp; first | done | (with_reducible rfl)
        simp only [Act.put, List.setIfInBounds_toArray, List.set_cons_zero, List.set_cons_succ]
        refine tkq 13 (some 93) (v := ?_) rfl (Or.inl ⟨by rfl, ?_⟩) (by assumption) ?_
        rotate_left
        · intro w hSw; (try dsimp only at hSw); have ht := hSw.2; go_simp; first | done | (with_reducible rfl)
        simp only [Act.put, List.setIfInBounds_toArray, List.set_cons_zero, List.set_cons_succ]
        refine tkq 14 (some 94) (v := ?_) rfl (Or.inl ⟨by rfl, ?_⟩) (by assumption) ?_
        rotate_left
        · intro w hSw; (try dsimp only at hSw); go_simp; first | done | (with_reducible rfl)
        simp only [Act.put, List.setIfInBounds_toArray, List.set_cons_zero, List.set_cons_succ]
        refine tkq 15 (some 95) (v := ?_) rfl (Or.inl ⟨by rfl, ?_⟩) (by assumption) ?_
        rotate_left
        · intro w hSw; (try dsimp only at hSw); go_simp; first | done | (with_reducible rfl)
        simp only [Act.put, List.setIfInBounds_toArray, List.set_cons_zero, List.set_cons_succ]
        refine tkq 16 (some 96) (v := ?_) rfl (Or.inl ⟨by rfl, ?_⟩) (by assumption) ?_
        rotate_left
        · intro w hSw; (try dsimp only at hSw); go_simp; first | done | (with_reducible rfl)
        simp only [Act.put, List.setIfInBounds_toArray, List.set_cons_zero, List.set_cons_succ]
        refine wpAnyH_ready (rs := [17]) (by kernel_rfl) (by simp) ?_
        refine AllReadyH.cons rfl (fun K hK => ?_) AllReadyH.nil
        go_simp
        go_wp2_with (go_at_call 10; refine (lknown_any _).mono ?_; rintro e w6 ⟨rfl, hb6⟩; have r4 := (r4.below hb6).more hb6.size; have r5 := (r5.below hb6).more hb6.size; have hb6 := hb5.trans (hb6.mono hb5.size))
        refine hK.out _ _ (⟨HTX.out w6 _ _ r4, HTX.out w6 _ _ r5⟩) (fun hHeld => ?_)
        clear hK K
        refine tkq 18 (some 98) (v := ?_) rfl (Or.inl ⟨by rfl, ?_⟩) (by assumption) ?_
        rotate_left
        · intro w hSw; (try dsimp only at hSw); go_simp; first | done | (with_reducible rfl)
        simp only [Act.put, List.setIfInBounds_toArray, List.set_cons_zero, List.set_cons_succ]
        refine tkq 19 (some 10) (v := ?_) rfl (Or.inl ⟨by rfl, ?_⟩) (by assumption) ?_
        rotate_left
        · intro w hSw; (try dsimp only at hSw); go_simp; first | done | (with_reducible rfl)
        simp only [Act.put, List.setIfInBounds_toArray, List.set_cons_zero, List.set_cons_succ]
        refine wpAnyH_done (by kernel_rfl) ?_ _
        go_wp2_with fail
        go_ret
        exact ⟨rfl, hb6⟩
theorem lturns_law (a0 a1 : Int) (A2 : Option Addr) (n2 c2 : Nat) (bs2 : List Int) (A3 : Option Addr) (n3 c3 : Nat) (bs3 : List Int) (A4 : Option Addr) (n4 c4 : Nat) (bs4 : List Int) (w : World) (w0 : (Lit.int .u64 a0).wf = true) (w1 : (Lit.int .u64 a1).wf = true) (w2 : InRow w A2 n2 c2 bs2) (s2 : c2 ≤ 140737488351232) (w3 : InRow w A3 n3 c3 bs3) (s3 : c3 ≤ 140737488351232) (w4 : InRow w A4 n4 c4 bs4) (s4 : c4 ≤ 140737488351232) :
    Calls Try.prog 6 #[.int .u64 a0, .int .u64 a1, .slice A2 n2 c2, .slice A3 n3 c3, .slice A4 n4 c4] w fun e w' => e = .returned (.bool true) ∧ Below w.heap.size w w' := by
  have h0 := bounds_u64 w0
  have h1 := bounds_u64 w1
  exact lturns_walk a0 a1 A2 n2 c2 bs2 A3 n3 c3 bs3 A4 n4 c4 bs4 w h0.1 (by omega) h1.1 (by omega) w2 s2 w3 w4
end Go.Proofs.Ytkgeeoogmkpjhaa
