/-
  LockNumbers, the closed sentence of chapter 8's runs, returns true: its walk.
-/
import Derived.Test.YtkgeeoogmkpjhaaL2
namespace Go.Proofs.Ytkgeeoogmkpjhaa
set_option linter.unusedVariables false
set_option linter.unusedSimpArgs false
open Go.RowKit Go.ChangeShapes Go.WideShapes Go.Deep
theorem half_bd (k : Nat) : 0 ≤ (9223372036854775808 : Int) / 2 ^ k ∧ (9223372036854775808 : Int) / 2 ^ k < 18446744073709551616 := by
  have hp := pow_pos' k
  refine ⟨Int.ediv_nonneg (by omega) (by omega), ?_⟩
  have := Int.ediv_le_self (a := 9223372036854775808) (2 ^ k) (by omega)
  omega
/-- A block of n bytes. -/
def RowN (n : Nat) (w : World) (g : Nat) : Prop := ∃ bs : List Int, bs.length = n ∧ Byt bs ∧ At w g 5 (bs.map (Value.int .u8))
section
variable {n : Nat} {w w' : World} {g : Nat}
theorem RowN.rd (h : RowN n w g) : ∃ bs : List Int, Rd w w.heap.size (some ⟨g, 0, none⟩) n bs := by
  obtain ⟨bs, hl, hb, hA⟩ := h
  refine ⟨bs, hl, hb, fun _ => ⟨g, 0, rfl, hA.lt, fun i hi => ?_⟩⟩
  rw [hA.cell, Nat.zero_add, List.getElem?_map, List.getD_eq_getElem?_getD, List.getElem?_eq_getElem (by omega)]
  rfl
theorem RowN.below (h : RowN n w g) (hb : Below w.heap.size w w') : RowN n w' g := by
  obtain ⟨bs, hl, hB, hA⟩ := h
  exact ⟨bs, hl, hB, hA.below hb hA.lt⟩
theorem RowN.drew (h : RowN n w g) : RowN n w.drew g := h
theorem RowN.cell (h : RowN n w g) (k : Nat) (hk : k < n) : (∃ u, w.cell? ⟨g, k, none⟩ = some u) ∧ w.frozen? ⟨g, k, none⟩ = false := by
  obtain ⟨bs, hl, hB, hA⟩ := h
  refine ⟨⟨.int .u8 (bs[k]'(by omega)), ?_⟩, hA.frozen k⟩
  rw [hA.cell, List.getElem?_map, List.getElem?_eq_getElem (by omega)]
  rfl
theorem RowN.set (h : RowN n w g) (k : Nat) (x : Int) (hx : 0 ≤ x ∧ x < 256) : RowN n (w.setCell ⟨g, k, none⟩ (.int .u8 x)) g := by
  obtain ⟨bs, hl, hB, hA⟩ := h
  refine ⟨bs.set k x, by simp [hl], fun y hy => ?_, ?_⟩
  · rcases List.mem_or_eq_of_mem_set hy with hy | hy
    · exact hB y hy
    · rw [hy]; exact hx
  · rw [List.map_set]; exact hA.set k _
end
set_option maxRecDepth 100000 in
set_option maxHeartbeats 8000000 in
theorem lnumbers_law (w : World) : Calls Try.prog 3 #[] w fun e w' => e = .returned (.bool true) ∧ Below w.heap.size w w' := by
  obtain ⟨i0, hi, hz0, hz1, hz2⟩ := info_parts u8_info
  have hb0 := Below.refl w.heap.size w
  have HSAME := Lib.hid (fun (key n : Int) (Ah : Option Addr) (nh ch : Nat) (head : List Int) (Ab : Option Addr) (nb cb : Nat) (body : List Int) W (h : Rd W W.heap.size Ah nh head) (h' : Rd W W.heap.size Ab nb body) (h1 : nh ≤ ch) (h2 : ch ≤ 1000) (h3 : nb ≤ cb) (h4 : cb ≤ 1000) k0 k1 n0 n1 => lsame_any key n Ah nh ch head Ab nb cb body W h h' h1 (by unfold maxLen; omega) h3 (by unfold maxLen; omega) (by omega) k0 k1 n0 n1)
  have HSEAL := Lib.hid (fun (Ah : Option Addr) (nh ch : Nat) (head : List Int) (Ab : Option Addr) (nb cb : Nat) (body : List Int) W (h : Rd W W.heap.size Ah nh head) (h' : Rd W W.heap.size Ab nb body) (h1 : nh ≤ ch) (h2 : ch ≤ 1000) (h3 : nb ≤ cb) (h4 : cb ≤ 1000) => rseal_any 7 9 Ah nh ch head Ab nb cb body W h h' h1 (by unfold maxLen; omega) h3 (by unfold maxLen; omega) (by omega) (by omega) (by omega) (by omega) (by omega))
  have HOPEN := Lib.hid (fun (Ah : Option Addr) (nh ch : Nat) (head : List Int) (Ab : Option Addr) (nb cb : Nat) (body : List Int) W (h : Rd W W.heap.size Ah nh head) (h' : Rd W W.heap.size Ab nb body) (h1 : nh ≤ ch) (h2 : ch ≤ 1000) (h3 : nb ≤ cb) (h4 : cb ≤ maxLen) (h5 : nb ≤ 1000) => opens_any 7 9 Ah nh ch head Ab nb cb body W h h' h1 (by unfold maxLen; omega) h3 h4 (by omega) (by omega) (by omega) (by omega) (by omega))
  go_enter Try.func3, Try.ntmps3
  go_wp2_with (at_make; refine wpList_make_lc rfl (.const (.int .i64 40)) (.const (.int .i64 40)) 22 rfl 5 i0 (.int .u8 0) Try.underlying22 hi hz0 hz1 .i64 .i64 _ _ 40 40 rfl rfl rfl rfl (by omega) (by rw [hz2]; omega) (by unfold maxLen; omega) w.heap.size w hb0 (Nat.le_refl _) ?_; intro w1 g G1 GE hg hb1 hbw1)
  have hX0 : RowN 40 w1 g := by
    refine ⟨List.replicate 40 0, by simp, fun y hy => by rw [List.eq_of_mem_replicate hy]; omega, ?_⟩
    rw [List.map_replicate, ← madeL_u8]
    exact G1.out
  have HI := Lib.hid (And.intro hb1 hX0)
  clear G1 GE hb1 hbw1 hb0 hX0
  go_loopw [2] (fun i wr => ∃ k : Nat, k ≤ 40 ∧ i = .int .i64 k ∧ Hid (Below w.heap.size w wr ∧ RowN 40 wr g)) (fun i _ => 40 - (intOf i).toNat)
  case atStart => exact ⟨0, by omega, rfl, HI⟩
  case round =>
    obtain ⟨k, hk, rfl, hst⟩ := hrel
    obtain ⟨wo, rfl⟩ : ∃ wo : World, wo = wr := ⟨_, rfl⟩
    have hB := hst.out.1
    have hX := hst.out.2
    clear hst HI
    by_cases hlt : k < 40
    · have hkI : (k : Int) < 40 := by omega
      obtain ⟨⟨u, hc⟩, hf⟩ := hX.cell k hlt
      obtain ⟨xk, hxk⟩ : ∃ x, IntKind.u8.wrap ((k : Int) * 11) = x := ⟨_, rfl⟩
      have hxb := u8_wrap_bd ((k : Int) * 11)
      rw [hxk] at hxb
      have hX2 := hX.set k xk hxb
      have hB2 := hB.setCell (p := ⟨g, k, none⟩) hg (.int .u8 xk)
      have HN := Lib.hid (And.intro hB2 hX2)
      clear hB2 hX hB hX2 hxb
      go_wp2_with fail
      obtain ⟨w2, hw2⟩ : ∃ x, (wo.setCell ⟨g, k, none⟩ (.int .u8 xk)).drew = x := ⟨_, rfl⟩
      have hB2 : Below w.heap.size w (wo.setCell ⟨g, k, none⟩ (.int .u8 xk)).drew := belowN HN.out.1 1
      have hX2 : RowN 40 (wo.setCell ⟨g, k, none⟩ (.int .u8 xk)).drew g := HN.out.2
      rw [hw2] at hB2 hX2
      clear hc hf hxk HN
      obtain ⟨bs, hrd⟩ := hX2.rd
      obtain ⟨p, hp⟩ : ∃ p : Nat, k / 2 = p := ⟨_, rfl⟩
      have hdiv : (k : Int).tdiv 2 = (p : Int) := by rw [Int.tdiv_eq_ediv_of_nonneg (by omega)]; omega
      have hdivE : (k : Int) / 2 = (p : Int) := by omega
      have hpk : p ≤ k := by omega
      have hwp : IntKind.i64.wrap (p : Int) = (p : Int) := by rw [IntKind.wrap_i64]; omega
      have hp40 : p ≤ 40 := by omega
      have hpI : (p : Int) ≤ 40 := by omega
      have hkI2 : (k : Int) ≤ 40 := by omega
      have hk40 : ¬ 40 = k := by omega
      have hwr : IntKind.u64.wrap (k : Int) = (k : Int) := by rw [IntKind.wrap_u64]; omega
      have hmn : min k 64 = k := by omega
      have hvb := half_bd k
      obtain ⟨hv, hhv⟩ : ∃ x, (9223372036854775808 : Int) / 2 ^ k = x := ⟨_, rfl⟩
      rw [hhv] at hvb
      obtain ⟨hv0, hv1⟩ := hvb
      clear hp
      have hd := hrd.cutFrom (c := 40) (k := k) (by omega) (by omega)
      rw [show cutA (some ⟨g, 0, none⟩) 40 k = some ⟨g, k, none⟩ by unfold cutA; rw [if_neg (by omega), Option.map_some, addr_add, Nat.zero_add]] at hd
      have hrk := hrd.cutTo (m := k) (by omega)
      have hrp := hrd.cutTo (m := p) (by omega)
      refine wp_region_held_drew (S := (fun _ => True)) (by kernel_rfl) (trivial) (fun hHeld => ?_)
      rw [hw2]
      clear hw2
      refine tkq 0 (some 19) (v := ?_) rfl (Or.inl ⟨by rfl, ?_⟩) (by assumption) ?_
      rotate_left
      · intro w hSw; (try dsimp only at hSw); go_simp; first | done | (with_reducible rfl)
      simp only [Act.put, List.setIfInBounds_toArray, List.set_cons_zero, List.set_cons_succ]
      refine tkq 1 (some 20) (v := ?_) rfl (Or.inl ⟨by rfl, ?_⟩) (by assumption) ?_
      rotate_left
      · intro w hSw; (try dsimp only at hSw); go_simp; first | done | (with_reducible rfl)
      simp only [Act.put, List.setIfInBounds_toArray, List.set_cons_zero, List.set_cons_succ]
      refine tkq 2 (some 21) (v := ?_) rfl (Or.inl ⟨by rfl, ?_⟩) (by assumption) ?_
      rotate_left
      · intro w hSw; (try dsimp only at hSw); go_simp; first | done | (with_reducible rfl)
      simp only [Act.put, List.setIfInBounds_toArray, List.set_cons_zero, List.set_cons_succ]
      refine tkq 3 (some 22) (v := ?_) rfl (Or.inl ⟨by rfl, ?_⟩) (by assumption) ?_
      rotate_left
      · intro w hSw; (try dsimp only at hSw); go_simp; first | done | (with_reducible rfl)
      simp only [Act.put, List.setIfInBounds_toArray, List.set_cons_zero, List.set_cons_succ]
      refine tkq 4 (some 23) (v := ?_) rfl (Or.inl ⟨by rfl, ?_⟩) (by assumption) ?_
      rotate_left
      · intro w hSw; (try dsimp only at hSw); go_simp; first | done | (with_reducible rfl)
      simp only [Act.put, List.setIfInBounds_toArray, List.set_cons_zero, List.set_cons_succ]
      refine tkq 5 (some 24) (v := ?_) rfl (Or.inl ⟨by rfl, ?_⟩) (by assumption) ?_
      rotate_left
      · intro w hSw; (try dsimp only at hSw); go_simp; first | done | (with_reducible rfl)
      simp only [Act.put, List.setIfInBounds_toArray, List.set_cons_zero, List.set_cons_succ]
      refine tkq 6 (some 25) (v := ?_) rfl (Or.inl ⟨by rfl, ?_⟩) (by assumption) ?_
      rotate_left
      · intro w hSw; (try dsimp only at hSw); go_simp; first | done | (with_reducible rfl)
      simp only [Act.put, List.setIfInBounds_toArray, List.set_cons_zero, List.set_cons_succ]
      refine tkq 7 (some 26) (v := ?_) rfl (Or.inl ⟨by rfl, ?_⟩) (by assumption) ?_
      rotate_left
      · intro w hSw; (try dsimp only at hSw); go_simp; first | done | (with_reducible rfl)
      simp only [Act.put, List.setIfInBounds_toArray, List.set_cons_zero, List.set_cons_succ]
      refine tkq 8 (some 27) (v := ?_) rfl (Or.inl ⟨by rfl, ?_⟩) (by assumption) ?_
      rotate_left
      · intro w hSw; (try dsimp only at hSw); go_simp; first | done | (with_reducible rfl)
      simp only [Act.put, List.setIfInBounds_toArray, List.set_cons_zero, List.set_cons_succ]
      refine tkq 9 (some 28) (v := ?_) rfl (Or.inl ⟨by rfl, ?_⟩) (by assumption) ?_
      rotate_left
      · intro w hSw; (try dsimp only at hSw); go_simp; first | done | (with_reducible rfl)
      simp only [Act.put, List.setIfInBounds_toArray, List.set_cons_zero, List.set_cons_succ]
      refine tkq 10 (some 29) (v := ?_) rfl (Or.inl ⟨by rfl, ?_⟩) (by assumption) ?_
      rotate_left
      · intro w hSw; (try dsimp only at hSw); go_simp; first | done | (with_reducible rfl)
      simp only [Act.put, List.setIfInBounds_toArray, List.set_cons_zero, List.set_cons_succ]
      refine wpAnyH_ready (rs := [11]) (by kernel_rfl) (by simp) ?_
      refine AllReadyH.cons rfl (fun K hK => ?_) AllReadyH.nil
      go_simp
      go_wp2_with (go_at_call 7; refine (HSAME.out k hv (some ⟨g, 0, none⟩) k 40 (bs.take k) (some ⟨g, k, none⟩) (40 - k) (40 - k) (bs.drop k) w2 hrk hd (by omega) (by omega) (by omega) (by omega) (by omega) (by omega) hv0 hv1).mono ?_; rintro e w3 ⟨rfl, hb3⟩; have hB3 := hB2.trans (hb3.mono hB2.size); have hX3 := hX2.below hb3; have hrk3 := (hrk.below hb3).more hb3.size; have hrp3 := (hrp.below hb3).more hb3.size)
      refine hK.out _ _ (trivial) (fun hHeld => ?_)
      clear hK K
      refine tkq 12 (some 31) (v := ?_) rfl (Or.inl ⟨by rfl, ?_⟩) (by assumption) ?_
      rotate_left
      · intro w hSw; (try dsimp only at hSw); go_simp; first | done | (with_reducible rfl)
      simp only [Act.put, List.setIfInBounds_toArray, List.set_cons_zero, List.set_cons_succ]
      refine tkq 13 (some 32) (v := ?_) rfl (Or.inl ⟨by rfl, ?_⟩) (by assumption) ?_
      rotate_left
      · intro w hSw; (try dsimp only at hSw); go_simp; first | done | (with_reducible rfl)
      simp only [Act.put, List.setIfInBounds_toArray, List.set_cons_zero, List.set_cons_succ]
      refine tkq 14 (some 33) (v := ?_) rfl (Or.inl ⟨by rfl, ?_⟩) (by assumption) ?_
      rotate_left
      · intro w hSw; (try dsimp only at hSw); go_simp; first | done | (with_reducible rfl)
      simp only [Act.put, List.setIfInBounds_toArray, List.set_cons_zero, List.set_cons_succ]
      refine tkq 15 (some 34) (v := ?_) rfl (Or.inl ⟨by rfl, ?_⟩) (by assumption) ?_
      rotate_left
      · intro w hSw; (try dsimp only at hSw); go_simp; first | done | (with_reducible rfl)
      simp only [Act.put, List.setIfInBounds_toArray, List.set_cons_zero, List.set_cons_succ]
      refine tkq 16 (some 35) (v := ?_) rfl (Or.inl ⟨by rfl, ?_⟩) (by assumption) ?_
      rotate_left
      · intro w hSw; (try dsimp only at hSw); go_simp; first | done | (with_reducible rfl)
      simp only [Act.put, List.setIfInBounds_toArray, List.set_cons_zero, List.set_cons_succ]
      refine tkq 17 (some 36) (v := ?_) rfl (Or.inl ⟨by rfl, ?_⟩) (by assumption) ?_
      rotate_left
      · intro w hSw; (try dsimp only at hSw); go_simp; first | done | (with_reducible rfl)
      simp only [Act.put, List.setIfInBounds_toArray, List.set_cons_zero, List.set_cons_succ]
      refine tkq 18 (some 37) (v := ?_) rfl (Or.inl ⟨by rfl, ?_⟩) (by assumption) ?_
      rotate_left
      · intro w hSw; (try dsimp only at hSw); go_simp; first | done | (with_reducible rfl)
      simp only [Act.put, List.setIfInBounds_toArray, List.set_cons_zero, List.set_cons_succ]
      refine tkq 19 (some 38) (v := ?_) rfl (Or.inl ⟨by rfl, ?_⟩) (by assumption) ?_
      rotate_left
      · intro w hSw; (try dsimp only at hSw); go_simp; first | done | (with_reducible rfl)
      simp only [Act.put, List.setIfInBounds_toArray, List.set_cons_zero, List.set_cons_succ]
      refine tkq 20 (some 39) (v := ?_) rfl (Or.inl ⟨by rfl, ?_⟩) (by assumption) ?_
      rotate_left
      · intro w hSw; (try dsimp only at hSw); go_simp; first | done | (with_reducible rfl)
      simp only [Act.put, List.setIfInBounds_toArray, List.set_cons_zero, List.set_cons_succ]
      refine wpAnyH_ready (rs := [21]) (by kernel_rfl) (by simp) ?_
      refine AllReadyH.cons rfl (fun K hK => ?_) AllReadyH.nil
      go_simp
      go_wp2_with (go_at_call 7; refine (HSAME.out 7 9 (some ⟨g, 0, none⟩) p 40 (bs.take p) (some ⟨g, 0, none⟩) k 40 (bs.take k) w3 hrp3 hrk3 (by omega) (by omega) (by omega) (by omega) (by omega) (by omega) (by omega) (by omega)).mono ?_; rintro e w4 ⟨rfl, hb4⟩; have hB4 := hB3.trans (hb4.mono hB3.size); have hX4 := hX3.below hb4; have hrk4 := (hrk3.below hb4).more hb4.size; have hrp4 := (hrp3.below hb4).more hb4.size)
      refine hK.out _ _ (trivial) (fun hHeld => ?_)
      clear hK K
      refine tkq 22 (some 41) (v := ?_) rfl (Or.inl ⟨by rfl, ?_⟩) (by assumption) ?_
      rotate_left
      · intro w hSw; (try dsimp only at hSw); go_simp; first | done | (with_reducible rfl)
      simp only [Act.put, List.setIfInBounds_toArray, List.set_cons_zero, List.set_cons_succ]
      refine tkq 23 (some 42) (v := ?_) rfl (Or.inl ⟨by rfl, ?_⟩) (by assumption) ?_
      rotate_left
      · intro w hSw; (try dsimp only at hSw); go_simp; first | done | (with_reducible rfl)
      simp only [Act.put, List.setIfInBounds_toArray, List.set_cons_zero, List.set_cons_succ]
      refine wpAnyH_done (by kernel_rfl) ?_ _
      clear hrk hrp hd hrd hrk3 hrp3 hB2 hX2 hB3 hX3 hHeld
      go_wp2_with fail
      have hB4 : Below w.heap.size w w4.drew := belowN hB4 1
      have hX4 : RowN 40 w4.drew g := hX4
      have hrk4 : Rd w4.drew w4.drew.heap.size _ _ _ := hrk4.drew
      have hrp4 : Rd w4.drew w4.drew.heap.size _ _ _ := hrp4.drew
      obtain ⟨w5, hw5⟩ : ∃ x, w4.drew = x := ⟨_, rfl⟩
      rw [hw5] at hB4 hX4 hrk4 hrp4
      refine wp_region_held_drew (S := (fun _ => True)) (by kernel_rfl) (trivial) (fun hHeld => ?_)
      rw [hw5]
      clear hw5
      refine tkq 0 (some 43) (v := ?_) rfl (Or.inl ⟨by rfl, ?_⟩) (by assumption) ?_
      rotate_left
      · intro w hSw; (try dsimp only at hSw); go_simp; first | done | (with_reducible rfl)
      simp only [Act.put, List.setIfInBounds_toArray, List.set_cons_zero, List.set_cons_succ]
      refine tkq 1 (some 44) (v := ?_) rfl (Or.inl ⟨by rfl, ?_⟩) (by assumption) ?_
      rotate_left
      · intro w hSw; (try dsimp only at hSw); go_simp; first | done | (with_reducible rfl)
      simp only [Act.put, List.setIfInBounds_toArray, List.set_cons_zero, List.set_cons_succ]
      refine tkq 2 (some 45) (v := ?_) rfl (Or.inl ⟨by rfl, ?_⟩) (by assumption) ?_
      rotate_left
      · intro w hSw; (try dsimp only at hSw); go_simp; first | done | (with_reducible rfl)
      simp only [Act.put, List.setIfInBounds_toArray, List.set_cons_zero, List.set_cons_succ]
      refine tkq 3 (some 46) (v := ?_) rfl (Or.inl ⟨by rfl, ?_⟩) (by assumption) ?_
      rotate_left
      · intro w hSw; (try dsimp only at hSw); go_simp; first | done | (with_reducible rfl)
      simp only [Act.put, List.setIfInBounds_toArray, List.set_cons_zero, List.set_cons_succ]
      refine tkq 4 (some 47) (v := ?_) rfl (Or.inl ⟨by rfl, ?_⟩) (by assumption) ?_
      rotate_left
      · intro w hSw; (try dsimp only at hSw); go_simp; first | done | (with_reducible rfl)
      simp only [Act.put, List.setIfInBounds_toArray, List.set_cons_zero, List.set_cons_succ]
      refine tkq 5 (some 48) (v := ?_) rfl (Or.inl ⟨by rfl, ?_⟩) (by assumption) ?_
      rotate_left
      · intro w hSw; (try dsimp only at hSw); go_simp; first | done | (with_reducible rfl)
      simp only [Act.put, List.setIfInBounds_toArray, List.set_cons_zero, List.set_cons_succ]
      refine tkq 6 (some 49) (v := ?_) rfl (Or.inl ⟨by rfl, ?_⟩) (by assumption) ?_
      rotate_left
      · intro w hSw; (try dsimp only at hSw); go_simp; first | done | (with_reducible rfl)
      simp only [Act.put, List.setIfInBounds_toArray, List.set_cons_zero, List.set_cons_succ]
      refine wpAnyH_ready (rs := [7]) (by kernel_rfl) (by simp) ?_
      refine AllReadyH.cons rfl (fun K hK => ?_) AllReadyH.nil
      go_simp
      go_wp2_with (go_at_call 8; refine (HSEAL.out (some ⟨g, 0, none⟩) p 40 (bs.take p) (some ⟨g, 0, none⟩) k 40 (bs.take k) w5 hrp4 hrk4 (by omega) (by omega) (by omega) (by omega)).mono ?_; rintro e w6 ⟨v6, rfl, ho6, hb6⟩; have hX6 := hX4.below hb6; have hB6 := hB4.trans (hb6.mono hB4.size); have hsl : (sealS 7 9 (bs.take p) (bs.take k)).length = k + 8 := (by rw [sealS_len, hrk4.1]); obtain ⟨As, cs, rfl, p1, p2, p3⟩ := ho6.open_n (k + 8) hsl)
      refine hK.out _ _ (trivial) (fun hHeld => ?_)
      clear hK K
      refine tkq 8 (some 3) (v := ?_) rfl (Or.inl ⟨by rfl, ?_⟩) (by assumption) ?_
      rotate_left
      · intro w hSw; (try dsimp only at hSw); go_simp; first | done | (with_reducible rfl)
      simp only [Act.put, List.setIfInBounds_toArray, List.set_cons_zero, List.set_cons_succ]
      refine wpAnyH_done (by kernel_rfl) ?_ _
      obtain ⟨s, hs⟩ : ∃ x, sealS 7 9 (bs.take p) (bs.take k) = x := ⟨_, rfl⟩
      rw [hs] at p3 hsl
      have HSL := Lib.hid hsl
      have hp2 := p2
      unfold maxLen at hp2
      have hcsI : (k : Int) + 8 ≤ (cs : Int) := by omega
      have HI := Lib.hid (And.intro hB6 (And.intro hX6 p3))
      clear hrk4 hrp4 hB4 hX4 ho6 hb6 hsl hs p3 hB6 hX6 hHeld
      go_wp2_with fail
      go_loopw [4] (fun i wr => ∃ j : Nat, j ≤ k + 8 ∧ i = .int .i64 j ∧ Hid (Below w.heap.size w wr ∧ RowN 40 wr g ∧ Rd wr wr.heap.size As (k + 8) s)) (fun i _ => k + 8 - (intOf i).toNat)
      case atStart => exact ⟨0, by omega, rfl, HI⟩
      case round =>
        obtain ⟨j, hj, rfl, hst⟩ := hrel
        obtain ⟨wo, rfl⟩ : ∃ wo : World, wo = wr := ⟨_, rfl⟩
        have hB := hst.out.1
        have hX := hst.out.2.1
        have hR := hst.out.2.2
        clear hst HI
        by_cases hlj : j < k + 8
        · have hjI : (j : Int) < (k : Int) + 8 := by omega
          have hjc : (j : Int) ≤ (cs : Int) := by omega
          have hjcn : j ≤ cs := by omega
          obtain ⟨gs, os_, rfl, _, _⟩ := hR.2.2 (by omega)
          have hbn : Below wo.heap.size wo (wo.alloc (.cells #[] 5)) := (Below.refl _ _).alloc (Nat.le_refl _) _
          have hR2 := hR.below hbn
          go_wp2_with (first | (at_builtin; refine wpList_append_rd (by rfl) (.tmp 57) (.tmp 58) 22 rfl wo.heap.size 5 i0 Try.underlying22 hi hz0 hz1 hz2 _ [] rfl (Own.of_block (n := 0) (cap := 0) Byt.nil rfl (heap_alloc_new wo _) (Nat.le_refl _) (Nat.le_refl _) (Nat.zero_le _) rfl rfl) _ _ (k + 8) cs s rfl hR2 (by simp; omega) wo hbn hbn.size ?_; intro v2 w7 ho7 hb7 hg7; have ho7 := ho7.cast (List.nil_append s); obtain ⟨A2, c2, rfl, q1, q2, _⟩ := ho7.open_n (k + 8) HSL.out; obtain ⟨g2, c', _, hv, _, _, _, hgb, _, _⟩ := ho7.place (by rw [HSL.out]; omega); obtain ⟨rfl, rfl⟩ : A2 = some ⟨g2, 0, none⟩ ∧ c2 = c' := (by injection hv with e1 e2 e3; exact ⟨e1, e3⟩); clear hv hg7; obtain ⟨y, hy⟩ : ∃ y, s.getD j 0 = y := ⟨_, rfl⟩; obtain ⟨hcy, _, _, hfz⟩ := own_cell ho7 HSL.out j y (by rw [← hy, List.getD_eq_getElem?_getD, List.getElem?_eq_getElem (by rw [HSL.out]; omega)]; rfl); have hq2 := q2; unfold maxLen at hq2; clear hy; obtain ⟨w8, hw8⟩ : ∃ x, w7.setCell ⟨g2, j, none⟩ (.int .u8 (bits BinOp.xor IntKind.u8 y 1)) = x := ⟨_, rfl⟩; have ho8 := own_set ho7 HSL.out (by omega) j (bits BinOp.xor IntKind.u8 y 1) (u8_bits_bd _ _ _); have hb8 := hb7.setCell (p := ⟨g2, j, none⟩) hgb (.int .u8 (bits BinOp.xor IntKind.u8 y 1)); rw [hw8] at ho8 hb8) | fail)
          clear hw8 hcy hfz ho7 hb7
          have hx8 : (s.set j (bits BinOp.xor IntKind.u8 y 1)).length = k + 8 := by rw [List.length_set, HSL.out]
          obtain ⟨_, _, e8, _, _, q8⟩ := ho8.open_n (k + 8) hx8
          injection e8 with e8 _ e9
          subst e8; subst e9
          obtain ⟨x, hx⟩ : ∃ x, s.set j (bits BinOp.xor IntKind.u8 y 1) = x := ⟨_, rfl⟩
          rw [hx] at q8
          clear hx hx8 ho8
          have hX8 := hX.below hb8
          have hR8 := (hR.below hb8).more hb8.size
          have hB8 := hB.trans (hb8.mono hB.size)
          have hB8 : Below w.heap.size w w8.drew := belowN hB8 1
          have hX8 : RowN 40 w8.drew g := hX8
          have hR8 : Rd w8.drew w8.drew.heap.size _ _ _ := hR8.drew
          have q8 : Rd w8.drew w8.drew.heap.size _ _ _ := q8.drew
          obtain ⟨w9, hw9⟩ : ∃ x, w8.drew = x := ⟨_, rfl⟩
          rw [hw9] at hB8 hX8 hR8 q8
          obtain ⟨bs9, hr9⟩ := hX8.rd
          have hr9 := hr9.cutTo (m := p) (by omega)
          clear hB hX hR hR2 hb8 hbn
          refine wp_region_held_drew (S := (fun _ => True)) (by kernel_rfl) (trivial) (fun hHeld => ?_)
          rw [hw9]
          clear hw9
          refine tkq 0 (some 66) (v := ?_) rfl (Or.inl ⟨by rfl, ?_⟩) (by assumption) ?_
          rotate_left
          · intro w hSw; (try dsimp only at hSw); go_simp; first | done | (with_reducible rfl)
          simp only [Act.put, List.setIfInBounds_toArray, List.set_cons_zero, List.set_cons_succ]
          refine tkq 1 (some 67) (v := ?_) rfl (Or.inl ⟨by rfl, ?_⟩) (by assumption) ?_
          rotate_left
          · intro w hSw; (try dsimp only at hSw); go_simp; first | done | (with_reducible rfl)
          simp only [Act.put, List.setIfInBounds_toArray, List.set_cons_zero, List.set_cons_succ]
          refine tkq 2 (some 68) (v := ?_) rfl (Or.inl ⟨by rfl, ?_⟩) (by assumption) ?_
          rotate_left
          · intro w hSw; (try dsimp only at hSw); go_simp; first | done | (with_reducible rfl)
          simp only [Act.put, List.setIfInBounds_toArray, List.set_cons_zero, List.set_cons_succ]
          refine tkq 3 (some 69) (v := ?_) rfl (Or.inl ⟨by rfl, ?_⟩) (by assumption) ?_
          rotate_left
          · intro w hSw; (try dsimp only at hSw); go_simp; first | done | (with_reducible rfl)
          simp only [Act.put, List.setIfInBounds_toArray, List.set_cons_zero, List.set_cons_succ]
          refine tkq 4 (some 70) (v := ?_) rfl (Or.inl ⟨by rfl, ?_⟩) (by assumption) ?_
          rotate_left
          · intro w hSw; (try dsimp only at hSw); go_simp; first | done | (with_reducible rfl)
          simp only [Act.put, List.setIfInBounds_toArray, List.set_cons_zero, List.set_cons_succ]
          refine wpAnyH_ready (rs := [5]) (by kernel_rfl) (by simp) ?_
          refine AllReadyH.cons rfl (fun K hK => ?_) AllReadyH.nil
          go_simp
          go_wp2_with (go_at_call 9; refine (HOPEN.out (some ⟨g, 0, none⟩) p 40 _ (some ⟨g2, 0, none⟩) (k + 8) c2 x w9 hr9 q8 (by omega) (by omega) q1 q2 (by omega)).mono ?_; rintro e wa ⟨rfl, hba⟩; have hBa := hB8.trans (hba.mono hB8.size); have hXa := hX8.below hba; have hRa := (hR8.below hba).more hba.size; have hra := (hr9.below hba).more hba.size)
          refine hK.out _ _ (trivial) (fun hHeld => ?_)
          clear hK K
          refine tkq 6 (some 72) (v := ?_) rfl (Or.inl ⟨by rfl, ?_⟩) (by assumption) ?_
          rotate_left
          · intro w hSw; (try dsimp only at hSw); go_simp; first | done | (with_reducible rfl)
          simp only [Act.put, List.setIfInBounds_toArray, List.set_cons_zero, List.set_cons_succ]
          refine tkq 7 (some 73) (v := ?_) rfl (Or.inl ⟨by rfl, ?_⟩) (by assumption) ?_
          rotate_left
          · intro w hSw; (try dsimp only at hSw); go_simp; first | done | (with_reducible rfl)
          simp only [Act.put, List.setIfInBounds_toArray, List.set_cons_zero, List.set_cons_succ]
          refine tkq 8 (some 74) (v := ?_) rfl (Or.inl ⟨by rfl, ?_⟩) (by assumption) ?_
          rotate_left
          · intro w hSw; (try dsimp only at hSw); go_simp; first | done | (with_reducible rfl)
          simp only [Act.put, List.setIfInBounds_toArray, List.set_cons_zero, List.set_cons_succ]
          refine tkq 9 (some 75) (v := ?_) rfl (Or.inl ⟨by rfl, ?_⟩) (by assumption) ?_
          rotate_left
          · intro w hSw; (try dsimp only at hSw); go_simp; first | done | (with_reducible rfl)
          simp only [Act.put, List.setIfInBounds_toArray, List.set_cons_zero, List.set_cons_succ]
          refine tkq 10 (some 76) (v := ?_) rfl (Or.inl ⟨by rfl, ?_⟩) (by assumption) ?_
          rotate_left
          · intro w hSw; (try dsimp only at hSw); go_simp; first | done | (with_reducible rfl)
          simp only [Act.put, List.setIfInBounds_toArray, List.set_cons_zero, List.set_cons_succ]
          refine tkq 11 (some 77) (v := ?_) rfl (Or.inl ⟨by rfl, ?_⟩) (by assumption) ?_
          rotate_left
          · intro w hSw; (try dsimp only at hSw); go_simp; first | done | (with_reducible rfl)
          simp only [Act.put, List.setIfInBounds_toArray, List.set_cons_zero, List.set_cons_succ]
          refine tkq 12 (some 78) (v := ?_) rfl (Or.inl ⟨by rfl, ?_⟩) (by assumption) ?_
          rotate_left
          · intro w hSw; (try dsimp only at hSw); go_simp; first | done | (with_reducible rfl)
          simp only [Act.put, List.setIfInBounds_toArray, List.set_cons_zero, List.set_cons_succ]
          refine tkq 13 (some 79) (v := ?_) rfl (Or.inl ⟨by rfl, ?_⟩) (by assumption) ?_
          rotate_left
          · intro w hSw; (try dsimp only at hSw); go_simp; first | done | (with_reducible rfl)
          simp only [Act.put, List.setIfInBounds_toArray, List.set_cons_zero, List.set_cons_succ]
          refine tkq 14 (some 80) (v := ?_) rfl (Or.inl ⟨by rfl, ?_⟩) (by assumption) ?_
          rotate_left
          · intro w hSw; (try dsimp only at hSw); go_simp; first | done | (with_reducible rfl)
          simp only [Act.put, List.setIfInBounds_toArray, List.set_cons_zero, List.set_cons_succ]
          refine wpAnyH_ready (rs := [15]) (by kernel_rfl) (by simp) ?_
          refine AllReadyH.cons rfl (fun K hK => ?_) AllReadyH.nil
          go_simp
          go_wp2_with (go_at_call 9; refine (HOPEN.out (some ⟨g, 0, none⟩) p 40 _ (some ⟨gs, os_, none⟩) j cs (s.take j) wa hra (hRa.cutTo (by omega)) (by omega) (by omega) hjcn p2 (by omega)).mono ?_; rintro e wb ⟨rfl, hbb⟩; have hBb := hBa.trans (hbb.mono hBa.size); have hXb := hXa.below hbb; have hRb := (hRa.below hbb).more hbb.size)
          refine hK.out _ _ (trivial) (fun hHeld => ?_)
          clear hK K
          refine tkq 16 (some 82) (v := ?_) rfl (Or.inl ⟨by rfl, ?_⟩) (by assumption) ?_
          rotate_left
          · intro w hSw; (try dsimp only at hSw); go_simp; first | done | (with_reducible rfl)
          simp only [Act.put, List.setIfInBounds_toArray, List.set_cons_zero, List.set_cons_succ]
          refine tkq 17 (some 83) (v := ?_) rfl (Or.inl ⟨by rfl, ?_⟩) (by assumption) ?_
          rotate_left
          · intro w hSw; (try dsimp only at hSw); go_simp; first | done | (with_reducible rfl)
          simp only [Act.put, List.setIfInBounds_toArray, List.set_cons_zero, List.set_cons_succ]
          refine wpAnyH_done (by kernel_rfl) ?_ _
          have HN := Lib.hid (And.intro hBb (And.intro hXb hRb))
          clear hBa hXa hRa hra hBb hXb hRb hB8 hX8 hR8 q8 hr9 hHeld
          go_wp2_with fail
          go_roundw
          case rel => exact ⟨j + 1, by omega, by go_num, HN⟩
          case measure => simp [intOf]; omega
        · obtain rfl : j = k + 8 := by omega
          have HN := Lib.hid (And.intro hB hX)
          clear hB hX hR
          go_wp2_with fail
          go_roundw
          case rel => exact ⟨k + 1, by omega, by go_num, HN⟩
          case measure => simp [intOf]; omega
    · obtain rfl : k = 40 := by omega
      rw [show ((40 : Nat) : Int) = 40 from rfl]
      go_wp2_with fail
      refine (lknown_any wo).mono ?_
      rintro e w9 ⟨rfl, hb9⟩
      go_wp2_with fail
      go_ret
      exact ⟨rfl, hB.trans (hb9.mono hB.size)⟩
end Go.Proofs.Ytkgeeoogmkpjhaa
