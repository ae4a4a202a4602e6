/-
  MixNumbers, the closed sentence of chapter 7's runs, returns true: its walk.
-/
import Derived.Test.YtmpllhcgimablaaMs
namespace Go.Proofs.Ytmpllhcgimablaa
set_option linter.unusedVariables false
set_option linter.unusedSimpArgs false
open Go.RowKit Go.ChangeShapes Go.WideShapes Go.Deep
theorem seed_nil : keyedS 0 [] = endS 11400714819323198485 := by
  unfold keyedS rowS seedS
  simp only [List.take_nil, List.foldl_nil, List.length_nil]
  rw [show IntKind.u64.wrap (bits BinOp.xor IntKind.u64 0 11400714819323198485 + ((0 : Nat) : Int)) = 11400714819323198485 by decide]
theorem half_bd (k : Nat) : 0 ≤ (9223372036854775808 : Int) / 2 ^ k ∧ (9223372036854775808 : Int) / 2 ^ k < 18446744073709551616 := by
  have hp := pow_pos' k
  refine ⟨Int.ediv_nonneg (by omega) (by omega), ?_⟩
  have := Int.ediv_le_self (a := 9223372036854775808) (2 ^ k) (by omega)
  omega
/-- A block of 70 bytes. -/
def Row70 (w : World) (g : Nat) : Prop := ∃ bs : List Int, bs.length = 70 ∧ Byt bs ∧ At w g 5 (bs.map (Value.int .u8))
theorem Row70.rd {w : World} {g : Nat} (h : Row70 w g) : ∃ bs : List Int, Rd w w.heap.size (some ⟨g, 0, none⟩) 70 bs := by
  obtain ⟨bs, hl, hb, hA⟩ := h
  refine ⟨bs, hl, hb, fun _ => ⟨g, 0, rfl, hA.lt, fun i hi => ?_⟩⟩
  rw [hA.cell, Nat.zero_add, List.getElem?_map, List.getD_eq_getElem?_getD, List.getElem?_eq_getElem (by omega)]
  rfl
theorem Row70.below {w w' : World} {g : Nat} (h : Row70 w g) (hb : Below w.heap.size w w') : Row70 w' g := by
  obtain ⟨bs, hl, hB, hA⟩ := h
  exact ⟨bs, hl, hB, hA.below hb hA.lt⟩
theorem Row70.cell {w : World} {g : Nat} (h : Row70 w g) (k : Nat) (hk : k < 70) : (∃ u, w.cell? ⟨g, k, none⟩ = some u) ∧ w.frozen? ⟨g, k, none⟩ = false := by
  obtain ⟨bs, hl, hB, hA⟩ := h
  refine ⟨⟨.int .u8 (bs[k]'(by omega)), ?_⟩, hA.frozen k⟩
  rw [hA.cell, List.getElem?_map, List.getElem?_eq_getElem (by omega)]
  rfl
theorem Row70.set {w : World} {g : Nat} (h : Row70 w g) (k : Nat) (x : Int) (hx : 0 ≤ x ∧ x < 256) : Row70 (w.setCell ⟨g, k, none⟩ (.int .u8 x)) g := by
  obtain ⟨bs, hl, hB, hA⟩ := h
  refine ⟨bs.set k x, by simp [hl], fun y hy => ?_, ?_⟩
  · rcases List.mem_or_eq_of_mem_set hy with hy | hy
    · exact hB y hy
    · rw [hy]; exact hx
  · rw [List.map_set]; exact hA.set k _
set_option maxRecDepth 100000 in
set_option maxHeartbeats 4000000 in
theorem mnumbers_law (w : World) : Calls Try.prog 3 #[] w fun e w' => e = .returned (.bool true) ∧ Below w.heap.size w w' := by
  obtain ⟨i0, hi, hz0, hz1, hz2⟩ := info_parts u8_info
  have hb0 := Below.refl w.heap.size w
  go_enter Try.func3, Try.ntmps3
  go_wp2_with (at_make; refine wpList_make_lc rfl (.const (.int .i64 70)) (.const (.int .i64 70)) 22 rfl 5 i0 (.int .u8 0) Try.underlying22 hi hz0 hz1 .i64 .i64 _ _ 70 70 rfl rfl rfl rfl (by omega) (by rw [hz2]; omega) (by unfold maxLen; omega) w.heap.size w hb0 (Nat.le_refl _) ?_; intro w1 g G1 GE hg hb1 hbw1)
  have hX0 : Row70 w1 g := by
    refine ⟨List.replicate 70 0, by simp, fun y hy => by rw [List.eq_of_mem_replicate hy]; omega, ?_⟩
    rw [List.map_replicate, ← madeL_u8]
    exact G1.out
  have HI := Lib.hid (And.intro hb1 hX0)
  clear G1 GE hb1 hbw1 hb0 hX0
  go_loopw [2] (fun i wr => ∃ k : Nat, k ≤ 70 ∧ i = .int .i64 k ∧ Hid (Below w.heap.size w wr ∧ Row70 wr g)) (fun i _ => 70 - (intOf i).toNat)
  case atStart => exact ⟨0, by omega, rfl, HI⟩
  case round =>
    obtain ⟨k, hk, rfl, hst⟩ := hrel
    obtain ⟨wo, rfl⟩ : ∃ wo : World, wo = wr := ⟨_, rfl⟩
    have hB := hst.out.1
    have hX := hst.out.2
    clear hst HI
    by_cases hlt : k < 70
    · have hkI : (k : Int) < 70 := by omega
      obtain ⟨⟨u, hc⟩, hf⟩ := hX.cell k hlt
      obtain ⟨xk, hxk⟩ : ∃ x, IntKind.u8.wrap ((k : Int) * 37) = x := ⟨_, rfl⟩
      have hxb := u8_wrap_bd ((k : Int) * 37)
      rw [hxk] at hxb
      have hX2 := hX.set k xk hxb
      have hB2 := hB.setCell (p := ⟨g, k, none⟩) hg (.int .u8 xk)
      have HN := Lib.hid (And.intro hB2 hX2)
      clear hB2 hX hB hX2 hxb
      go_wp2_with fail
      obtain ⟨w2, hw2⟩ : ∃ x, wo.setCell ⟨g, k, none⟩ (.int .u8 xk) = x := ⟨_, rfl⟩
      rw [hw2] at HN ⊢
      clear hw2 hc hf hxk
      have hB2 := HN.out.1
      have hX2 := HN.out.2
      obtain ⟨bs, hrd⟩ := hX2.rd
      clear HN
      refine (msame_any k (some ⟨g, 0, none⟩) k 70 (bs.take k) w2 (hrd.cutTo (by omega)) (by omega) (by unfold maxLen; omega) (by omega) (by omega)).mono ?_
      rintro e w3 ⟨rfl, hb3⟩
      have hB3 := hB2.trans (hb3.mono hB2.size)
      have hX3 := hX2.below hb3
      have hr3 := (hrd.below hb3).more hb3.size
      clear hB2 hX2 hrd hb3
      have hkc : k ≤ 70 := hk
      have hmod : (k : Int).tmod 64 = k % 64 := Int.tmod_eq_emod_of_nonneg (by omega)
      obtain ⟨q, hq⟩ : ∃ q : Nat, k % 64 = q := ⟨_, rfl⟩
      have hq64 : q < 64 := by omega
      have hqI : (k : Int) % 64 = q := by omega
      rw [hqI] at hmod
      clear hq hqI
      obtain ⟨p, hp⟩ : ∃ p : Nat, k / 2 = p := ⟨_, rfl⟩
      have hdiv : (k : Int).tdiv 2 = (p : Int) := by rw [Int.tdiv_eq_ediv_of_nonneg (by omega)]; omega
      have hp70 : p ≤ 70 := by omega
      have hpI : (p : Int) ≤ 70 := by omega
      clear hp
      have hd := hr3.cutFrom (c := 70) (k := k) (by omega) (by omega)
      rw [show cutA (some ⟨g, 0, none⟩) 70 k = some ⟨g, k, none⟩ by unfold cutA; rw [if_neg (by omega), Option.map_some, addr_add, Nat.zero_add]] at hd
      go_wp2_with fail
      refine (msame_any _ (some ⟨g, k, none⟩) (70 - k) (70 - k) (bs.drop k) w3 hd (by omega) (by unfold maxLen; omega) (half_bd q).1 (half_bd q).2).mono ?_
      rintro e w4 ⟨rfl, hb4⟩
      have hB4 := hB3.trans (hb4.mono hB3.size)
      have hX4 := hX3.below hb4
      have hr4 := (hr3.below hb4).more hb4.size
      clear hB3 hX3 hr3 hb4 hd
      go_wp2_with fail
      refine (msame_any _ (some ⟨g, 0, none⟩) p 70 (bs.take p) w4 (hr4.cutTo (by omega)) (by omega) (by unfold maxLen; omega) (by omega) (by omega)).mono ?_
      rintro e w5 ⟨rfl, hb5⟩
      have hB5 := hB4.trans (hb5.mono hB4.size)
      have hX5 := hX4.below hb5
      clear hB4 hX4 hr4 hb5
      go_wp2_with fail
      go_roundw
      case rel => exact ⟨k + 1, by omega, by go_num, Lib.hid ⟨hB5, hX5⟩⟩
      case measure => simp [intOf]; omega
    · obtain rfl : k = 70 := by omega
      rw [show ((70 : Nat) : Int) = 70 from rfl]
      have hsum := Lib.hid (fun W => sum_any none 0 0 [] W 0 (Rd.none_ W 0 none) (Nat.le_refl _) (Nat.zero_le _))
      have hend := Lib.hid (fun W => rend_any 11400714819323198485 W (by omega) (by omega))
      have hsd := seed_nil
      obtain ⟨E, hE⟩ : ∃ x, endS 11400714819323198485 = x := ⟨_, rfl⟩
      rw [hsd] at hsum
      rw [hE] at hsum hend
      clear hE hsd
      go_wp2_with fail
      refine (hsum.out _).mono ?_
      rintro e w' ⟨rfl, rfl⟩
      go_wp2_with fail
      refine (hend.out _).mono ?_
      rintro e w' ⟨rfl, rfl⟩
      go_wp2_with fail
      refine (mknown_any _).mono ?_
      rintro e w5 ⟨rfl, k5⟩
      go_wp2_with fail
      go_ret
      exact ⟨rfl, hB.trans (k5.mono hB.size)⟩
end Go.Proofs.Ytmpllhcgimablaa
