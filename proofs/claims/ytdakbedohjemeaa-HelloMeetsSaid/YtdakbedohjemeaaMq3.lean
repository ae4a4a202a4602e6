/-
  Plain arithmetic of numbers of unlike lengths: their size, their two highest bits, their bytes.
-/
import Derived.Test.YtdakbedohjemeaaMq2
import Derived.Test.YtdakbedohjemeaaProg
namespace Go.Proofs.Ytdakbedohjemeaa
section
set_option linter.unusedVariables false
open Go.RowKit
def clsS (x : Int) : Int := if x < 64 then 0 else if x < 16384 then 1 else if x < 1073741824 then 2 else 3
def sizeS (x : Int) : Nat := if x < 64 then 1 else if x < 16384 then 2 else if x < 1073741824 then 4 else if x ≤ 4611686018427387903 then 8 else 0
/-- x with what its length adds to its highest byte. -/
def putM (x : Int) : Int := x + clsS x * 2 ^ (8 * sizeS x - 2)
/-- The first byte first: byte i of the s bytes of m. -/
def byteS (s : Nat) (m : Int) (i : Nat) : Int := m / 2 ^ (8 * (s - 1 - i)) % 256
def beS (s : Nat) (m : Int) : List Int := (List.range s).map (byteS s m)
/-- The bytes of x. -/
def putS (x : Int) : List Int := beS (sizeS x) (putM x)
theorem clsS_bd (x : Int) : 0 ≤ clsS x ∧ clsS x ≤ 3 := by unfold clsS; (repeat' split) <;> omega
theorem size_pos (x : Int) (h : x ≤ 4611686018427387903) : 1 ≤ sizeS x := by unfold sizeS; (repeat' split) <;> omega
theorem size_le (x : Int) : sizeS x ≤ 8 := by unfold sizeS; (repeat' split) <;> omega
theorem size_big (x : Int) (h : 4611686018427387903 < x) : sizeS x = 0 := by unfold sizeS; (repeat' split) <;> omega
theorem size_cls (x : Int) (h : x ≤ 4611686018427387903) : wrap64 (2 ^ (clsS x).toNat) = (sizeS x : Int) := by
  unfold clsS sizeS
  rw [wrapI]
  by_cases h1 : x < 64
  · rw [if_pos h1, if_pos h1]; rfl
  · rw [if_neg h1, if_neg h1]
    by_cases h2 : x < 16384
    · rw [if_pos h2, if_pos h2]; rfl
    · rw [if_neg h2, if_neg h2]
      by_cases h3 : x < 1073741824
      · rw [if_pos h3, if_pos h3]; rfl
      · rw [if_neg h3, if_neg h3, if_pos h]; rfl
/-- The four lengths. -/
theorem size_cases (x : Int) (h0 : 0 ≤ x) (h : x ≤ 4611686018427387903) :
    (sizeS x = 1 ∧ clsS x = 0 ∧ putM x = x ∧ x < 64) ∨ (sizeS x = 2 ∧ clsS x = 1 ∧ putM x = x + 16384 ∧ x < 16384) ∨
    (sizeS x = 4 ∧ clsS x = 2 ∧ putM x = x + 2147483648 ∧ x < 1073741824) ∨ (sizeS x = 8 ∧ clsS x = 3 ∧ putM x = x + 13835058055282163712 ∧ x < 4611686018427387904) := by
  unfold putM clsS sizeS
  by_cases h1 : x < 64
  · refine .inl ?_; simp [h1]
  · by_cases h2 : x < 16384
    · refine .inr (.inl ?_); simp [h1, h2]
    · by_cases h3 : x < 1073741824
      · refine .inr (.inr (.inl ?_)); simp [h1, h2, h3]
      · refine .inr (.inr (.inr ?_)); simp [h1, h2, h3, h]; omega
theorem put_or (x : Int) (h0 : 0 ≤ x) (h : x ≤ 4611686018427387903) :
    bits BinOp.or IntKind.u64 x (IntKind.u64.wrap (clsS x * 2 ^ (8 * sizeS x - 2))) = putM x := by
  rcases size_cases x h0 h with ⟨a, b, c, d⟩ | ⟨a, b, c, d⟩ | ⟨a, b, c, d⟩ | ⟨a, b, c, d⟩ <;> rw [a, b, c, IntKind.wrap_u64]
  · rw [show (0 : Int) * 2 ^ (8 * 1 - 2) % 18446744073709551616 = 0 by decide, u64_or _ _ h0 (by omega) (by omega) (by omega)]; simp; omega
  · rw [show (1 : Int) * 2 ^ (8 * 2 - 2) % 18446744073709551616 = 16384 by decide, u64_or _ _ h0 (by omega) (by omega) (by omega), Nat.or_comm, nat_join 14 _ _ (by decide) (by omega)]; omega
  · rw [show (2 : Int) * 2 ^ (8 * 4 - 2) % 18446744073709551616 = 2147483648 by decide, u64_or _ _ h0 (by omega) (by omega) (by omega), Nat.or_comm, nat_join 30 _ _ (by decide) (by omega)]; omega
  · rw [show (3 : Int) * 2 ^ (8 * 8 - 2) % 18446744073709551616 = 13835058055282163712 by decide, u64_or _ _ h0 (by omega) (by omega) (by omega), Nat.or_comm, nat_join 62 _ _ (by decide) (by omega)]; omega
theorem putM_bd (x : Int) (h0 : 0 ≤ x) (h : x ≤ 4611686018427387903) : 0 ≤ putM x ∧ putM x < 18446744073709551616 := by
  rcases size_cases x h0 h with ⟨a, b, c, d⟩ | ⟨a, b, c, d⟩ | ⟨a, b, c, d⟩ | ⟨a, b, c, d⟩ <;> rw [c] <;> omega
theorem byteS_bd (s : Nat) (m : Int) (i : Nat) : 0 ≤ byteS s m i ∧ byteS s m i < 256 := by unfold byteS; omega
theorem beS_len (s : Nat) (m : Int) : (beS s m).length = s := by simp [beS]
theorem beS_byt (s : Nat) (m : Int) : Byt (beS s m) := fun x h => by
  obtain ⟨i, _, rfl⟩ := List.mem_map.1 h
  exact byteS_bd s m i
theorem beS_take (s : Nat) (m : Int) (k : Nat) (hk : k < s) : (beS s m).take (k + 1) = (beS s m).take k ++ [byteS s m k] := by
  have hl : k < (beS s m).length := by rw [beS_len]; exact hk
  rw [List.take_succ_eq_append_getElem hl]
  simp [beS]
theorem putS_len (x : Int) : (putS x).length = sizeS x := beS_len _ _
theorem be1 (m : Int) : beS 1 m = [m % 256] := by simp [beS, byteS, List.range, List.range.loop]
theorem be2 (m : Int) : beS 2 m = [m / 256 % 256, m % 256] := by simp [beS, byteS, List.range, List.range.loop]
theorem be4 (m : Int) : beS 4 m = [m / 16777216 % 256, m / 65536 % 256, m / 256 % 256, m % 256] := by simp [beS, byteS, List.range, List.range.loop]
theorem be8 (m : Int) : beS 8 m = [m / 72057594037927936 % 256, m / 281474976710656 % 256, m / 1099511627776 % 256, m / 4294967296 % 256, m / 16777216 % 256, m / 65536 % 256, m / 256 % 256, m % 256] := by
  simp [beS, byteS, List.range, List.range.loop]
theorem getS_of (bs : List Int) (s : Nat) (b0 : Int) (l more : List Int) (hb : bs = b0 :: (l ++ more)) (hs : szS b0 = s) (hl : l.length + 1 = s) : getS bs = (foldS (b0 % 64) l, (s : Int)) := by
  subst hb
  rw [get_full _ (by simp) (by simp [hs]; omega)]
  simp only [List.getD_cons_zero, hs]
  rw [← hl, List.take_succ_cons, List.drop_one, List.tail_cons, List.take_left']
  rfl
/-- What was put is got, whatever stands behind it. -/
theorem get_put (x : Int) (h0 : 0 ≤ x) (h : x ≤ 4611686018427387903) (more : List Int) : getS (putS x ++ more) = (x, (sizeS x : Int)) := by
  unfold putS
  rcases size_cases x h0 h with ⟨a, b, c, d⟩ | ⟨a, b, c, d⟩ | ⟨a, b, c, d⟩ | ⟨a, b, c, d⟩ <;> rw [a, c]
  · rw [be1, getS_of _ 1 _ [] more (by rfl) (by unfold szS; rw [if_pos (by omega)]) (by rfl)]
    simp [foldS]; omega
  · rw [be2, getS_of _ 2 _ [_] more (by rfl) (by unfold szS; rw [if_neg (by omega), if_pos (by omega)]) (by rfl)]
    simp [foldS]; omega
  · rw [be4, getS_of _ 4 _ [_, _, _] more (by rfl) (by unfold szS; rw [if_neg (by omega), if_neg (by omega), if_pos (by omega)]) (by rfl)]
    simp [foldS]; omega
  · rw [be8, getS_of _ 8 _ [_, _, _, _, _, _, _] more (by rfl) (by unfold szS; rw [if_neg (by omega), if_neg (by omega), if_neg (by omega)]) (by rfl)]
    simp [foldS]; omega
end
section
set_option linter.unusedVariables false
open Go.RowKit
theorem class_any (x : Int) (w : World) : Calls Try.prog 88 #[.int .u64 x] w fun e w' => e = .returned (.int .u64 (clsS x)) ∧ w = w' := by
  have hfin : clsS x = if x < 64 then 0 else if x < 16384 then 1 else if x < 1073741824 then 2 else 3 := rfl
  have H := Lib.hid hfin; clear hfin
  go_enter Try.func88, Try.ntmps88
  go_wp2
  all_goals
    go_ret
    exact ⟨ret_int (by rw [H.out]; (repeat' split) <;> omega), rfl⟩
theorem size_any (x : Int) (w : World) : Calls Try.prog 87 #[.int .u64 x] w fun e w' => e = .returned (.int .i64 (sizeS x)) ∧ w = w' := by
  rcases Int.lt_or_le 4611686018427387903 x with h | h
  · have H := Lib.hid (size_big x h)
    go_enter Try.func87, Try.ntmps87
    go_wp2
    go_ret
    exact ⟨by rw [H.out]; rfl, rfl⟩
  · have H := Lib.hid (size_cls x h)
    obtain ⟨hc0, hc1⟩ := clsS_bd x
    go_enter Try.func87, Try.ntmps87
    go_wp2_with (go_at_call 88; refine (class_any _ _).mono ?_; rintro e w' ⟨rfl, rfl⟩)
    go_ret
    exact ⟨ret_int (by rw [← H.out]), rfl⟩
theorem u8_info : (Try.prog.info? 5).map (fun i => (i.zero, i.size, i.bytes)) = some (some (.int .u8 0), 1, 1) := by kernel_rfl
theorem splice_takeP (Z X : List Value) (h : X.length ≤ Z.length) : ((splice Z 0 X).toArray).toList.take X.length = X := by
  simp [splice]
set_option maxRecDepth 100000 in
theorem putvar_yes (A : Option Addr) (n c : Nat) (bs : List Int) (x : Int) (w : World) (hr : Rd w w.heap.size A n bs) (hc : n ≤ 140737488355000) (h0 : 0 ≤ x) (h1 : x ≤ 4611686018427387903) :
    Calls Try.prog 82 #[.slice A n c, .int .u64 x] w fun e w' => ∃ v, e = .returned (.tuple #[v, .bool true]) ∧
      Own w' w.heap.size 5 v (bs ++ putS x) ∧ Below w.heap.size w w' := by
  obtain ⟨i0, hi, hz0, hz1, hz2⟩ := info_parts u8_info
  have hb0 := Below.refl w.heap.size w
  obtain ⟨hcl0, hcl1⟩ := clsS_bd x
  have hor := put_or x h0 h1
  have hM := putM_bd x h0 h1
  have hps : putS x = beS (sizeS x) (putM x) := rfl
  have hs8 := size_le x
  have hs1 := size_pos x h1
  obtain ⟨s, hs⟩ : ∃ s, sizeS x = s := ⟨_, rfl⟩
  obtain ⟨M, hMM⟩ : ∃ M, putM x = M := ⟨_, rfl⟩
  obtain ⟨cl, hcl⟩ : ∃ cl, clsS x = cl := ⟨_, rfl⟩
  have S := Lib.hid hs
  have CL := Lib.hid hcl
  rw [hs] at hor hps hs8 hs1
  rw [hMM] at hor hM hps
  rw [hcl] at hor hcl0 hcl1
  clear hs hMM hcl
  obtain ⟨hM0, hM1⟩ := hM
  have PS := Lib.hid hps; clear hps
  have hsz : ((s : Int) == 0) = false := by simp; omega
  go_enter Try.func82, Try.ntmps82
  go_wp2_with (first
    | (go_at_call 87; refine (size_any _ _).mono ?_; rintro e w' ⟨rfl, rfl⟩; rw [S.out])
    | (go_at_call 88; refine (class_any _ _).mono ?_; rintro e w' ⟨rfl, rfl⟩; rw [CL.out])
    | (at_make; refine wpList_make_lc rfl (.tmp 12) (.tmp 16) 31 rfl 5 i0 (.int .u8 0) Try.underlying31 hi hz0 hz1 .i64 .i64 _ _ n (n + s) rfl rfl rfl (by simp) (by omega) (by rw [hz2]; omega) (by unfold maxLen; omega) w.heap.size w hb0 (Nat.le_refl _) ?_; intro w1 g G1 GE hg hb1 hbw1)
    | (refine wpList_copy_rd rfl (.tmp 18) (.tmp 19) 31 31 rfl 5 Try.underlying31 (by rw [hi]; exact congrArg some hz1) n (n + s) n c A rfl rfl _ _ G1.out bs _ (hr.below hb1) (Nat.le_refl _) (by rw [madeL_len]; omega) w.heap.size w hb1 hg ?_; intro w2 G2 hb2))
  have hown2 : Own w2 w.heap.size 5 (.slice (some ⟨g, 0, none⟩) n (n + s)) bs := by
    refine Own.of_block hr.2.1 hr.1 G2.out hg (by omega) (by unfold maxLen; omega) ?_ ?_
    · simp [splice, madeL_len, hr.1]
    · have := splice_takeP (madeL (.int .u8 0) (n + s)) (bs.map (Value.int .u8)) (by rw [madeL_len]; simp [hr.1])
      simpa [hr.1] using this
  have hlen := hr.1
  have HL := Lib.hid hlen
  clear hr hb0 hb1 hbw1 G1 G2 GE hlen hor
  go_loopw [7, 8] (fun v sh wr => ∃ k : Nat, k ≤ s ∧ sh = .int .i64 (8 * ((s : Int) - 1) - 8 * (k : Int)) ∧ Own wr w.heap.size 5 v (bs ++ (beS s M).take k) ∧ Below w.heap.size w wr) (fun _ sh _ => (intOf sh + 8).toNat)
  case atStart => exact ⟨0, Nat.zero_le _, by simp, by simpa using hown2, hb2⟩
  case round =>
    obtain ⟨k, hk, rfl, hown, hbr⟩ := hrel
    have hbs := hbr.size
    by_cases hlt : k < s
    · obtain ⟨j, hj⟩ : ∃ j : Nat, 8 * ((s : Int) - 1) - 8 * (k : Int) = (j : Int) := ⟨(8 * ((s : Int) - 1) - 8 * (k : Int)).toNat, by omega⟩
      have hjb : (j : Int) ≤ 56 := by omega
      have hbyte : IntKind.u8.wrap (M / 2 ^ j) = byteS s M k := by
        unfold byteS; rw [IntKind.wrap_u8, show 8 * (s - 1 - k) = j by omega]
      have hj8 : (j : Int) - 8 = 8 * ((s : Int) - 1) - 8 * ((k + 1 : Nat) : Int) := by omega
      have htk := beS_take s M k hlt
      have hll : ((beS s M).take k).length ≤ 8 := by have := List.length_take_le k (beS s M); omega
      rw [hj]
      have BY := Lib.hid hbyte
      have J8 := Lib.hid hj8
      have TK := Lib.hid htk
      clear hj hbyte hj8 htk
      go_wp2_with (at_builtin; refine wpList_append_rd rfl (.tmp 39) (.tmp 44) 31 rfl w.heap.size 5 i0 Try.underlying31 hi hz0 hz1 hz2 _ _ rfl (hown.alloc _) _ _ 1 1 [IntKind.u8.wrap (M / 2 ^ j)] rfl (Rd.lit wr 5 [IntKind.u8.wrap (M / 2 ^ j)] (fun y hy => by simp at hy; subst hy; rw [IntKind.wrap_u8]; omega) _ rfl) (by rw [List.length_append, HL.out]; omega) w (hbr.alloc hbs _) (by simp; omega) ?_; intro v' w3 hown3 hb3 hgr3)
      go_roundw
      case rel => exact ⟨k + 1, by omega, by rw [← J8.out], by rw [TK.out, ← List.append_assoc, ← BY.out]; exact hown3, hb3⟩
      case measure => simp [intOf]; omega
    · obtain rfl : k = s := by omega
      have hfin : (beS k M).take k = beS k M := List.take_of_length_le (by rw [beS_len]; omega)
      rw [hfin] at hown
      have hneg : 8 * ((k : Int) - 1) - 8 * (k : Int) = -8 := by omega
      rw [hneg]
      clear hfin hneg
      go_wp2
      go_ret2
      exact ⟨_, rfl, by rw [PS.out]; exact hown, hbr⟩
end
end Go.Proofs.Ytdakbedohjemeaa
