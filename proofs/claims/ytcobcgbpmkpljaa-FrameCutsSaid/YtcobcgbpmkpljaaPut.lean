/-
  What class, Size and PutVar of package bits answer: PutVar's bytes, in new memory, of any row of bytes that a call may be handed and any number.
-/
import Derived.Test.YtcobcgbpmkpljaaProg
import Derived.Test.YtcobcgbpmkpljaaPutMath
namespace Go.Proofs.Ytcobcgbpmkpljaa
set_option linter.unusedVariables false
open Go.RowKit
theorem class_any (x : Int) (w : World) : Calls Try.prog 85 #[.int .u64 x] w fun e w' => e = .returned (.int .u64 (clsS x)) ∧ w = w' := by
  have hfin : clsS x = if x < 64 then 0 else if x < 16384 then 1 else if x < 1073741824 then 2 else 3 := rfl
  have H := Lib.hid hfin; clear hfin
  go_enter Try.func85, Try.ntmps85
  go_wp2
  all_goals
    go_ret
    exact ⟨ret_int (by rw [H.out]; (repeat' split) <;> omega), rfl⟩
theorem size_any (x : Int) (w : World) : Calls Try.prog 84 #[.int .u64 x] w fun e w' => e = .returned (.int .i64 (sizeS x)) ∧ w = w' := by
  rcases Int.lt_or_le 4611686018427387903 x with h | h
  · have H := Lib.hid (size_big x h)
    go_enter Try.func84, Try.ntmps84
    go_wp2
    go_ret
    exact ⟨by rw [H.out]; rfl, rfl⟩
  · have H := Lib.hid (size_cls x h)
    obtain ⟨hc0, hc1⟩ := clsS_bd x
    go_enter Try.func84, Try.ntmps84
    go_wp2_with (go_at_call 85; refine (class_any _ _).mono ?_; rintro e w' ⟨rfl, rfl⟩)
    go_ret
    exact ⟨ret_int (by rw [← H.out]), rfl⟩
theorem u8_info : (Try.prog.info? 5).map (fun i => (i.zero, i.size, i.bytes)) = some (some (.int .u8 0), 1, 1) := by kernel_rfl
theorem splice_take (Z X : List Value) (h : X.length ≤ Z.length) : ((splice Z 0 X).toArray).toList.take X.length = X := by
  simp [splice]
set_option maxRecDepth 100000 in
theorem putvar_no (A : Option Addr) (n c : Nat) (bs : List Int) (x : Int) (w : World) (hr : Rd w w.heap.size A n bs) (hc : n ≤ 140737488355000) (h1 : 4611686018427387903 < x) :
    Calls Try.prog 78 #[.slice A n c, .int .u64 x] w fun e w' => ∃ v, e = .returned (.tuple #[v, .bool false]) ∧
      Own w' w.heap.size 5 v bs ∧ Below w.heap.size w w' := by
  obtain ⟨i0, hi, hz0, hz1, hz2⟩ := info_parts u8_info
  have hb0 := Below.refl w.heap.size w
  have S := Lib.hid (size_big x h1)
  go_enter Try.func78, Try.ntmps78
  go_wp2_with (first
    | (go_at_call 84; refine (size_any _ _).mono ?_; rintro e w' ⟨rfl, rfl⟩; rw [S.out])
    | (at_make; refine wpList_make_lc rfl (.tmp 12) (.tmp 16) 26 rfl 5 i0 (.int .u8 0) Try.underlying26 hi hz0 hz1 .i64 .i64 _ _ n n rfl rfl rfl (by simp) (by omega) (by rw [hz2]; omega) (by unfold maxLen; omega) w.heap.size w hb0 (Nat.le_refl _) ?_; intro w1 g G1 GE hg hb1 hbw1)
    | (refine wpList_copy_rd rfl (.tmp 18) (.tmp 19) 26 26 rfl 5 Try.underlying26 (by rw [hi]; exact congrArg some hz1) n n n c A rfl rfl _ _ G1.out bs _ (hr.below hb1) (Nat.le_refl _) (by rw [madeL_len]; omega) w.heap.size w hb1 hg ?_; intro w2 G2 hb2))
  go_ret2
  refine ⟨_, rfl, ?_, hb2⟩
  refine Own.of_block hr.2.1 hr.1 G2.out hg (Nat.le_refl _) (by unfold maxLen; omega) ?_ ?_
  · simp [splice, madeL_len, hr.1]
  · have := splice_take (madeL (.int .u8 0) n) (bs.map (Value.int .u8)) (by rw [madeL_len]; simp [hr.1])
    simpa [hr.1] using this
set_option maxRecDepth 100000 in
theorem putvar_yes (A : Option Addr) (n c : Nat) (bs : List Int) (x : Int) (w : World) (hr : Rd w w.heap.size A n bs) (hc : n ≤ 140737488355000) (h0 : 0 ≤ x) (h1 : x ≤ 4611686018427387903) :
    Calls Try.prog 78 #[.slice A n c, .int .u64 x] w fun e w' => ∃ v, e = .returned (.tuple #[v, .bool true]) ∧
      Own w' w.heap.size 5 v (bs ++ putS x) ∧ Below w.heap.size w w' := by
  obtain ⟨i0, hi, hz0, hz1, hz2⟩ := info_parts u8_info
  have hb0 := Below.refl w.heap.size w
  obtain ⟨hcl0, hcl1⟩ := clsS_bd x
  have hor := put_or x h0 h1
  have hM := putM_bd x h0 h1
  have hps : putS x = beS (sizeS x) (putM x) := rfl
  have hs8 := size_le x
  have hs1 := size_pos x h1
  obtain ⟨s, hs⟩ : ∃ s, sizeS x = s := ⟨_, rfl⟩
  obtain ⟨M, hMM⟩ : ∃ M, putM x = M := ⟨_, rfl⟩
  obtain ⟨cl, hcl⟩ : ∃ cl, clsS x = cl := ⟨_, rfl⟩
  have S := Lib.hid hs
  have CL := Lib.hid hcl
  rw [hs] at hor hps hs8 hs1
  rw [hMM] at hor hM hps
  rw [hcl] at hor hcl0 hcl1
  clear hs hMM hcl
  obtain ⟨hM0, hM1⟩ := hM
  have PS := Lib.hid hps; clear hps
  have hsz : ((s : Int) == 0) = false := by simp; omega
  go_enter Try.func78, Try.ntmps78
  go_wp2_with (first
    | (go_at_call 84; refine (size_any _ _).mono ?_; rintro e w' ⟨rfl, rfl⟩; rw [S.out])
    | (go_at_call 85; refine (class_any _ _).mono ?_; rintro e w' ⟨rfl, rfl⟩; rw [CL.out])
    | (at_make; refine wpList_make_lc rfl (.tmp 12) (.tmp 16) 26 rfl 5 i0 (.int .u8 0) Try.underlying26 hi hz0 hz1 .i64 .i64 _ _ n (n + s) rfl rfl rfl (by simp) (by omega) (by rw [hz2]; omega) (by unfold maxLen; omega) w.heap.size w hb0 (Nat.le_refl _) ?_; intro w1 g G1 GE hg hb1 hbw1)
    | (refine wpList_copy_rd rfl (.tmp 18) (.tmp 19) 26 26 rfl 5 Try.underlying26 (by rw [hi]; exact congrArg some hz1) n (n + s) n c A rfl rfl _ _ G1.out bs _ (hr.below hb1) (Nat.le_refl _) (by rw [madeL_len]; omega) w.heap.size w hb1 hg ?_; intro w2 G2 hb2))
  have hown2 : Own w2 w.heap.size 5 (.slice (some ⟨g, 0, none⟩) n (n + s)) bs := by
    refine Own.of_block hr.2.1 hr.1 G2.out hg (by omega) (by unfold maxLen; omega) ?_ ?_
    · simp [splice, madeL_len, hr.1]
    · have := splice_take (madeL (.int .u8 0) (n + s)) (bs.map (Value.int .u8)) (by rw [madeL_len]; simp [hr.1])
      simpa [hr.1] using this
  have hlen := hr.1
  have HL := Lib.hid hlen
  clear hr hb0 hb1 hbw1 G1 G2 GE hlen hor
  go_loopw [7, 8] (fun v sh wr => ∃ k : Nat, k ≤ s ∧ sh = .int .i64 (8 * ((s : Int) - 1) - 8 * (k : Int)) ∧ Own wr w.heap.size 5 v (bs ++ (beS s M).take k) ∧ Below w.heap.size w wr) (fun _ sh _ => (intOf sh + 8).toNat)
  case atStart => exact ⟨0, Nat.zero_le _, by simp, by simpa using hown2, hb2⟩
  case round =>
    obtain ⟨k, hk, rfl, hown, hbr⟩ := hrel
    have hbs := hbr.size
    by_cases hlt : k < s
    · obtain ⟨j, hj⟩ : ∃ j : Nat, 8 * ((s : Int) - 1) - 8 * (k : Int) = (j : Int) := ⟨(8 * ((s : Int) - 1) - 8 * (k : Int)).toNat, by omega⟩
      have hjb : (j : Int) ≤ 56 := by omega
      have hbyte : IntKind.u8.wrap (M / 2 ^ j) = byteS s M k := by
        unfold byteS; rw [IntKind.wrap_u8, show 8 * (s - 1 - k) = j by omega]
      have hj8 : (j : Int) - 8 = 8 * ((s : Int) - 1) - 8 * ((k + 1 : Nat) : Int) := by omega
      have htk := beS_take s M k hlt
      have hll : ((beS s M).take k).length ≤ 8 := by have := List.length_take_le k (beS s M); omega
      rw [hj]
      have BY := Lib.hid hbyte
      have J8 := Lib.hid hj8
      have TK := Lib.hid htk
      clear hj hbyte hj8 htk
      go_wp2_with (at_builtin; refine wpList_append_rd rfl (.tmp 39) (.tmp 44) 26 rfl w.heap.size 5 i0 Try.underlying26 hi hz0 hz1 hz2 _ _ rfl (hown.alloc _) _ _ 1 1 [IntKind.u8.wrap (M / 2 ^ j)] rfl (Rd.lit wr 5 [IntKind.u8.wrap (M / 2 ^ j)] (fun y hy => by simp at hy; subst hy; rw [IntKind.wrap_u8]; omega) _ rfl) (by rw [List.length_append, HL.out]; omega) w (hbr.alloc hbs _) (by simp; omega) ?_; intro v' w3 hown3 hb3 hgr3)
      go_roundw
      case rel => exact ⟨k + 1, by omega, by rw [← J8.out], by rw [TK.out, ← List.append_assoc, ← BY.out]; exact hown3, hb3⟩
      case measure => simp [intOf]; omega
    · obtain rfl : k = s := by omega
      have hfin : (beS k M).take k = beS k M := List.take_of_length_le (by rw [beS_len]; omega)
      rw [hfin] at hown
      have hneg : 8 * ((k : Int) - 1) - 8 * (k : Int) = -8 := by omega
      rw [hneg]
      clear hfin hneg
      go_wp2
      go_ret2
      exact ⟨_, rfl, by rw [PS.out]; exact hown, hbr⟩
end Go.Proofs.Ytcobcgbpmkpljaa
