/-
  What the document's own Size and Put answer: the bytes of PutVar of package bits, in new memory.
-/
import Derived.Test.YthpcfcnkpipmnaaPut
namespace Go.Proofs.Ythpcfcnkpipmnaa
set_option linter.unusedVariables false
open Go.RowKit
theorem rsize_any (x : Int) (w : World) : Calls Try.prog 35 #[.int .u64 x] w fun e w' => e = .returned (.int .i64 (sizeS x)) ∧ w = w' := by
  have hfin : (sizeS x : Int) = if x < 64 then 1 else if x < 16384 then 2 else if x < 1073741824 then 4 else if x ≤ 4611686018427387903 then 8 else 0 := by
    unfold sizeS; (repeat' split) <;> rfl
  have H := Lib.hid hfin; clear hfin
  go_enter Try.func35, Try.ntmps35
  go_wp2
  all_goals
    go_ret
    exact ⟨ret_int (by rw [H.out]; (repeat' split) <;> omega), rfl⟩
/-- What the document's own table adds to the first byte. -/
def tblS (s : Nat) : Int := if s = 2 then 64 else if s = 4 then 128 else if s = 8 then 192 else 0
theorem tbl_first (x : Int) (h0 : 0 ≤ x) (h : x ≤ 4611686018427387903) (y : Int) (hy : y = IntKind.u8.wrap (x / 2 ^ (8 * (sizeS x - 1)))) :
    bits BinOp.or IntKind.u8 y (tblS (sizeS x)) = byteS (sizeS x) (putM x) 0 ∧ 0 ≤ y ∧ y < 64 := by
  subst hy
  have hf := put_first x h0 h
  rw [IntKind.wrap_u8]
  unfold tblS
  rcases size_cases x h0 h with ⟨a, b, c, d⟩ | ⟨a, b, c, d⟩ | ⟨a, b, c, d⟩ | ⟨a, b, c, d⟩ <;> rw [a] at hf ⊢ <;> rw [c] at hf ⊢ <;> rw [hf.1]
  · refine ⟨?_, by omega, hf.2⟩
    rw [if_neg (by omega), if_neg (by omega), if_neg (by omega), u8_or _ _ (by omega) (by omega) (by omega) (by omega)]; simp; omega
  · refine ⟨?_, by omega, hf.2⟩
    rw [if_pos (by omega), u8_or _ _ (by omega) (by omega) (by omega) (by omega), Nat.or_comm, nat_join 6 _ _ (by decide) (by omega)]; simp; omega
  · refine ⟨?_, by omega, hf.2⟩
    rw [if_neg (by omega), if_pos (by omega), u8_or _ _ (by omega) (by omega) (by omega) (by omega), Nat.or_comm, nat_join 6 _ _ (by decide) (by omega)]; simp; omega
  · refine ⟨?_, by omega, hf.2⟩
    rw [if_neg (by omega), if_neg (by omega), if_pos (by omega), u8_or _ _ (by omega) (by omega) (by omega) (by omega), Nat.or_comm, nat_join 6 _ _ (by decide) (by omega)]; simp; omega
set_option maxRecDepth 100000 in
set_option maxHeartbeats 2000000 in
theorem rput_any (A : Option Addr) (n c : Nat) (bs : List Int) (x : Int) (w : World) (hr : Rd w w.heap.size A n bs) (hc : n ≤ 140737488355000) (h0 : 0 ≤ x) (h1 : x ≤ 4611686018427387903) :
    Calls Try.prog 20 #[.slice A n c, .int .u64 x] w fun e w' => ∃ v, e = .returned v ∧
      Own w' w.heap.size 5 v (bs ++ putS x) ∧ Below w.heap.size w w' := by
  obtain ⟨i0, hi, hz0, hz1, hz2⟩ := info_parts u8_info
  have hb0 := Below.refl w.heap.size w
  have hps : putS x = beS (sizeS x) (putM x) := rfl
  have hs4 : sizeS x = 1 ∨ sizeS x = 2 ∨ sizeS x = 4 ∨ sizeS x = 8 := by
    rcases size_cases x h0 h1 with ⟨a, _⟩ | ⟨a, _⟩ | ⟨a, _⟩ | ⟨a, _⟩ <;> simp [a]
  have hs8 := size_le x
  have hs1 := size_pos x h1
  have htf := tbl_first x h0 h1 _ rfl
  have hlat := put_later x h0 h1
  obtain ⟨s, hs⟩ : ∃ s, sizeS x = s := ⟨_, rfl⟩
  obtain ⟨M, hMM⟩ : ∃ M, putM x = M := ⟨_, rfl⟩
  have S := Lib.hid hs
  rw [hs] at hps hs8 hs1 htf hlat hs4
  rw [hMM] at hps htf hlat
  clear hs hMM
  have PS := Lib.hid hps
  have LAT := Lib.hid hlat
  have TF := Lib.hid htf
  have S4 := Lib.hid hs4
  have HL := Lib.hid hr.1
  have hby := hr.2.1
  clear hps hlat htf hs4
  go_enter Try.func20, Try.ntmps20
  go_wp2_with (first
    | (go_at_call 35; refine (rsize_any _ _).mono ?_; rintro e w' ⟨rfl, rfl⟩; rw [S.out])
    | (at_builtin; refine wpList_append_rd rfl (.tmp 11) (.tmp 12) 29 rfl w.heap.size 5 i0 Try.underlying29 hi hz0 hz1 hz2 _ [] rfl (Own.of_block (n := 0) (cap := 0) Byt.nil rfl (heap_alloc_new w _) (Nat.le_refl _) (Nat.le_refl _) (Nat.zero_le _) rfl rfl) _ A n c bs rfl (hr.alloc (Nat.le_refl _) _) (by simp; omega) w (hb0.alloc (Nat.le_refl _) _) (by simp) ?_; intro v2 w2 hown2 hb2 hgr2))
  clear hr hb0 hgr2
  go_loopw [6, 7] (fun v i wr => ∃ k : Nat, k ≤ s ∧ i = .int .i64 k ∧ Own wr w.heap.size 5 v (bs ++ (beS s M).take k) ∧ Below w.heap.size w wr) (fun _ i _ => s - (intOf i).toNat)
  case atStart => exact ⟨0, Nat.zero_le _, rfl, by simpa using hown2, hb2⟩
  case round =>
    obtain ⟨k, hk, rfl, hown, hbr⟩ := hrel
    clear hown2 hb2
    have hbs := hbr.size
    by_cases hlt : k < s
    · have htk := beS_take s M k hlt
      have hll : ((beS s M).take k).length ≤ 8 := by have := List.length_take_le k (beS s M); omega
      have TK := Lib.hid htk; clear htk
      by_cases hk0 : k = 0
      · subst hk0
        rcases S4.out with rfl | rfl | rfl | rfl
        all_goals
          go_wp2_with (at_builtin; go_loud (refine wpList_append_rd rfl (.tmp 36) (.tmp 38) 29 rfl w.heap.size 5 i0 Try.underlying29 hi hz0 hz1 hz2 _ _ rfl ((hown.alloc _).alloc _) _ _ 1 1 [_] rfl (Rd.byte _ 5 _ (by simp) _ (u8_bits_bd _ _ _)) (by rw [List.length_append, HL.out]; omega) w ((hbr.alloc hbs _).alloc (by simp; omega) _) (by simp; omega) ?_); intro v' w3 hown3 hb3 hgr3)
          go_roundw
          case rel => exact ⟨1, by omega, by first | rfl | omega, hown3.cast (by rw [show List.take 1 (beS _ M) = List.take (0 + 1) (beS _ M) from rfl, TK.out, ← TF.out.1, IntKind.wrap_u8]; first | (simp [tblS]; done) | (simp [tblS]; rw [show x / 72057594037927936 % 256 = x / 72057594037927936 by omega]))⟩
          case measure => simp [intOf]
      · have hkz : ((k : Int) == 0) = false := by simp; omega
        have hbyte : IntKind.u8.wrap (x / 2 ^ (8 * (s - 1 - k))) = byteS s M k := by
          rw [LAT.out k (by omega) hlt, IntKind.wrap_u8]
        have BY := Lib.hid hbyte; clear hbyte
        go_wp2_with (at_builtin; go_loud (refine wpList_append_rd rfl (.tmp 36) (.tmp 38) 29 rfl w.heap.size 5 i0 Try.underlying29 hi hz0 hz1 hz2 _ _ rfl (hown.alloc _) _ _ 1 1 [_] rfl (Rd.byte _ 5 _ (by simp) _ (by first | exact u8_wrap_bd _ | omega)) (by rw [List.length_append, HL.out]; omega) w (hbr.alloc hbs _) (by simp; omega) ?_); intro v' w3 hown3 hb3 hgr3)
        go_roundw
        case rel => exact ⟨k + 1, by omega, by go_num, hown3.cast (by rw [TK.out, ← BY.out, IntKind.wrap_u8]; simp), hb3⟩
        case measure => simp [intOf]; omega
    · obtain rfl : k = s := by omega
      have hfin : (beS k M).take k = beS k M := List.take_of_length_le (by rw [beS_len]; omega)
      rw [hfin] at hown
      clear hfin
      go_wp2
      go_ret
      exact ⟨_, rfl, by rw [PS.out]; exact hown, hbr⟩
end Go.Proofs.Ythpcfcnkpipmnaa
