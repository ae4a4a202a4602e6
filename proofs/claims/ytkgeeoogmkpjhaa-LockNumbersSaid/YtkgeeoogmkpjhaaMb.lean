/-
  What Bytes and Number of package mix and of the document's own (narthexref7) answer; there and back.
-/
import Derived.Test.YtkgeeoogmkpjhaaA8
import Derived.Test.YtkgeeoogmkpjhaaMx
namespace Go.Proofs.Ytkgeeoogmkpjhaa
set_option linter.unusedVariables false
open Go.RowKit
def orS (v x : Int) : Int := bits BinOp.or IntKind.u64 (IntKind.u64.wrap (v * 256)) x
def numS (bs : List Int) : Int := bs.foldl orS 0
theorem orS_eq (v x : Int) (h0 : 0 ≤ v) (h1 : v < 72057594037927936) (h2 : 0 ≤ x) (h3 : x < 256) : orS v x = v * 256 + x := by
  unfold orS
  rw [IntKind.wrap_u64, Int.emod_eq_of_lt (by omega) (by omega)]
  exact or256 v x h0 h1 h2 h3
theorem numS_step (bs : List Int) (k : Nat) (hk : k < bs.length) : numS (bs.take (k + 1)) = orS (numS (bs.take k)) (bs.getD k 0) := by
  unfold numS
  rw [List.take_succ_eq_append_getElem hk, List.foldl_append, List.getD_eq_getElem?_getD, List.getElem?_eq_getElem hk]
  rfl
theorem num8 (m : N8) (hb : Byt m.l) : numS m.l = m.a0 * 72057594037927936 + m.a1 * 281474976710656 + m.a2 * 1099511627776 + m.a3 * 4294967296 + m.a4 * 16777216 + m.a5 * 65536 + m.a6 * 256 + m.a7 := by
  obtain ⟨a0, a1, a2, a3, a4, a5, a6, a7⟩ := m
  have b0 := hb a0 (by simp [N8.l])
  have b1 := hb a1 (by simp [N8.l])
  have b2 := hb a2 (by simp [N8.l])
  have b3 := hb a3 (by simp [N8.l])
  have b4 := hb a4 (by simp [N8.l])
  have b5 := hb a5 (by simp [N8.l])
  have b6 := hb a6 (by simp [N8.l])
  have b7 := hb a7 (by simp [N8.l])
  show orS (orS (orS (orS (orS (orS (orS (orS 0 a0) a1) a2) a3) a4) a5) a6) a7 = _
  rw [orS_eq 0 a0 (by omega) (by omega) (by omega) (by omega), orS_eq _ a1 (by omega) (by omega) (by omega) (by omega), orS_eq _ a2 (by omega) (by omega) (by omega) (by omega), orS_eq _ a3 (by omega) (by omega) (by omega) (by omega),
    orS_eq _ a4 (by omega) (by omega) (by omega) (by omega), orS_eq _ a5 (by omega) (by omega) (by omega) (by omega), orS_eq _ a6 (by omega) (by omega) (by omega) (by omega), orS_eq _ a7 (by omega) (by omega) (by omega) (by omega)]
  simp only
  omega
def b8 (n : Int) : N8 := N8.of (beS 8 n)
theorem b8_l (n : Int) : (b8 n).l = beS 8 n := N8.l_of _ (beS_len 8 n)
theorem b8_byt (n : Int) : Byt (b8 n).l := by rw [b8_l]; exact beS_byt 8 n
theorem num_bytes (n : Int) (h0 : 0 ≤ n) (h1 : n < 18446744073709551616) : numS (b8 n).l = n := by
  rw [num8 _ (b8_byt n)]
  unfold b8
  rw [be8]
  simp only [N8.of, List.getD_cons_zero, List.getD_cons_succ]
  omega
theorem bytes_num (m : N8) (hb : Byt m.l) : b8 (numS m.l) = m := by
  refine N8.ext_ ?_
  rw [b8_l, num8 m hb, be8]
  obtain ⟨a0, a1, a2, a3, a4, a5, a6, a7⟩ := m
  have b0 := hb a0 (by simp [N8.l])
  have b1 := hb a1 (by simp [N8.l])
  have b2 := hb a2 (by simp [N8.l])
  have b3 := hb a3 (by simp [N8.l])
  have b4 := hb a4 (by simp [N8.l])
  have b5 := hb a5 (by simp [N8.l])
  have b6 := hb a6 (by simp [N8.l])
  have b7 := hb a7 (by simp [N8.l])
  simp only [N8.l, List.cons.injEq, and_true]
  refine ⟨?_, ?_, ?_, ?_, ?_, ?_, ?_, ?_⟩ <;> omega
theorem numS_bd (m : N8) (hb : Byt m.l) : 0 ≤ numS m.l ∧ numS m.l < 18446744073709551616 := by
  rw [num8 m hb]
  obtain ⟨a0, a1, a2, a3, a4, a5, a6, a7⟩ := m
  have b0 := hb a0 (by simp [N8.l])
  have b1 := hb a1 (by simp [N8.l])
  have b2 := hb a2 (by simp [N8.l])
  have b3 := hb a3 (by simp [N8.l])
  have b4 := hb a4 (by simp [N8.l])
  have b5 := hb a5 (by simp [N8.l])
  have b6 := hb a6 (by simp [N8.l])
  have b7 := hb a7 (by simp [N8.l])
  simp only
  omega
theorem madeL_u8 (n : Nat) : madeL (.int .u8 0) n = List.replicate n (.int .u8 0) := by
  refine List.ext_getElem (by simp [madeL_len]) (fun i h1 h2 => ?_)
  simp [madeL, madeCells, Value.cells, Nat.mod_one]
/-- The first k bytes of n, and zeros. -/
def rowB (n : Int) (k : Nat) : List Value := ((beS 8 n).take k ++ List.replicate (8 - k) 0).map (Value.int .u8)
theorem rowB_len (n : Int) (k : Nat) (hk : k ≤ 8) : (rowB n k).length = 8 := by simp [rowB, beS_len]; omega
theorem rowB_set (n : Int) (k : Nat) (hk : k < 8) : (rowB n k).set k (.int .u8 (byteS 8 n k)) = rowB n (k + 1) := by
  have h : k = 0 ∨ k = 1 ∨ k = 2 ∨ k = 3 ∨ k = 4 ∨ k = 5 ∨ k = 6 ∨ k = 7 := by omega
  unfold rowB
  rw [show beS 8 n = [byteS 8 n 0, byteS 8 n 1, byteS 8 n 2, byteS 8 n 3, byteS 8 n 4, byteS 8 n 5, byteS 8 n 6, byteS 8 n 7] from rfl]
  rcases h with rfl | rfl | rfl | rfl | rfl | rfl | rfl | rfl <;> rfl
theorem rowB_full (n : Int) : rowB n 8 = (b8 n).l.map (Value.int .u8) := by
  rw [b8_l]
  unfold rowB
  rw [List.take_of_length_le (by rw [beS_len]; omega)]
  simp
theorem rowB_cell (n : Int) (k : Nat) (hk : k < 8) : (rowB n k)[k]? = some (.int .u8 0) := by
  have h : k = 0 ∨ k = 1 ∨ k = 2 ∨ k = 3 ∨ k = 4 ∨ k = 5 ∨ k = 6 ∨ k = 7 := by omega
  unfold rowB
  rw [show beS 8 n = [byteS 8 n 0, byteS 8 n 1, byteS 8 n 2, byteS 8 n 3, byteS 8 n 4, byteS 8 n 5, byteS 8 n 6, byteS 8 n 7] from rfl]
  rcases h with rfl | rfl | rfl | rfl | rfl | rfl | rfl | rfl <;> rfl
theorem byteS_at (n : Int) (k : Nat) : n / 2 ^ (56 - 8 * k) % 256 = byteS 8 n k := by
  unfold byteS
  rw [show 8 * (8 - 1 - k) = 56 - 8 * k by omega]
set_option maxRecDepth 100000 in
set_option maxHeartbeats 1000000 in
theorem mbytes_any (n : Int) (w : World) (h0 : 0 ≤ n) (h1 : n < 18446744073709551616) :
    Calls Try.prog 26 #[.int .u64 n] w fun e w' => e = .returned (b8 n).v ∧ Below w.heap.size w w' := by
  have hA0 : At (w.alloc (.cells (rowB n 0).toArray 28)) w.heap.size 28 (rowB n 0) := At.new w _ _
  have hB0 : Below w.heap.size w (w.alloc (.cells (rowB n 0).toArray 28)) := (Below.refl _ _).alloc (Nat.le_refl _) _
  have hA1 : At ((w.alloc (.cells (rowB n 0).toArray 28)).alloc (.cells (rowB n 0).toArray 28)) (w.heap.size + 1) 28 (rowB n 0) := At.new_ _ _ _ (by simp)
  have HI := Lib.hid (And.intro (hB0.alloc (by simp) (.cells (rowB n 0).toArray 28)) (And.intro (hA0.alloc (.cells (rowB n 0).toArray 28)) hA1))
  clear hA0 hB0 hA1
  go_enter Try.func26, Try.ntmps26
  go_wp2_with fail
  go_loopw [5] (fun i wr => ∃ k : Nat, k ≤ 8 ∧ i = .int .i64 k ∧ Hid (Below w.heap.size w wr ∧ At wr w.heap.size 28 (rowB n 0) ∧ At wr (w.heap.size + 1) 28 (rowB n k))) (fun i _ => 8 - (intOf i).toNat)
  case atStart => exact ⟨0, by omega, rfl, HI⟩
  case round =>
    obtain ⟨k, hk, rfl, hst⟩ := hrel
    obtain ⟨wo, rfl⟩ : ∃ wo : World, wo = wr := ⟨_, rfl⟩
    have hB := hst.out.1
    have hR := hst.out.2.1
    have hX := hst.out.2.2
    clear hst HI
    by_cases hlt : k < 8
    · have hkI : (k : Int) < 8 := by omega
      have hc : wo.cell? ⟨w.heap.size + 1, k, none⟩ = some (.int .u8 0) := by rw [hX.cell]; exact rowB_cell n k hlt
      have hf := hX.frozen k
      have hs := hX.set k (.int .u8 (byteS 8 n k))
      rw [rowB_set n k hlt] at hs
      have hR2 := hR.set_other (q := ⟨w.heap.size + 1, k, none⟩) (by show w.heap.size + 1 ≠ w.heap.size; omega) (.int .u8 (byteS 8 n k))
      have hB2 := hB.setCell (p := ⟨w.heap.size + 1, k, none⟩) (by show w.heap.size ≤ w.heap.size + 1; omega) (.int .u8 (byteS 8 n k))
      have HN := Lib.hid (And.intro hB2 (And.intro hR2 hs))
      clear hB2 hR2 hs hX hR hB
      go_wp2_with fail
      go_roundw
      case rel => exact ⟨k + 1, by omega, by go_num, by rw [byteS_at]; exact HN⟩
      case measure => simp [intOf]; omega
    · obtain rfl : k = 8 := by omega
      rw [rowB_full] at hX
      have hg0 := hR.lt
      go_wp2_with (first | ((with_reducible refine at_ld8 ?_); refine ld_8g (by rfl) (w.heap.size + 1) 0 (b8 n) (by rfl) hX.rangeAt ?_) | ((with_reducible refine at_st8 ?_); refine st_8 w.heap.size 28 (rowB n 0) (b8 n) (by rfl) (by rfl) hR rfl ?_; intro w9 hA9 hk9) | fail)
      refine bodyPost_ret (results_cell 2 28 (by rfl) _ 28 _ _ (by rfl) hA9 Try.underlying28 rfl a8_info) rfl ?_
      exact ⟨rfl, hk9.below hB (by omega) (fun j hj => by omega)⟩
set_option maxRecDepth 100000 in
set_option maxHeartbeats 1000000 in
theorem rbytes_any (n : Int) (w : World) (h0 : 0 ≤ n) (h1 : n < 18446744073709551616) :
    Calls Try.prog 28 #[.int .u64 n] w fun e w' => ∃ v, e = .returned v ∧ Own w' w.heap.size 5 v (b8 n).l ∧ Below w.heap.size w w' := by
  obtain ⟨i0, hi, hz0, hz1, hz2⟩ := info_parts u8_info
  have hb0 := Below.refl w.heap.size w
  go_enter Try.func28, Try.ntmps28
  go_wp2_with (at_make; refine wpList_make_lc rfl (.const (.int .i64 8)) (.const (.int .i64 8)) 22 rfl 5 i0 (.int .u8 0) Try.underlying22 hi hz0 hz1 .i64 .i64 _ _ 8 8 rfl rfl rfl rfl (by omega) (by rw [hz2]; omega) (by unfold maxLen; omega) w.heap.size w hb0 (Nat.le_refl _) ?_; intro w1 g G1 GE hg hb1 hbw1)
  have hX0 : At w1 g 5 (rowB n 0) := by
    rw [show rowB n 0 = madeL (.int .u8 0) 8 by rw [madeL_u8]; simp [rowB]]
    exact G1.out
  have HI := Lib.hid (And.intro hb1 hX0)
  clear G1 GE hb1 hbw1 hb0 hX0
  go_loopw [4] (fun i wr => ∃ k : Nat, k ≤ 8 ∧ i = .int .i64 k ∧ Hid (Below w.heap.size w wr ∧ At wr g 5 (rowB n k))) (fun i _ => 8 - (intOf i).toNat)
  case atStart => exact ⟨0, by omega, rfl, HI⟩
  case round =>
    obtain ⟨k, hk, rfl, hst⟩ := hrel
    obtain ⟨wo, rfl⟩ : ∃ wo : World, wo = wr := ⟨_, rfl⟩
    have hB := hst.out.1
    have hX := hst.out.2
    clear hst HI
    by_cases hlt : k < 8
    · have hkI : (k : Int) < 8 := by omega
      have hc : wo.cell? ⟨g, k, none⟩ = some (.int .u8 0) := by rw [hX.cell]; exact rowB_cell n k hlt
      have hf := hX.frozen k
      have hs := hX.set k (.int .u8 (byteS 8 n k))
      rw [rowB_set n k hlt] at hs
      have hB2 := hB.setCell (p := ⟨g, k, none⟩) hg (.int .u8 (byteS 8 n k))
      have HN := Lib.hid (And.intro hB2 hs)
      clear hB2 hs hX hB
      go_wp2_with fail
      go_roundw
      case rel => exact ⟨k + 1, by omega, by go_num, by rw [byteS_at]; exact HN⟩
      case measure => simp [intOf]; omega
    · obtain rfl : k = 8 := by omega
      rw [rowB_full] at hX
      go_wp2_with fail
      go_ret
      exact ⟨_, rfl, Own.of_block (n := 8) (cap := 8) (b8_byt n) rfl hX hg (Nat.le_refl _) (by unfold maxLen; omega) rfl rfl, hB⟩
theorem a8_index (m : N8) (k : Nat) (hk : k < 8) (W : World) : (Instr.index 28 m.v (.int .i64 k)).run Try.prog W = .ok (.int .u8 (m.l.getD k 0)) W := by
  obtain ⟨a0, a1, a2, a3, a4, a5, a6, a7⟩ := m
  have h9 : k = 0 ∨ k = 1 ∨ k = 2 ∨ k = 3 ∨ k = 4 ∨ k = 5 ∨ k = 6 ∨ k = 7 := by omega
  rcases h9 with rfl | rfl | rfl | rfl | rfl | rfl | rfl | rfl <;> first | rfl | (show _ = _; kernel_rfl)
end Go.Proofs.Ytkgeeoogmkpjhaa
