/-
  What package mix and the document's own (narthexref7) answer: End, Next, Keyed, Sum, Number.
-/
import Derived.Test.YtehdilgnlhhjdaaMq2
import Derived.Test.YtehdilgnlhhjdaaMq1
import Derived.Test.YtehdilgnlhhjdaaMq0
import Derived.Lib.ConvBytes
namespace Go.Proofs.Ytehdilgnlhhjdaa
section
set_option linter.unusedVariables false
open Go.RowKit
theorem xor_bd (a b : Int) : 0 ≤ bits BinOp.xor IntKind.u64 a b ∧ bits BinOp.xor IntKind.u64 a b < 18446744073709551616 := ⟨bits_lo_u64 _ _ _, by have := bits_hi_u64 BinOp.xor a b; omega⟩
theorem u64_wrap_bd (x : Int) : 0 ≤ IntKind.u64.wrap x ∧ IntKind.u64.wrap x < 18446744073709551616 := by rw [IntKind.wrap_u64]; omega
def endM (h : Int) : Int := IntKind.u64.wrap (bits BinOp.xor IntKind.u64 h (h / 536870912) * 13787848793156543929)
def endS (h : Int) : Int := bits BinOp.xor IntKind.u64 (endM h) (endM h / 4294967296)
theorem endS_bd (h : Int) : 0 ≤ endS h ∧ endS h < 18446744073709551616 := xor_bd _ _
def mixM (h x : Int) : Int := IntKind.u64.wrap (bits BinOp.xor IntKind.u64 h x * 1099511628211)
def mixS (h x : Int) : Int := rotS (mixM h x) 23
theorem mixM_bd (h x : Int) : 0 ≤ mixM h x ∧ mixM h x < 18446744073709551616 := u64_wrap_bd _
theorem mixS_bd (h x : Int) : 0 ≤ mixS h x ∧ mixS h x < 18446744073709551616 := rotS_bd _ 23 (mixM_bd h x).1 (mixM_bd h x).2 (by omega)
def seedS (key : Int) (n : Nat) : Int := IntKind.u64.wrap (bits BinOp.xor IntKind.u64 key 11400714819323198485 + n)
def rowS (key : Int) (bs : List Int) (k : Nat) : Int := (bs.take k).foldl mixS (seedS key bs.length)
def keyedS (key : Int) (bs : List Int) : Int := endS (rowS key bs bs.length)
theorem rowS_zero (key : Int) (bs : List Int) : rowS key bs 0 = seedS key bs.length := by simp [rowS]
theorem rowS_step (key : Int) (bs : List Int) (k : Nat) (hk : k < bs.length) : rowS key bs (k + 1) = mixS (rowS key bs k) (bs.getD k 0) := by
  unfold rowS
  rw [List.take_succ_eq_append_getElem hk, List.foldl_append, List.getD_eq_getElem?_getD, List.getElem?_eq_getElem hk]
  rfl
theorem rowS_bd (key : Int) (bs : List Int) (k : Nat) : 0 ≤ rowS key bs k ∧ rowS key bs k < 18446744073709551616 := by
  unfold rowS
  generalize bs.take k = l
  have : ∀ (l : List Int) (h : Int), 0 ≤ h ∧ h < 18446744073709551616 → 0 ≤ l.foldl mixS h ∧ l.foldl mixS h < 18446744073709551616 := by
    intro l
    induction l with
    | nil => intro h hh; exact hh
    | cons x l ih => intro h _; exact ih _ (mixS_bd h x)
  exact this l _ (u64_wrap_bd _)
theorem end_any (h : Int) (w : World) (h0 : 0 ≤ h) (h1 : h < 18446744073709551616) : Calls Try.prog 81 #[.int .u64 h] w fun e w' => e = .returned (.int .u64 (endS h)) ∧ w = w' := by
  go_enter Try.func81, Try.ntmps81
  go_wp2
  go_ret
  exact ⟨rfl, rfl⟩
theorem rend_any (h : Int) (w : World) (h0 : 0 ≤ h) (h1 : h < 18446744073709551616) : Calls Try.prog 76 #[.int .u64 h] w fun e w' => e = .returned (.int .u64 (endS h)) ∧ w = w' := by
  go_enter Try.func76, Try.ntmps76
  go_wp2
  go_ret
  exact ⟨rfl, rfl⟩
set_option maxRecDepth 100000 in
theorem keyed_any (key : Int) (A : Option Addr) (n c : Nat) (bs : List Int) (w : World) (B : Nat) (hr : Rd w B A n bs) (hn : n ≤ c) (hc : c ≤ maxLen) (k0 : 0 ≤ key) (k1 : key < 18446744073709551616) :
    Calls Try.prog 55 #[.int .u64 key, .slice A n c] w fun e w' => e = .returned (.int .u64 (keyedS key bs)) ∧ w = w' := by
  unfold maxLen at hc
  have hL := hr.1
  have hz : rowS key bs 0 = IntKind.u64.wrap (bits BinOp.xor IntKind.u64 key 11400714819323198485 + n) := by rw [rowS_zero, hL]; rfl
  have hst := rowS_step key bs
  have hbd := rowS_bd key bs
  have hfin : keyedS key bs = endS (rowS key bs n) := by rw [← hL]; rfl
  have hby := hr.2.1
  have hcell := hr.2.2
  rw [hL] at hst
  have Z := Lib.hid hz
  have ST := Lib.hid hst
  have BD := Lib.hid hbd
  have F := Lib.hid hfin
  have HC := Lib.hid hcell
  clear hz hst hbd hfin hcell hL hr
  go_enter Try.func55, Try.ntmps55
  go_wp2_with fail
  go_loop [5, 16] (fun h i => ∃ k : Nat, k ≤ n ∧ i = .int .i64 k ∧ h = .int .u64 (rowS key bs k)) (fun _ i => n - (intOf i).toNat)
  case atStart => exact ⟨0, Nat.zero_le _, rfl, by rw [Z.out]⟩
  case round =>
    obtain ⟨k, hk, rfl, rfl⟩ := hrel
    have hh := BD.out k
    by_cases hlt : k < n
    · obtain ⟨b, off, rfl, hb, hcell⟩ := HC.out (by omega)
      have c1 := hcell k hlt
      have hy := hby.getD k
      have hs := ST.out k hlt
      have hb1 := mixM_bd (rowS key bs k) (bs.getD k 0)
      have hb2 : mixS (rowS key bs k) (bs.getD k 0) = rotS (mixM (rowS key bs k) (bs.getD k 0)) 23 := rfl
      have hb3 : mixM (rowS key bs k) (bs.getD k 0) = IntKind.u64.wrap (bits BinOp.xor IntKind.u64 (rowS key bs k) (bs.getD k 0) * 1099511628211) := rfl
      rw [hb2] at hs
      obtain ⟨M, hM⟩ : ∃ M, mixM (rowS key bs k) (bs.getD k 0) = M := ⟨_, rfl⟩
      rw [hM] at hb1 hb3 hs
      clear hb2 hM
      obtain ⟨y, hy0⟩ : ∃ y, bs.getD k 0 = y := ⟨_, rfl⟩
      rw [hy0] at c1 hy hb3
      obtain ⟨H, hH⟩ : ∃ H, rowS key bs k = H := ⟨_, rfl⟩
      rw [hH] at hb3 hh
      rw [hH]
      clear hy0 hcell hH
      obtain ⟨hy1, hy2⟩ := hy
      obtain ⟨hb11, hb12⟩ := hb1
      obtain ⟨hh1, hh2⟩ := hh
      have S := Lib.hid hs; clear hs
      have M3 := hb3.symm
      clear hb3
      go_wp2_with (go_at_call 80; refine (rot_any _ _ _ (by omega) (by omega)).mono ?_; rintro e w' ⟨rfl, rfl⟩)
      go_round
      case rel => exact ⟨k + 1, by omega, by go_num, by rw [S.out]⟩
      case measure => simp [intOf]; omega
    · obtain rfl : k = n := by omega
      have F2 := F.out
      obtain ⟨H, hH⟩ : ∃ H, rowS key bs k = H := ⟨_, rfl⟩
      rw [hH] at hh F2 ⊢
      obtain ⟨hh1, hh2⟩ := hh
      have F3 := Lib.hid F2
      clear hH F2
      go_wp2_with (go_at_call 81; refine (end_any _ _ (by omega) (by omega)).mono ?_; rintro e w' ⟨rfl, rfl⟩)
      go_ret
      exact ⟨ret_int (by rw [F3.out]), rfl⟩
set_option maxRecDepth 100000 in
theorem rkeyed_any (key : Int) (A : Option Addr) (n c : Nat) (bs : List Int) (w : World) (B : Nat) (hr : Rd w B A n bs) (hn : n ≤ c) (hc : c ≤ maxLen) (k0 : 0 ≤ key) (k1 : key < 18446744073709551616) :
    Calls Try.prog 43 #[.int .u64 key, .slice A n c] w fun e w' => e = .returned (.int .u64 (keyedS key bs)) ∧ w = w' := by
  unfold maxLen at hc
  have hL := hr.1
  have hz : rowS key bs 0 = IntKind.u64.wrap (bits BinOp.xor IntKind.u64 key 11400714819323198485 + n) := by rw [rowS_zero, hL]; rfl
  have hst := rowS_step key bs
  have hbd := rowS_bd key bs
  have hfin : keyedS key bs = endS (rowS key bs n) := by rw [← hL]; rfl
  have hby := hr.2.1
  have hcell := hr.2.2
  rw [hL] at hst
  have Z := Lib.hid hz
  have ST := Lib.hid hst
  have BD := Lib.hid hbd
  have F := Lib.hid hfin
  have HC := Lib.hid hcell
  clear hz hst hbd hfin hcell hL hr
  go_enter Try.func43, Try.ntmps43
  go_wp2_with fail
  go_loop [5, 6] (fun h i => ∃ k : Nat, k ≤ n ∧ i = .int .i64 k ∧ h = .int .u64 (rowS key bs k)) (fun _ i => n - (intOf i).toNat)
  case atStart => exact ⟨0, Nat.zero_le _, rfl, by rw [Z.out]⟩
  case round =>
    obtain ⟨k, hk, rfl, rfl⟩ := hrel
    have hh := BD.out k
    by_cases hlt : k < n
    · obtain ⟨b, off, rfl, hb, hcell⟩ := HC.out (by omega)
      have c1 := hcell k hlt
      have hy := hby.getD k
      have hs := ST.out k hlt
      have hb1 := mixM_bd (rowS key bs k) (bs.getD k 0)
      have hb2 : mixS (rowS key bs k) (bs.getD k 0) = rotS (mixM (rowS key bs k) (bs.getD k 0)) 23 := rfl
      have hb3 : mixM (rowS key bs k) (bs.getD k 0) = IntKind.u64.wrap (bits BinOp.xor IntKind.u64 (rowS key bs k) (bs.getD k 0) * 1099511628211) := rfl
      rw [hb2] at hs
      obtain ⟨M, hM⟩ : ∃ M, mixM (rowS key bs k) (bs.getD k 0) = M := ⟨_, rfl⟩
      rw [hM] at hb1 hb3 hs
      clear hb2 hM
      obtain ⟨y, hy0⟩ : ∃ y, bs.getD k 0 = y := ⟨_, rfl⟩
      rw [hy0] at c1 hy hb3
      obtain ⟨H, hH⟩ : ∃ H, rowS key bs k = H := ⟨_, rfl⟩
      rw [hH] at hb3 hh
      rw [hH]
      clear hy0 hcell hH
      obtain ⟨hy1, hy2⟩ := hy
      obtain ⟨hb11, hb12⟩ := hb1
      obtain ⟨hh1, hh2⟩ := hh
      have S := Lib.hid hs; clear hs
      have M3 := hb3.symm
      clear hb3
      go_wp2_with (go_at_call 75; refine (rrot_any _ _ _ (by omega) (by omega) (by omega) (by omega)).mono ?_; rintro e w' ⟨rfl, rfl⟩)
      go_round
      case rel => exact ⟨k + 1, by omega, by go_num, by rw [S.out]⟩
      case measure => simp [intOf]; omega
    · obtain rfl : k = n := by omega
      have F2 := F.out
      obtain ⟨H, hH⟩ : ∃ H, rowS key bs k = H := ⟨_, rfl⟩
      rw [hH] at hh F2 ⊢
      obtain ⟨hh1, hh2⟩ := hh
      have F3 := Lib.hid F2
      clear hH F2
      go_wp2_with (go_at_call 76; refine (rend_any _ _ (by omega) (by omega)).mono ?_; rintro e w' ⟨rfl, rfl⟩)
      go_ret
      exact ⟨ret_int (by rw [F3.out]), rfl⟩
end
section
set_option linter.unusedVariables false
open Go.RowKit
def b8 (n : Int) : N8 := N8.of (beS 8 n)
theorem b8_l (n : Int) : (b8 n).l = beS 8 n := N8.l_of _ (beS_len 8 n)
theorem b8_byt (n : Int) : Byt (b8 n).l := by rw [b8_l]; exact beS_byt 8 n
theorem madeL_u8 (n : Nat) : madeL (.int .u8 0) n = List.replicate n (.int .u8 0) := by
  refine List.ext_getElem (by simp [madeL_len]) (fun i h1 h2 => ?_)
  simp [madeL, madeCells, Value.cells, Nat.mod_one]
/-- The first k bytes of n, and zeros. -/
def rowB (n : Int) (k : Nat) : List Value := ((beS 8 n).take k ++ List.replicate (8 - k) 0).map (Value.int .u8)
theorem rowB_set (n : Int) (k : Nat) (hk : k < 8) : (rowB n k).set k (.int .u8 (byteS 8 n k)) = rowB n (k + 1) := by
  have h : k = 0 ∨ k = 1 ∨ k = 2 ∨ k = 3 ∨ k = 4 ∨ k = 5 ∨ k = 6 ∨ k = 7 := by omega
  unfold rowB
  rw [show beS 8 n = [byteS 8 n 0, byteS 8 n 1, byteS 8 n 2, byteS 8 n 3, byteS 8 n 4, byteS 8 n 5, byteS 8 n 6, byteS 8 n 7] from rfl]
  rcases h with rfl | rfl | rfl | rfl | rfl | rfl | rfl | rfl <;> rfl
theorem rowB_full (n : Int) : rowB n 8 = (b8 n).l.map (Value.int .u8) := by
  rw [b8_l]
  unfold rowB
  rw [List.take_of_length_le (by rw [beS_len]; omega)]
  simp
theorem rowB_cell (n : Int) (k : Nat) (hk : k < 8) : (rowB n k)[k]? = some (.int .u8 0) := by
  have h : k = 0 ∨ k = 1 ∨ k = 2 ∨ k = 3 ∨ k = 4 ∨ k = 5 ∨ k = 6 ∨ k = 7 := by omega
  unfold rowB
  rw [show beS 8 n = [byteS 8 n 0, byteS 8 n 1, byteS 8 n 2, byteS 8 n 3, byteS 8 n 4, byteS 8 n 5, byteS 8 n 6, byteS 8 n 7] from rfl]
  rcases h with rfl | rfl | rfl | rfl | rfl | rfl | rfl | rfl <;> rfl
theorem byteS_at (n : Int) (k : Nat) : n / 2 ^ (56 - 8 * k) % 256 = byteS 8 n k := by
  unfold byteS
  rw [show 8 * (8 - 1 - k) = 56 - 8 * k by omega]
set_option maxRecDepth 100000 in
set_option maxHeartbeats 1000000 in
theorem mbytes_any (n : Int) (w : World) (h0 : 0 ≤ n) (h1 : n < 18446744073709551616) :
    Calls Try.prog 88 #[.int .u64 n] w fun e w' => e = .returned (b8 n).v ∧ Below w.heap.size w w' := by
  have hA0 : At (w.alloc (.cells (rowB n 0).toArray 26)) w.heap.size 26 (rowB n 0) := At.new w _ _
  have hB0 : Below w.heap.size w (w.alloc (.cells (rowB n 0).toArray 26)) := (Below.refl _ _).alloc (Nat.le_refl _) _
  have hA1 : At ((w.alloc (.cells (rowB n 0).toArray 26)).alloc (.cells (rowB n 0).toArray 26)) (w.heap.size + 1) 26 (rowB n 0) := At.new_ _ _ _ (by simp)
  have HI := Lib.hid (And.intro (hB0.alloc (by simp) (.cells (rowB n 0).toArray 26)) (And.intro (hA0.alloc (.cells (rowB n 0).toArray 26)) hA1))
  clear hA0 hB0 hA1
  go_enter Try.func88, Try.ntmps88
  go_wp2_with fail
  go_loopw [5] (fun i wr => ∃ k : Nat, k ≤ 8 ∧ i = .int .i64 k ∧ Hid (Below w.heap.size w wr ∧ At wr w.heap.size 26 (rowB n 0) ∧ At wr (w.heap.size + 1) 26 (rowB n k))) (fun i _ => 8 - (intOf i).toNat)
  case atStart => exact ⟨0, by omega, rfl, HI⟩
  case round =>
    obtain ⟨k, hk, rfl, hst⟩ := hrel
    obtain ⟨wo, rfl⟩ : ∃ wo : World, wo = wr := ⟨_, rfl⟩
    have hB := hst.out.1
    have hR := hst.out.2.1
    have hX := hst.out.2.2
    clear hst HI
    by_cases hlt : k < 8
    · have hkI : (k : Int) < 8 := by omega
      have hc : wo.cell? ⟨w.heap.size + 1, k, none⟩ = some (.int .u8 0) := by rw [hX.cell]; exact rowB_cell n k hlt
      have hf := hX.frozen k
      have hs := hX.set k (.int .u8 (byteS 8 n k))
      rw [rowB_set n k hlt] at hs
      have hR2 := hR.set_other (q := ⟨w.heap.size + 1, k, none⟩) (by show w.heap.size + 1 ≠ w.heap.size; omega) (.int .u8 (byteS 8 n k))
      have hB2 := hB.setCell (p := ⟨w.heap.size + 1, k, none⟩) (by show w.heap.size ≤ w.heap.size + 1; omega) (.int .u8 (byteS 8 n k))
      have HN := Lib.hid (And.intro hB2 (And.intro hR2 hs))
      clear hB2 hR2 hs hX hR hB
      go_wp2_with fail
      go_roundw
      case rel => exact ⟨k + 1, by omega, by go_num, by rw [byteS_at]; exact HN⟩
      case measure => simp [intOf]; omega
    · obtain rfl : k = 8 := by omega
      rw [rowB_full] at hX
      have hg0 := hR.lt
      go_wp2_with (first | ((with_reducible refine at_ld8 ?_); refine ld_8g (by rfl) (w.heap.size + 1) 0 (b8 n) (by rfl) hX.rangeAt ?_) | ((with_reducible refine at_st8 ?_); refine st_8 w.heap.size 26 (rowB n 0) (b8 n) (by rfl) (by rfl) hR rfl ?_; intro w9 hA9 hk9) | fail)
      refine bodyPost_ret (results_cell 2 26 (by rfl) _ 26 _ _ (by rfl) hA9 Try.underlying26 rfl a8_info) rfl ?_
      exact ⟨rfl, hk9.below hB (by omega) (fun j hj => by omega)⟩
set_option maxRecDepth 100000 in
set_option maxHeartbeats 1000000 in
theorem rbytes_any (n : Int) (w : World) (h0 : 0 ≤ n) (h1 : n < 18446744073709551616) :
    Calls Try.prog 78 #[.int .u64 n] w fun e w' => ∃ v, e = .returned v ∧ Own w' w.heap.size 5 v (b8 n).l ∧ Below w.heap.size w w' := by
  obtain ⟨i0, hi, hz0, hz1, hz2⟩ := info_parts u8_info
  have hb0 := Below.refl w.heap.size w
  go_enter Try.func78, Try.ntmps78
  go_wp2_with (at_make; refine wpList_make_lc rfl (.const (.int .i64 8)) (.const (.int .i64 8)) 28 rfl 5 i0 (.int .u8 0) Try.underlying28 hi hz0 hz1 .i64 .i64 _ _ 8 8 rfl rfl rfl rfl (by omega) (by rw [hz2]; omega) (by unfold maxLen; omega) w.heap.size w hb0 (Nat.le_refl _) ?_; intro w1 g G1 GE hg hb1 hbw1)
  have hX0 : At w1 g 5 (rowB n 0) := by
    rw [show rowB n 0 = madeL (.int .u8 0) 8 by rw [madeL_u8]; simp [rowB]]
    exact G1.out
  have HI := Lib.hid (And.intro hb1 hX0)
  clear G1 GE hb1 hbw1 hb0 hX0
  go_loopw [4] (fun i wr => ∃ k : Nat, k ≤ 8 ∧ i = .int .i64 k ∧ Hid (Below w.heap.size w wr ∧ At wr g 5 (rowB n k))) (fun i _ => 8 - (intOf i).toNat)
  case atStart => exact ⟨0, by omega, rfl, HI⟩
  case round =>
    obtain ⟨k, hk, rfl, hst⟩ := hrel
    obtain ⟨wo, rfl⟩ : ∃ wo : World, wo = wr := ⟨_, rfl⟩
    have hB := hst.out.1
    have hX := hst.out.2
    clear hst HI
    by_cases hlt : k < 8
    · have hkI : (k : Int) < 8 := by omega
      have hc : wo.cell? ⟨g, k, none⟩ = some (.int .u8 0) := by rw [hX.cell]; exact rowB_cell n k hlt
      have hf := hX.frozen k
      have hs := hX.set k (.int .u8 (byteS 8 n k))
      rw [rowB_set n k hlt] at hs
      have hB2 := hB.setCell (p := ⟨g, k, none⟩) hg (.int .u8 (byteS 8 n k))
      have HN := Lib.hid (And.intro hB2 hs)
      clear hB2 hs hX hB
      go_wp2_with fail
      go_roundw
      case rel => exact ⟨k + 1, by omega, by go_num, by rw [byteS_at]; exact HN⟩
      case measure => simp [intOf]; omega
    · obtain rfl : k = 8 := by omega
      rw [rowB_full] at hX
      go_wp2_with fail
      go_ret
      exact ⟨_, rfl, Own.of_block (n := 8) (cap := 8) (b8_byt n) rfl hX hg (Nat.le_refl _) (by unfold maxLen; omega) rfl rfl, hB⟩
end
section
set_option linter.unusedVariables false
set_option linter.unusedSimpArgs false
open Go.RowKit
theorem nums_size (bs : List Int) : (strOfNums bs).size = bs.length := by simp [strOfNums, ByteArray.size]
theorem nums_at (bs : List Int) (hb : Byt bs) (j : Nat) : (((strOfNums bs).data.toList.getD j 0).toNat : Int) = bs.getD j 0 := by
  unfold strOfNums
  simp only [List.getD_eq_getElem?_getD, List.getElem?_map]
  rcases hj : bs[j]? with _ | x
  · simp
  · have := hb x (List.mem_of_getElem? hj)
    simp only [Option.map_some, Option.getD_some, UInt8.toNat_ofNat']
    omega
/-- What such a conversion makes. -/
theorem run_str_bytes {P : Program} (w : World) (src dst e : TypeId) (bs : List Int) (hb : Byt bs) (hl : bs.length ≤ maxLen) {u : TypeDesc} (hs : P.underlying src = some u) (hd : P.underlying dst = some (.slice e)) (he : P.underlying e = some (.int .u8)) :
    ∃ c w', (convert src dst (.string (strOfNums bs))).run P w = .ok (.slice (some ⟨w.heap.size, 0, none⟩) bs.length c) w' ∧ bs.length ≤ c ∧ c ≤ maxLen ∧ Rd w' w'.heap.size (some ⟨w.heap.size, 0, none⟩) bs.length bs ∧ Below w.heap.size w w' ∧ w'.heap.size = w.heap.size + 1 := by
  have h := Lib.run_convert_string_bytes (P := P) w src dst e (strOfNums bs) hs hd he
  rw [nums_size] at h
  have hsz := Lib.bytesWorld_size w e (strOfNums bs)
  refine ⟨_, _, h, grownCap_ge _ _ _ _, grownCap_le_maxLen _ _ _ _ hl, ⟨rfl, hb, fun hp => ⟨w.heap.size, 0, rfl, by omega, fun i hi => ?_⟩⟩, ⟨rfl, rfl, rfl, by omega, fun k hk => Lib.bytesWorld_at_old w e _ k hk⟩, hsz⟩
  rw [Nat.zero_add, Lib.bytesWorld_cell w e _ i (by rw [nums_size]; exact hi), nums_at bs hb]
theorem wpList_str_bytes {P : Program} {w : World} {ops : Array Oper} {rest : List Oper} {o : Oper} {a : Act} {Q : Exit → Act → World → Prop} (hgd : Region.wanted o (yielded ops a.tmps) = true) (src dst e : TypeId) (x : Operand) (ho : o.op = .convert src dst x)
    (bs : List Int) (hb : Byt bs) (hl : bs.length ≤ maxLen) {u : TypeDesc} (hs : P.underlying src = some u) (hd : P.underlying dst = some (.slice e)) (he : P.underlying e = some (.int .u8)) (hx : a.eval x = .string (strOfNums bs))
    (h : ∀ w' c, bs.length ≤ c → c ≤ maxLen → Rd w' w'.heap.size (some ⟨w.heap.size, 0, none⟩) bs.length bs → Below w.heap.size w w' → w'.heap.size = w.heap.size + 1 → wpList P ops Q rest (a.put o.dst (.slice (some ⟨w.heap.size, 0, none⟩) bs.length c)) w') : wpList P ops Q (o :: rest) a w := by
  refine wpList_step fun K hK => ?_
  rw [if_pos hgd]
  obtain ⟨c, w', h1, h2, h3, h4, h5, h6⟩ := run_str_bytes (P := P) w src dst e bs hb hl hs hd he
  unfold Oper.wp
  simp [execOp, ho, hx, h1, Result.andThen]
  exact hK _ _ (h w' c h2 h3 h4 h5 h6)
end
end Go.Proofs.Ytehdilgnlhhjdaa
