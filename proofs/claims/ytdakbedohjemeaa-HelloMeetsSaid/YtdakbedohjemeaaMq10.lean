/-
  What Bytes and Number of package mix and of the document's own (narthexref7) answer; there and back.
-/
import Derived.Test.YtdakbedohjemeaaA8
import Derived.Test.YtdakbedohjemeaaMx
import Derived.Test.YtdakbedohjemeaaBytes
import Derived.Test.YtdakbedohjemeaaMq1
import Derived.Lib.ConvBytes
namespace Go.Proofs.Ytdakbedohjemeaa
section
set_option linter.unusedVariables false
open Go.RowKit
def orS (v x : Int) : Int := bits BinOp.or IntKind.u64 (IntKind.u64.wrap (v * 256)) x
def numS (bs : List Int) : Int := bs.foldl orS 0
theorem orS_eq (v x : Int) (h0 : 0 ≤ v) (h1 : v < 72057594037927936) (h2 : 0 ≤ x) (h3 : x < 256) : orS v x = v * 256 + x := by
  unfold orS
  rw [IntKind.wrap_u64, Int.emod_eq_of_lt (by omega) (by omega)]
  exact or256 v x h0 h1 h2 h3
theorem numS_step (bs : List Int) (k : Nat) (hk : k < bs.length) : numS (bs.take (k + 1)) = orS (numS (bs.take k)) (bs.getD k 0) := by
  unfold numS
  rw [List.take_succ_eq_append_getElem hk, List.foldl_append, List.getD_eq_getElem?_getD, List.getElem?_eq_getElem hk]
  rfl
theorem num8 (m : N8) (hb : Byt m.l) : numS m.l = m.a0 * 72057594037927936 + m.a1 * 281474976710656 + m.a2 * 1099511627776 + m.a3 * 4294967296 + m.a4 * 16777216 + m.a5 * 65536 + m.a6 * 256 + m.a7 := by
  obtain ⟨a0, a1, a2, a3, a4, a5, a6, a7⟩ := m
  have b0 := hb a0 (by simp [N8.l])
  have b1 := hb a1 (by simp [N8.l])
  have b2 := hb a2 (by simp [N8.l])
  have b3 := hb a3 (by simp [N8.l])
  have b4 := hb a4 (by simp [N8.l])
  have b5 := hb a5 (by simp [N8.l])
  have b6 := hb a6 (by simp [N8.l])
  have b7 := hb a7 (by simp [N8.l])
  show orS (orS (orS (orS (orS (orS (orS (orS 0 a0) a1) a2) a3) a4) a5) a6) a7 = _
  rw [orS_eq 0 a0 (by omega) (by omega) (by omega) (by omega), orS_eq _ a1 (by omega) (by omega) (by omega) (by omega), orS_eq _ a2 (by omega) (by omega) (by omega) (by omega), orS_eq _ a3 (by omega) (by omega) (by omega) (by omega),
    orS_eq _ a4 (by omega) (by omega) (by omega) (by omega), orS_eq _ a5 (by omega) (by omega) (by omega) (by omega), orS_eq _ a6 (by omega) (by omega) (by omega) (by omega), orS_eq _ a7 (by omega) (by omega) (by omega) (by omega)]
  simp only
  omega
def b8 (n : Int) : N8 := N8.of (beS 8 n)
theorem b8_l (n : Int) : (b8 n).l = beS 8 n := N8.l_of _ (beS_len 8 n)
theorem b8_byt (n : Int) : Byt (b8 n).l := by rw [b8_l]; exact beS_byt 8 n
theorem num_bytes (n : Int) (h0 : 0 ≤ n) (h1 : n < 18446744073709551616) : numS (b8 n).l = n := by
  rw [num8 _ (b8_byt n)]
  unfold b8
  rw [be8]
  simp only [N8.of, List.getD_cons_zero, List.getD_cons_succ]
  omega
theorem numS_bd (m : N8) (hb : Byt m.l) : 0 ≤ numS m.l ∧ numS m.l < 18446744073709551616 := by
  rw [num8 m hb]
  obtain ⟨a0, a1, a2, a3, a4, a5, a6, a7⟩ := m
  have b0 := hb a0 (by simp [N8.l])
  have b1 := hb a1 (by simp [N8.l])
  have b2 := hb a2 (by simp [N8.l])
  have b3 := hb a3 (by simp [N8.l])
  have b4 := hb a4 (by simp [N8.l])
  have b5 := hb a5 (by simp [N8.l])
  have b6 := hb a6 (by simp [N8.l])
  have b7 := hb a7 (by simp [N8.l])
  simp only
  omega
/-- The first k bytes of n, and zeros. -/
def rowB (n : Int) (k : Nat) : List Value := ((beS 8 n).take k ++ List.replicate (8 - k) 0).map (Value.int .u8)
theorem rowB_set (n : Int) (k : Nat) (hk : k < 8) : (rowB n k).set k (.int .u8 (byteS 8 n k)) = rowB n (k + 1) := by
  have h : k = 0 ∨ k = 1 ∨ k = 2 ∨ k = 3 ∨ k = 4 ∨ k = 5 ∨ k = 6 ∨ k = 7 := by omega
  unfold rowB
  rw [show beS 8 n = [byteS 8 n 0, byteS 8 n 1, byteS 8 n 2, byteS 8 n 3, byteS 8 n 4, byteS 8 n 5, byteS 8 n 6, byteS 8 n 7] from rfl]
  rcases h with rfl | rfl | rfl | rfl | rfl | rfl | rfl | rfl <;> rfl
theorem rowB_full (n : Int) : rowB n 8 = (b8 n).l.map (Value.int .u8) := by
  rw [b8_l]
  unfold rowB
  rw [List.take_of_length_le (by rw [beS_len]; omega)]
  simp
theorem rowB_cell (n : Int) (k : Nat) (hk : k < 8) : (rowB n k)[k]? = some (.int .u8 0) := by
  have h : k = 0 ∨ k = 1 ∨ k = 2 ∨ k = 3 ∨ k = 4 ∨ k = 5 ∨ k = 6 ∨ k = 7 := by omega
  unfold rowB
  rw [show beS 8 n = [byteS 8 n 0, byteS 8 n 1, byteS 8 n 2, byteS 8 n 3, byteS 8 n 4, byteS 8 n 5, byteS 8 n 6, byteS 8 n 7] from rfl]
  rcases h with rfl | rfl | rfl | rfl | rfl | rfl | rfl | rfl <;> rfl
theorem byteS_at (n : Int) (k : Nat) : n / 2 ^ (56 - 8 * k) % 256 = byteS 8 n k := by
  unfold byteS
  rw [show 8 * (8 - 1 - k) = 56 - 8 * k by omega]
set_option maxRecDepth 100000 in
set_option maxHeartbeats 1000000 in
theorem mbytes_any (n : Int) (w : World) (h0 : 0 ≤ n) (h1 : n < 18446744073709551616) :
    Calls Try.prog 48 #[.int .u64 n] w fun e w' => e = .returned (b8 n).v ∧ Below w.heap.size w w' := by
  have hA0 : At (w.alloc (.cells (rowB n 0).toArray 23)) w.heap.size 23 (rowB n 0) := At.new w _ _
  have hB0 : Below w.heap.size w (w.alloc (.cells (rowB n 0).toArray 23)) := (Below.refl _ _).alloc (Nat.le_refl _) _
  have hA1 : At ((w.alloc (.cells (rowB n 0).toArray 23)).alloc (.cells (rowB n 0).toArray 23)) (w.heap.size + 1) 23 (rowB n 0) := At.new_ _ _ _ (by simp)
  have HI := Lib.hid (And.intro (hB0.alloc (by simp) (.cells (rowB n 0).toArray 23)) (And.intro (hA0.alloc (.cells (rowB n 0).toArray 23)) hA1))
  clear hA0 hB0 hA1
  go_enter Try.func48, Try.ntmps48
  go_wp2_with fail
  go_loopw [5] (fun i wr => ∃ k : Nat, k ≤ 8 ∧ i = .int .i64 k ∧ Hid (Below w.heap.size w wr ∧ At wr w.heap.size 23 (rowB n 0) ∧ At wr (w.heap.size + 1) 23 (rowB n k))) (fun i _ => 8 - (intOf i).toNat)
  case atStart => exact ⟨0, by omega, rfl, HI⟩
  case round =>
    obtain ⟨k, hk, rfl, hst⟩ := hrel
    obtain ⟨wo, rfl⟩ : ∃ wo : World, wo = wr := ⟨_, rfl⟩
    have hB := hst.out.1
    have hR := hst.out.2.1
    have hX := hst.out.2.2
    clear hst HI
    by_cases hlt : k < 8
    · have hkI : (k : Int) < 8 := by omega
      have hc : wo.cell? ⟨w.heap.size + 1, k, none⟩ = some (.int .u8 0) := by rw [hX.cell]; exact rowB_cell n k hlt
      have hf := hX.frozen k
      have hs := hX.set k (.int .u8 (byteS 8 n k))
      rw [rowB_set n k hlt] at hs
      have hR2 := hR.set_other (q := ⟨w.heap.size + 1, k, none⟩) (by show w.heap.size + 1 ≠ w.heap.size; omega) (.int .u8 (byteS 8 n k))
      have hB2 := hB.setCell (p := ⟨w.heap.size + 1, k, none⟩) (by show w.heap.size ≤ w.heap.size + 1; omega) (.int .u8 (byteS 8 n k))
      have HN := Lib.hid (And.intro hB2 (And.intro hR2 hs))
      clear hB2 hR2 hs hX hR hB
      go_wp2_with fail
      go_roundw
      case rel => exact ⟨k + 1, by omega, by go_num, by rw [byteS_at]; exact HN⟩
      case measure => simp [intOf]; omega
    · obtain rfl : k = 8 := by omega
      rw [rowB_full] at hX
      have hg0 := hR.lt
      go_wp2_with (first | ((with_reducible refine at_ld8 ?_); refine ld_8g (by rfl) (w.heap.size + 1) 0 (b8 n) (by rfl) hX.rangeAt ?_) | ((with_reducible refine at_st8 ?_); refine st_8 w.heap.size 23 (rowB n 0) (b8 n) (by rfl) (by rfl) hR rfl ?_; intro w9 hA9 hk9) | fail)
      refine bodyPost_ret (results_cell 2 23 (by rfl) _ 23 _ _ (by rfl) hA9 Try.underlying23 rfl a8_info) rfl ?_
      exact ⟨rfl, hk9.below hB (by omega) (fun j hj => by omega)⟩
set_option maxRecDepth 100000 in
theorem a8_index (m : N8) (k : Nat) (hk : k < 8) (W : World) : (Instr.index 23 m.v (.int .i64 k)).run Try.prog W = .ok (.int .u8 (m.l.getD k 0)) W := by
  obtain ⟨a0, a1, a2, a3, a4, a5, a6, a7⟩ := m
  have h9 : k = 0 ∨ k = 1 ∨ k = 2 ∨ k = 3 ∨ k = 4 ∨ k = 5 ∨ k = 6 ∨ k = 7 := by omega
  rcases h9 with rfl | rfl | rfl | rfl | rfl | rfl | rfl | rfl <;> first | rfl | (show _ = _; kernel_rfl)
set_option maxRecDepth 100000 in
set_option maxHeartbeats 1000000 in
theorem number_any (m : N8) (w : World) (hb : Byt m.l) :
    Calls Try.prog 44 #[m.v] w fun e w' => e = .returned (.int .u64 (numS m.l)) ∧ Below w.heap.size w w' := by
  have hA := At.new w 23 (m.l.map (Value.int .u8))
  have hB : Below w.heap.size w (w.alloc (.cells (m.l.map (Value.int .u8)).toArray 23)) := (Below.refl _ _).alloc (Nat.le_refl _) _
  obtain ⟨a0, a1, a2, a3, a4, a5, a6, a7⟩ := m
  have b0 := hb a0 (by simp [N8.l])
  have b1 := hb a1 (by simp [N8.l])
  have b2 := hb a2 (by simp [N8.l])
  have b3 := hb a3 (by simp [N8.l])
  have b4 := hb a4 (by simp [N8.l])
  have b5 := hb a5 (by simp [N8.l])
  have b6 := hb a6 (by simp [N8.l])
  have b7 := hb a7 (by simp [N8.l])
  have hix : ∀ k, k < 8 → ∀ W, (Instr.index 23 (N8.v ⟨a0, a1, a2, a3, a4, a5, a6, a7⟩) (.int .i64 (k : Nat))).run Try.prog W = .ok (.int .u8 ([a0, a1, a2, a3, a4, a5, a6, a7].getD k 0)) W := fun k hk W => a8_index ⟨a0, a1, a2, a3, a4, a5, a6, a7⟩ k hk W
  have IX := Lib.hid hix
  have BY := Lib.hid (fun k => (show Byt [a0, a1, a2, a3, a4, a5, a6, a7] from hb).getD k)
  clear hb hix
  have hst := fun k => numS_step [a0, a1, a2, a3, a4, a5, a6, a7] k
  have ST := Lib.hid hst
  clear hst
  simp only [N8.v]
  simp only [N8.l, List.map_cons, List.map_nil] at hA hB
  have hfin : numS (N8.l ⟨a0, a1, a2, a3, a4, a5, a6, a7⟩) = numS ([a0, a1, a2, a3, a4, a5, a6, a7].take 8) := rfl
  rw [hfin]
  clear hfin
  go_enter Try.func44, Try.ntmps44
  go_wp2_with (first | ((with_reducible refine at_ld8 ?_); refine ld_8g (by rfl) w.heap.size 0 ⟨a0, a1, a2, a3, a4, a5, a6, a7⟩ (by rfl) hA.rangeAt ?_) | fail)
  obtain ⟨wn, hwn⟩ : ∃ x, w.alloc (.cells [Value.int .u8 a0, .int .u8 a1, .int .u8 a2, .int .u8 a3, .int .u8 a4, .int .u8 a5, .int .u8 a6, .int .u8 a7].toArray 23) = x := ⟨_, rfl⟩
  rw [hwn] at hB
  have HB := Lib.hid hB
  clear hA hB
  rw [show (w.alloc (.cells #[Value.int .u8 a0, .int .u8 a1, .int .u8 a2, .int .u8 a3, .int .u8 a4, .int .u8 a5, .int .u8 a6, .int .u8 a7] 23)) = wn from hwn]
  clear hwn
  go_loop [3, 7] (fun h i => ∃ k : Nat, k ≤ 8 ∧ i = .int .i64 k ∧ h = .int .u64 (numS ([a0, a1, a2, a3, a4, a5, a6, a7].take k))) (fun _ i => 8 - (intOf i).toNat)
  case atStart => exact ⟨0, Nat.zero_le _, rfl, rfl⟩
  case round =>
    obtain ⟨k, hk, rfl, rfl⟩ := hrel
    obtain ⟨H, hH⟩ : ∃ H, numS ([a0, a1, a2, a3, a4, a5, a6, a7].take k) = H := ⟨_, rfl⟩
    rw [hH]
    by_cases hlt : k < 8
    · have hs := ST.out k hlt
      have hix := IX.out k hlt
      have hy := BY.out k
      rw [hH] at hs
      clear hH
      unfold orS at hs
      obtain ⟨y, hy0⟩ : ∃ y, [a0, a1, a2, a3, a4, a5, a6, a7].getD k 0 = y := ⟨_, rfl⟩
      rw [hy0] at hs hix hy
      clear hy0
      obtain ⟨hy1, hy2⟩ := hy
      have hkI : (k : Int) < 8 := by omega
      have S := Lib.hid hs; clear hs
      go_wp2_with fail
      go_round
      case rel => exact ⟨k + 1, by omega, by go_num, by rw [S.out]⟩
      case measure => simp [intOf]; omega
    · obtain rfl : k = 8 := by omega
      have HH := Lib.hid hH
      clear hH
      go_wp2_with fail
      go_ret
      exact ⟨ret_int HH.out.symm, HB.out⟩
end
section
set_option linter.unusedVariables false
set_option linter.unusedSimpArgs false
open Go.RowKit
theorem nums_size (bs : List Int) : (strOfNums bs).size = bs.length := by simp [strOfNums, ByteArray.size]
theorem nums_at (bs : List Int) (hb : Byt bs) (j : Nat) : (((strOfNums bs).data.toList.getD j 0).toNat : Int) = bs.getD j 0 := by
  unfold strOfNums
  simp only [List.getD_eq_getElem?_getD, List.getElem?_map]
  rcases hj : bs[j]? with _ | x
  · simp
  · have := hb x (List.mem_of_getElem? hj)
    simp only [Option.map_some, Option.getD_some, UInt8.toNat_ofNat']
    omega
/-- What such a conversion makes. -/
theorem run_str_bytes {P : Program} (w : World) (src dst e : TypeId) (bs : List Int) (hb : Byt bs) (hl : bs.length ≤ maxLen) {u : TypeDesc} (hs : P.underlying src = some u) (hd : P.underlying dst = some (.slice e)) (he : P.underlying e = some (.int .u8)) :
    ∃ c w', (convert src dst (.string (strOfNums bs))).run P w = .ok (.slice (some ⟨w.heap.size, 0, none⟩) bs.length c) w' ∧ bs.length ≤ c ∧ c ≤ maxLen ∧ Rd w' w'.heap.size (some ⟨w.heap.size, 0, none⟩) bs.length bs ∧ Below w.heap.size w w' ∧ w'.heap.size = w.heap.size + 1 := by
  have h := Lib.run_convert_string_bytes (P := P) w src dst e (strOfNums bs) hs hd he
  rw [nums_size] at h
  have hsz := Lib.bytesWorld_size w e (strOfNums bs)
  refine ⟨_, _, h, grownCap_ge _ _ _ _, grownCap_le_maxLen _ _ _ _ hl, ⟨rfl, hb, fun hp => ⟨w.heap.size, 0, rfl, by omega, fun i hi => ?_⟩⟩, ⟨rfl, rfl, rfl, by omega, fun k hk => Lib.bytesWorld_at_old w e _ k hk⟩, hsz⟩
  rw [Nat.zero_add, Lib.bytesWorld_cell w e _ i (by rw [nums_size]; exact hi), nums_at bs hb]
theorem wpList_str_bytes {P : Program} {w : World} {ops : Array Oper} {rest : List Oper} {o : Oper} {a : Act} {Q : Exit → Act → World → Prop} (hgd : Region.wanted o (yielded ops a.tmps) = true) (src dst e : TypeId) (x : Operand) (ho : o.op = .convert src dst x)
    (bs : List Int) (hb : Byt bs) (hl : bs.length ≤ maxLen) {u : TypeDesc} (hs : P.underlying src = some u) (hd : P.underlying dst = some (.slice e)) (he : P.underlying e = some (.int .u8)) (hx : a.eval x = .string (strOfNums bs))
    (h : ∀ w' c, bs.length ≤ c → c ≤ maxLen → Rd w' w'.heap.size (some ⟨w.heap.size, 0, none⟩) bs.length bs → Below w.heap.size w w' → w'.heap.size = w.heap.size + 1 → wpList P ops Q rest (a.put o.dst (.slice (some ⟨w.heap.size, 0, none⟩) bs.length c)) w') : wpList P ops Q (o :: rest) a w := by
  refine wpList_step fun K hK => ?_
  rw [if_pos hgd]
  obtain ⟨c, w', h1, h2, h3, h4, h5, h6⟩ := run_str_bytes (P := P) w src dst e bs hb hl hs hd he
  unfold Oper.wp
  simp [execOp, ho, hx, h1, Result.andThen]
  exact hK _ _ (h w' c h2 h3 h4 h5 h6)
end
end Go.Proofs.Ytdakbedohjemeaa
