/-
  lock.turned, Seal, Open, Mask.
-/
import Derived.Test.YtkgeeoogmkpjhaaLt
import Derived.Test.YtkgeeoogmkpjhaaRoom
namespace Go.Proofs.Ytkgeeoogmkpjhaa
set_option linter.unusedVariables false
set_option linter.unusedSimpArgs false
open Go.RowKit Go.ChangeShapes Go.WideShapes Go.Deep
/-- The state of turned's loop: the row so far, the block at hand. -/
structure TuS (w : World) (key n : Int) (bs : List Int) (g8 k : Nat) (v : Value) (W : World) : Prop where
  own : Own W w.heap.size 5 v ((turnS key n bs).take k)
  ne : v.ownBlock ≠ some g8
  b : Below w.heap.size w W
  le : w.heap.size ≤ g8
  blk : ∃ m : N8, At W g8 28 (m.l.map (Value.int .u8)) ∧ Byt m.l ∧ (k % 8 ≠ 0 → m = blkS key n (k / 8))
theorem TuS.below {w : World} {key n : Int} {bs : List Int} {g8 k : Nat} {v : Value} {W W' : World} (h : TuS w key n bs g8 k v W) (hb : Below W.heap.size W W') : TuS w key n bs g8 k v W' := by
  obtain ⟨m, h1, h2, h3⟩ := h.blk
  exact ⟨h.own.below hb (Nat.le_refl _), h.ne, h.b.trans (hb.mono h.b.size), h.le, m, h1.below hb h1.lt, h2, h3⟩
theorem TuS.put {w : World} {key n : Int} {bs : List Int} {g8 k : Nat} {v : Value} {W W' : World} {m m' : N8} (h : TuS w key n bs g8 k v W) (hk : Kept (· = g8) W W') (hA : At W' g8 28 (m'.l.map (Value.int .u8))) (hb : Byt m'.l) (e : m' = blkS key n (k / 8)) :
    TuS w key n bs g8 k v W' :=
  ⟨h.own.kept hk (fun j hj e => h.ne (by rw [hj, e])), h.ne, hk.below h.b h.b.size (fun j hj => by subst hj; exact h.le), h.le, m', hA, hb, fun _ => e⟩
theorem TuS.step {w : World} {key n : Int} {bs : List Int} {g8 k : Nat} {v v' : Value} {W W1 W' : World} {m : N8} (h : TuS w key n bs g8 k v W) (hb1 : Below W.heap.size W W1) (hA : At W g8 28 (m.l.map (Value.int .u8))) (hby : Byt m.l) (e : m = blkS key n (k / 8)) (hk : k < bs.length)
    (ho : Own W' w.heap.size 5 v' ((turnS key n bs).take k ++ [bits BinOp.xor IntKind.u8 (bs.getD k 0) (m.l.getD (k % 8) 0)])) (hg : W1.grownBy W' v.ownBlock) (hv : v'.ownBlock = v.ownBlock ∨ v'.ownBlock = some W1.heap.size) : TuS w key n bs g8 (k + 1) v' W' := by
  have hA1 := hA.below hb1 hA.lt
  have hkk : Kept (fun j => v.ownBlock = some j) W1 W' := Kept.of_grown hg (fun k hk => .inl hk)
  refine ⟨ho.cast ?_, ?_, ?_, h.le, m, hA1.kept hkk h.ne, hby, fun h8 => ?_⟩
  · rw [turnS_step key n bs k hk, e]; rfl
  · rcases hv with h1 | h1
    · rw [h1]; exact h.ne
    · rw [h1]; intro e2; injection e2 with e2; have := hA1.lt; omega
  · exact hkk.below (h.b.trans (hb1.mono h.b.size)) (Nat.le_trans h.b.size hb1.size) (fun j hj => (h.own.block_lt j hj).1)
  · rw [e, show (k + 1) / 8 = k / 8 by omega]
set_option maxRecDepth 100000 in
set_option maxHeartbeats 2000000 in
theorem turned_any (key n : Int) (A : Option Addr) (nn cc : Nat) (bs : List Int) (w : World) (hr : Rd w w.heap.size A nn bs) (hn : nn ≤ cc) (hc : cc ≤ maxLen) (hln : nn ≤ 140737488355000) (k0 : 0 ≤ key) (k1 : key < 18446744073709551616) (n0 : 0 ≤ n) (n1 : n < 18446744073709551616) :
    Calls Try.prog 30 #[.int .u64 key, .int .u64 n, .slice A nn cc] w fun e w' => ∃ v, e = .returned v ∧ Own w' w.heap.size 5 v (turnS key n bs) ∧ Below w.heap.size w w' := by
  obtain ⟨i0, hi, hz0, hz1, hz2⟩ := info_parts u8_info
  have hb0 := Below.refl w.heap.size w
  have hc3 := hc
  unfold maxLen at hc3
  have hlen := hr.1
  have hby := hr.2.1
  have HR := Lib.hid hr
  clear hr
  go_enter Try.func30, Try.ntmps30
  go_wp2_with (first | (at_make; refine wpList_make_lc rfl (.const (.int .i64 0)) (.tmp 14) 22 rfl 5 i0 (.int .u8 0) Try.underlying22 hi hz0 hz1 .i64 .i64 _ _ 0 (nn + 8) rfl rfl rfl (by simp) (by omega) (by rw [hz2]; omega) (by unfold maxLen; omega) w.heap.size w hb0 (Nat.le_refl _) ?_; intro w1 g G1 GE hg hb1 hbw1) | fail)
  have hO : Own w1 w.heap.size 5 (.slice (some ⟨g, 0, none⟩) 0 (nn + 8)) [] := Own.of_block Byt.nil rfl G1.out hg (Nat.zero_le _) (by unfold maxLen; omega) (by have := madeL_len (.int .u8 0) (nn + 8); simpa using this) rfl
  have hA8 : At (w1.alloc (.cells #[.int .u8 0, .int .u8 0, .int .u8 0, .int .u8 0, .int .u8 0, .int .u8 0, .int .u8 0, .int .u8 0] 28)) w1.heap.size 28 z8L := At.new w1 28 z8L
  have hI : TuS w key n bs w1.heap.size 0 (.slice (some ⟨g, 0, none⟩) 0 (nn + 8)) (w1.alloc (.cells #[.int .u8 0, .int .u8 0, .int .u8 0, .int .u8 0, .int .u8 0, .int .u8 0, .int .u8 0, .int .u8 0] 28)) := ⟨(hO.alloc _).cast (by simp), by have := (hO.block_lt g rfl).2; show (some g : Option Nat) ≠ some _; intro e; injection e with e; omega, hb1.alloc hb1.size _, hb1.size, N8.zero, hA8, by intro x hx; simp [N8.zero, N8.l] at hx; omega, by omega⟩
  have HI := Lib.hid hI
  clear G1 GE hg hb1 hbw1 hO hA8 hI hb0
  go_loopw [7, 18] (fun v i wr => ∃ k : Nat, k ≤ nn ∧ i = .int .i64 k ∧ Hid (TuS w key n bs w1.heap.size k v wr)) (fun _ i _ => nn - (intOf i).toNat)
  case atStart => exact ⟨0, Nat.zero_le _, rfl, HI⟩
  case round =>
    obtain ⟨k, hk, rfl, hst⟩ := hrel
    obtain ⟨wo, rfl⟩ : ∃ wo : World, wo = wr := ⟨_, rfl⟩
    have hS := hst.out
    clear hst HI
    obtain ⟨q, hq⟩ : ∃ q, k / 8 = q := ⟨_, rfl⟩
    have hqI : (k : Int) / 8 = (q : Int) := by omega
    obtain ⟨j, hj⟩ : ∃ j, k % 8 = j := ⟨_, rfl⟩
    have hjI : (k : Int) % 8 = (j : Int) := by omega
    have hj8 : j < 8 := by omega
    by_cases hlt : k < nn
    · have hro := (HR.out.below hS.b).more hS.b.size
      obtain ⟨b, off, rfl, hbl, hcell⟩ := hro.2.2 (by omega)
      have c1 := hcell k hlt
      have hbb := hby.getD k
      obtain ⟨y, hy⟩ : ∃ y, bs.getD k 0 = y := ⟨_, rfl⟩
      rw [hy] at c1 hbb
      have hyy := Lib.hid hy
      have hjj := Lib.hid hj
      clear hcell hy hro
      by_cases hz : j = 0
      · subst hz
        have hB := blk_any key n q wo k0 k1 n0 n1 (by omega)
        have hbm := b8_byt (keyedS key (beS 8 n ++ beS 8 q))
        have hm : blkS key n q = blkS key n (k / 8) := by rw [hq]
        obtain ⟨m, hmm⟩ : ∃ m, blkS key n q = m := ⟨_, rfl⟩
        rw [show b8 (keyedS key (beS 8 n ++ beS 8 (q : Int))) = m from hmm] at hbm
        rw [hmm] at hB hm
        obtain ⟨z, hz⟩ : ∃ z, m.l.getD 0 0 = z := ⟨_, rfl⟩
        have hzz := Lib.hid hz
        have HM := Lib.hid hm
        clear hmm hq hj hm hz
        go_wp2_with fail
        refine hB.mono ?_
        rintro e w2 ⟨rfl, hb2⟩
        have hS2 := hS.below hb2
        obtain ⟨m0, hA2, _, _⟩ := hS2.blk
        have c2 := cell_later hb2 c1
        clear hS hb2 c1
        go_wp2_with (first | ((with_reducible refine at_st8 ?_); refine st_8 w1.heap.size 28 (m0.l.map (Value.int .u8)) m (by rfl) (by rfl) hA2 rfl ?_; intro w3 hA3 hk3; have hcz : w3.cell? ⟨w1.heap.size, 0, none⟩ = some (.int .u8 z) := (by rw [hA3.cell, ← hzz.out]; rfl); have hS3 := hS2.put (m := m0) hk3 hA3 hbm HM.out; clear hS2 hA2 hk3) | (at_builtin; refine wpList_append_at (by rfl) (.tmp 33) (.tmp 39) 22 rfl w.heap.size 5 i0 Try.underlying22 hi hz0 hz1 hz2 _ ((turnS key n bs).take k) rfl (hS3.own.alloc _) _ _ 1 1 [bits BinOp.xor IntKind.u8 y z] rfl (Rd.byte w3 5 _ rfl _ (u8_bits_bd _ _ _)) (by rw [List.length_take, turnS_len]; omega) (by have := hS3.b.size; simp; omega) ?_; intro v2 w4 ho2 hg2 hv2) | fail)
        have HN := Lib.hid (hS3.step ((Below.refl _ _).alloc (Nat.le_refl _) _) hA3 hbm HM.out (by omega) (by rw [hyy.out, hjj.out, hzz.out]; exact ho2) hg2 hv2)
        clear ho2 hg2 hv2 hS3 hA3 hcz
        go_roundw
        case rel => exact ⟨k + 1, by omega, by go_num, HN⟩
        case measure => simp [intOf]; omega
      · obtain ⟨m, hA3, hbm, hm0⟩ := hS.blk
        have HM := Lib.hid (hm0 (by omega))
        obtain ⟨z, hz⟩ : ∃ z, m.l.getD j 0 = z := ⟨_, rfl⟩
        have hzz := Lib.hid hz
        have hcz : wo.cell? ⟨w1.heap.size, j, none⟩ = some (.int .u8 z) := by
          rw [hA3.cell, List.getElem?_map, ← hz, List.getD_eq_getElem?_getD, List.getElem?_eq_getElem (show j < m.l.length from hj8)]; rfl
        obtain ⟨w3, hw3⟩ : ∃ x, wo = x := ⟨_, rfl⟩
        rw [hw3] at hA3 hcz c1 hS ⊢
        have hS3 := hS
        have hjp : (0 : Int) < (j : Int) := by omega
        clear hz hq hj hm0 hS hw3
        go_wp2_with (first | (at_builtin; refine wpList_append_at (by rfl) (.tmp 33) (.tmp 39) 22 rfl w.heap.size 5 i0 Try.underlying22 hi hz0 hz1 hz2 _ ((turnS key n bs).take k) rfl (hS3.own.alloc _) _ _ 1 1 [bits BinOp.xor IntKind.u8 y z] rfl (Rd.byte w3 5 _ rfl _ (u8_bits_bd _ _ _)) (by rw [List.length_take, turnS_len]; omega) (by have := hS3.b.size; simp; omega) ?_; intro v2 w4 ho2 hg2 hv2) | fail)
        have HN := Lib.hid (hS3.step ((Below.refl _ _).alloc (Nat.le_refl _) _) hA3 hbm HM.out (by omega) (by rw [hyy.out, hjj.out, hzz.out]; exact ho2) hg2 hv2)
        clear ho2 hg2 hv2 hS3 hA3 hcz
        go_roundw
        case rel => exact ⟨k + 1, by omega, by go_num, HN⟩
        case measure => simp [intOf]; omega
    · obtain rfl : k = nn := by omega
      have hO := hS.own.cast (List.take_of_length_le (by rw [turnS_len]; omega))
      have hB := hS.b
      clear hS
      go_wp2_with fail
      go_ret
      exact ⟨_, rfl, hO, hB⟩
end Go.Proofs.Ytkgeeoogmkpjhaa
