/-
  What the statements' books of memory answer for bytes: Same of two rows that read alike, Roomy, Intact.
-/
import Derived.Test.YtehdilgnlhhjdaaMq4
import Derived.Test.YtehdilgnlhhjdaaMq7
namespace Go.Proofs.Ytehdilgnlhhjdaa
section
set_option linter.unusedVariables false
open Go.RowKit
/-- A block that holds bs, then k marks, then room up to n + 80 cells. -/
def RoomAt (w : World) (g : Nat) (e : TypeId) (bs : List Int) (k : Nat) (mark : Int) : Prop :=
  ∃ cur : Array Value, w.heap[g]? = some (.cells cur e (0, 0)) ∧ cur.size = bs.length + 80 ∧ (∀ j, j < bs.length → cur[j]? = some (.int .u8 (bs.getD j 0))) ∧ (∀ j, j < k → cur[bs.length + j]? = some (.int .u8 mark))
theorem RoomAt.cell {w : World} {g : Nat} {e : TypeId} {bs : List Int} {k : Nat} {mark : Int} (h : RoomAt w g e bs k mark) (hk : k < 80) :
    ∃ u, w.cell? ⟨g, bs.length + k, none⟩ = some u ∧ w.frozen? ⟨g, bs.length + k, none⟩ = false := by
  obtain ⟨cur, hh, hs, _, _⟩ := h
  have hl : bs.length + k < cur.size := by omega
  refine ⟨cur[bs.length + k], ?_, ?_⟩
  · rw [cell_of_row w g _ cur e (0, 0) hh]; exact Array.getElem?_eq_getElem hl
  · simp [World.frozen?, hh]
theorem RoomAt.step {w : World} {g : Nat} {e : TypeId} {bs : List Int} {k : Nat} {mark : Int} (h : RoomAt w g e bs k mark) (hk : k < 80) :
    RoomAt (w.setCell ⟨g, bs.length + k, none⟩ (.int .u8 mark)) g e bs (k + 1) mark := by
  obtain ⟨cur, hh, hs, h1, h2⟩ := h
  have hl : bs.length + k < cur.size := by omega
  refine ⟨cur.setIfInBounds (bs.length + k) (.int .u8 mark), ?_, by simpa using hs, fun j hj => ?_, fun j hj => ?_⟩
  · simp [World.setCell, Array.getElem?_modify, hh]
  · rw [Array.getElem?_setIfInBounds_ne (by omega)]; exact h1 j hj
  · by_cases he : j = k
    · subst he
      rw [Array.getElem?_setIfInBounds_self_of_lt hl]
    · rw [Array.getElem?_setIfInBounds_ne (by omega)]; exact h2 j (by omega)
theorem RoomAt.start {w : World} {g : Nat} {e : TypeId} {bs : List Int} {mark : Int} {cur : List Value} (hg : w.heap[g]? = some (.cells (splice cur 0 (bs.map (Value.int .u8))).toArray e (0, 0))) (hc : cur.length = bs.length + 80) : RoomAt w g e bs 0 mark := by
  refine ⟨_, hg, ?_, fun j hj => ?_, fun j hj => absurd hj (by omega)⟩
  · simp [splice]; omega
  · have hj' : j < (bs.map (Value.int .u8)).length := by simpa using hj
    rw [List.getElem?_toArray]
    unfold splice
    rw [List.take_zero, List.nil_append, List.getElem?_append_left hj', List.getElem?_map, List.getD_eq_getElem?_getD, List.getElem?_eq_getElem hj]; rfl
theorem RoomAt.own {w : World} {g base : Nat} {e : TypeId} {bs : List Int} {mark : Int} (h : RoomAt w g e bs 80 mark) (hb : Byt bs) (hm : 0 ≤ mark ∧ mark < 256) (hbase : base ≤ g) (hl : bs.length + 80 ≤ maxLen) :
    Own w base e (.slice (some ⟨g, 0, none⟩) (bs.length + 80) (bs.length + 80)) (bs ++ List.replicate 80 mark) := by
  obtain ⟨cur, hh, hs, h1, h2⟩ := h
  have hbr : Byt (List.replicate 80 mark) := fun x hx => by rw [List.eq_of_mem_replicate hx]; exact hm
  refine Own.of_block (hb.app hbr) (by simp) hh hbase (Nat.le_refl _) hl hs ?_
  rw [List.take_of_length_le (by simp; omega)]
  apply List.ext_getElem?
  intro j
  rw [Array.getElem?_toList]
  rcases Nat.lt_or_ge j bs.length with hj | hj
  · rw [h1 j hj, List.getElem?_map, List.getElem?_append_left hj, List.getD_eq_getElem?_getD, List.getElem?_eq_getElem hj]; rfl
  · rcases Nat.lt_or_ge j (bs.length + 80) with hj2 | hj2
    · have := h2 (j - bs.length) (by omega)
      rw [show bs.length + (j - bs.length) = j by omega] at this
      rw [this, List.getElem?_map, List.getElem?_append_right hj, List.getElem?_replicate_of_lt (by omega)]; rfl
    · rw [Array.getElem?_eq_none (by omega), List.getElem?_eq_none (by simp; omega)]
end
section
set_option linter.unusedVariables false
set_option linter.unusedSimpArgs false
open Go.RowKit Go.ChangeShapes Go.WideShapes Go.Deep
/-- The state of turned's loop: the row so far, the block at hand. -/
structure TuS (w : World) (key n : Int) (bs : List Int) (g8 k : Nat) (v : Value) (W : World) : Prop where
  own : Own W w.heap.size 5 v ((turnS key n bs).take k)
  ne : v.ownBlock ≠ some g8
  b : Below w.heap.size w W
  le : w.heap.size ≤ g8
  blk : ∃ m : N8, At W g8 26 (m.l.map (Value.int .u8)) ∧ Byt m.l ∧ (k % 8 ≠ 0 → m = blkS key n (k / 8))
theorem TuS.below {w : World} {key n : Int} {bs : List Int} {g8 k : Nat} {v : Value} {W W' : World} (h : TuS w key n bs g8 k v W) (hb : Below W.heap.size W W') : TuS w key n bs g8 k v W' := by
  obtain ⟨m, h1, h2, h3⟩ := h.blk
  exact ⟨h.own.below hb (Nat.le_refl _), h.ne, h.b.trans (hb.mono h.b.size), h.le, m, h1.below hb h1.lt, h2, h3⟩
theorem TuS.put {w : World} {key n : Int} {bs : List Int} {g8 k : Nat} {v : Value} {W W' : World} {m m' : N8} (h : TuS w key n bs g8 k v W) (hk : Kept (· = g8) W W') (hA : At W' g8 26 (m'.l.map (Value.int .u8))) (hb : Byt m'.l) (e : m' = blkS key n (k / 8)) :
    TuS w key n bs g8 k v W' :=
  ⟨h.own.kept hk (fun j hj e => h.ne (by rw [hj, e])), h.ne, hk.below h.b h.b.size (fun j hj => by subst hj; exact h.le), h.le, m', hA, hb, fun _ => e⟩
theorem TuS.step {w : World} {key n : Int} {bs : List Int} {g8 k : Nat} {v v' : Value} {W W1 W' : World} {m : N8} (h : TuS w key n bs g8 k v W) (hb1 : Below W.heap.size W W1) (hA : At W g8 26 (m.l.map (Value.int .u8))) (hby : Byt m.l) (e : m = blkS key n (k / 8)) (hk : k < bs.length)
    (ho : Own W' w.heap.size 5 v' ((turnS key n bs).take k ++ [bits BinOp.xor IntKind.u8 (bs.getD k 0) (m.l.getD (k % 8) 0)])) (hg : W1.grownBy W' v.ownBlock) (hv : v'.ownBlock = v.ownBlock ∨ v'.ownBlock = some W1.heap.size) : TuS w key n bs g8 (k + 1) v' W' := by
  have hA1 := hA.below hb1 hA.lt
  have hkk : Kept (fun j => v.ownBlock = some j) W1 W' := Kept.of_grown hg (fun k hk => .inl hk)
  refine ⟨ho.cast ?_, ?_, ?_, h.le, m, hA1.kept hkk h.ne, hby, fun h8 => ?_⟩
  · rw [turnS_step key n bs k hk, e]; rfl
  · rcases hv with h1 | h1
    · rw [h1]; exact h.ne
    · rw [h1]; intro e2; injection e2 with e2; have := hA1.lt; omega
  · exact hkk.below (h.b.trans (hb1.mono h.b.size)) (Nat.le_trans h.b.size hb1.size) (fun j hj => (h.own.block_lt j hj).1)
  · rw [e, show (k + 1) / 8 = k / 8 by omega]
set_option maxRecDepth 100000 in
set_option maxHeartbeats 2000000 in
theorem turned_any (key n : Int) (A : Option Addr) (nn cc : Nat) (bs : List Int) (w : World) (hr : Rd w w.heap.size A nn bs) (hn : nn ≤ cc) (hc : cc ≤ maxLen) (hln : nn ≤ 140737488355000) (k0 : 0 ≤ key) (k1 : key < 18446744073709551616) (n0 : 0 ≤ n) (n1 : n < 18446744073709551616) :
    Calls Try.prog 63 #[.int .u64 key, .int .u64 n, .slice A nn cc] w fun e w' => ∃ v, e = .returned v ∧ Own w' w.heap.size 5 v (turnS key n bs) ∧ Below w.heap.size w w' := by
  obtain ⟨i0, hi, hz0, hz1, hz2⟩ := info_parts u8_info
  have hb0 := Below.refl w.heap.size w
  have hc3 := hc
  unfold maxLen at hc3
  have hlen := hr.1
  have hby := hr.2.1
  have HR := Lib.hid hr
  clear hr
  go_enter Try.func63, Try.ntmps63
  go_wp2_with (first | (at_make; refine wpList_make_lc rfl (.const (.int .i64 0)) (.tmp 14) 28 rfl 5 i0 (.int .u8 0) Try.underlying28 hi hz0 hz1 .i64 .i64 _ _ 0 (nn + 8) rfl rfl rfl (by simp) (by omega) (by rw [hz2]; omega) (by unfold maxLen; omega) w.heap.size w hb0 (Nat.le_refl _) ?_; intro w1 g G1 GE hg hb1 hbw1) | fail)
  have hO : Own w1 w.heap.size 5 (.slice (some ⟨g, 0, none⟩) 0 (nn + 8)) [] := Own.of_block Byt.nil rfl G1.out hg (Nat.zero_le _) (by unfold maxLen; omega) (by have := madeL_len (.int .u8 0) (nn + 8); simpa using this) rfl
  have hA8 : At (w1.alloc (.cells #[.int .u8 0, .int .u8 0, .int .u8 0, .int .u8 0, .int .u8 0, .int .u8 0, .int .u8 0, .int .u8 0] 26)) w1.heap.size 26 z8L := At.new w1 26 z8L
  have hI : TuS w key n bs w1.heap.size 0 (.slice (some ⟨g, 0, none⟩) 0 (nn + 8)) (w1.alloc (.cells #[.int .u8 0, .int .u8 0, .int .u8 0, .int .u8 0, .int .u8 0, .int .u8 0, .int .u8 0, .int .u8 0] 26)) := ⟨(hO.alloc _).cast (by simp), by have := (hO.block_lt g rfl).2; show (some g : Option Nat) ≠ some _; intro e; injection e with e; omega, hb1.alloc hb1.size _, hb1.size, N8.zero, hA8, by intro x hx; simp [N8.zero, N8.l] at hx; omega, by omega⟩
  have HI := Lib.hid hI
  clear G1 GE hg hb1 hbw1 hO hA8 hI hb0
  go_loopw [7, 18] (fun v i wr => ∃ k : Nat, k ≤ nn ∧ i = .int .i64 k ∧ Hid (TuS w key n bs w1.heap.size k v wr)) (fun _ i _ => nn - (intOf i).toNat)
  case atStart => exact ⟨0, Nat.zero_le _, rfl, HI⟩
  case round =>
    obtain ⟨k, hk, rfl, hst⟩ := hrel
    obtain ⟨wo, rfl⟩ : ∃ wo : World, wo = wr := ⟨_, rfl⟩
    have hS := hst.out
    clear hst HI
    obtain ⟨q, hq⟩ : ∃ q, k / 8 = q := ⟨_, rfl⟩
    have hqI : (k : Int) / 8 = (q : Int) := by omega
    obtain ⟨j, hj⟩ : ∃ j, k % 8 = j := ⟨_, rfl⟩
    have hjI : (k : Int) % 8 = (j : Int) := by omega
    have hj8 : j < 8 := by omega
    by_cases hlt : k < nn
    · have hro := (HR.out.below hS.b).more hS.b.size
      obtain ⟨b, off, rfl, hbl, hcell⟩ := hro.2.2 (by omega)
      have c1 := hcell k hlt
      have hbb := hby.getD k
      obtain ⟨y, hy⟩ : ∃ y, bs.getD k 0 = y := ⟨_, rfl⟩
      rw [hy] at c1 hbb
      have hyy := Lib.hid hy
      have hjj := Lib.hid hj
      clear hcell hy hro
      by_cases hz : j = 0
      · subst hz
        have hB := blk_any key n q wo k0 k1 n0 n1 (by omega)
        have hbm := b8_byt (keyedS key (beS 8 n ++ beS 8 q))
        have hm : blkS key n q = blkS key n (k / 8) := by rw [hq]
        obtain ⟨m, hmm⟩ : ∃ m, blkS key n q = m := ⟨_, rfl⟩
        rw [show b8 (keyedS key (beS 8 n ++ beS 8 (q : Int))) = m from hmm] at hbm
        rw [hmm] at hB hm
        obtain ⟨z, hz⟩ : ∃ z, m.l.getD 0 0 = z := ⟨_, rfl⟩
        have hzz := Lib.hid hz
        have HM := Lib.hid hm
        clear hmm hq hj hm hz
        go_wp2_with fail
        refine hB.mono ?_
        rintro e w2 ⟨rfl, hb2⟩
        have hS2 := hS.below hb2
        obtain ⟨m0, hA2, _, _⟩ := hS2.blk
        have c2 := cell_later hb2 c1
        clear hS hb2 c1
        go_wp2_with (first | ((with_reducible refine at_st8 ?_); refine st_8 w1.heap.size 26 (m0.l.map (Value.int .u8)) m (by rfl) (by rfl) hA2 rfl ?_; intro w3 hA3 hk3; have hcz : w3.cell? ⟨w1.heap.size, 0, none⟩ = some (.int .u8 z) := (by rw [hA3.cell, ← hzz.out]; rfl); have hS3 := hS2.put (m := m0) hk3 hA3 hbm HM.out; clear hS2 hA2 hk3) | (at_builtin; refine wpList_append_at (by rfl) (.tmp 33) (.tmp 39) 28 rfl w.heap.size 5 i0 Try.underlying28 hi hz0 hz1 hz2 _ ((turnS key n bs).take k) rfl (hS3.own.alloc _) _ _ 1 1 [bits BinOp.xor IntKind.u8 y z] rfl (Rd.byte w3 5 _ rfl _ (u8_bits_bd _ _ _)) (by rw [List.length_take, turnS_len]; omega) (by have := hS3.b.size; simp; omega) ?_; intro v2 w4 ho2 hg2 hv2) | fail)
        have HN := Lib.hid (hS3.step ((Below.refl _ _).alloc (Nat.le_refl _) _) hA3 hbm HM.out (by omega) (by rw [hyy.out, hjj.out, hzz.out]; exact ho2) hg2 hv2)
        clear ho2 hg2 hv2 hS3 hA3 hcz
        go_roundw
        case rel => exact ⟨k + 1, by omega, by go_num, HN⟩
        case measure => simp [intOf]; omega
      · obtain ⟨m, hA3, hbm, hm0⟩ := hS.blk
        have HM := Lib.hid (hm0 (by omega))
        obtain ⟨z, hz⟩ : ∃ z, m.l.getD j 0 = z := ⟨_, rfl⟩
        have hzz := Lib.hid hz
        have hcz : wo.cell? ⟨w1.heap.size, j, none⟩ = some (.int .u8 z) := by
          rw [hA3.cell, List.getElem?_map, ← hz, List.getD_eq_getElem?_getD, List.getElem?_eq_getElem (show j < m.l.length from hj8)]; rfl
        obtain ⟨w3, hw3⟩ : ∃ x, wo = x := ⟨_, rfl⟩
        rw [hw3] at hA3 hcz c1 hS ⊢
        have hS3 := hS
        have hjp : (0 : Int) < (j : Int) := by omega
        clear hz hq hj hm0 hS hw3
        go_wp2_with (first | (at_builtin; refine wpList_append_at (by rfl) (.tmp 33) (.tmp 39) 28 rfl w.heap.size 5 i0 Try.underlying28 hi hz0 hz1 hz2 _ ((turnS key n bs).take k) rfl (hS3.own.alloc _) _ _ 1 1 [bits BinOp.xor IntKind.u8 y z] rfl (Rd.byte w3 5 _ rfl _ (u8_bits_bd _ _ _)) (by rw [List.length_take, turnS_len]; omega) (by have := hS3.b.size; simp; omega) ?_; intro v2 w4 ho2 hg2 hv2) | fail)
        have HN := Lib.hid (hS3.step ((Below.refl _ _).alloc (Nat.le_refl _) _) hA3 hbm HM.out (by omega) (by rw [hyy.out, hjj.out, hzz.out]; exact ho2) hg2 hv2)
        clear ho2 hg2 hv2 hS3 hA3 hcz
        go_roundw
        case rel => exact ⟨k + 1, by omega, by go_num, HN⟩
        case measure => simp [intOf]; omega
    · obtain rfl : k = nn := by omega
      have hO := hS.own.cast (List.take_of_length_le (by rw [turnS_len]; omega))
      have hB := hS.b
      clear hS
      go_wp2_with fail
      go_ret
      exact ⟨_, rfl, hO, hB⟩
end
section
set_option linter.unusedVariables false
set_option linter.unusedSimpArgs false
open Go.RowKit Go.ChangeShapes Go.WideShapes Go.Deep
theorem yl_ne8 {ops : Array Oper} {S : World → Prop} {o : Oper} {a : Act} (x y : Operand) (ty : TypeId) (ho : o.op = .binOp .neq 26 x y ty) (m m' : N8) (b : Bool) (hb : n8B m m' = b) (hx : a.eval x = m.v) (hy : a.eval y = m'.v)
    (hw : Region.wanted o (yielded ops a.tmps) = true) : YieldsIf Try.prog ops S o (.bool (!b)) a := by
  subst hb
  refine .inl ⟨hw, fun w _ => ?_⟩
  have h1 := run_eqGuard_agg (P := Try.prog) w .neq 26 x y (m.l.map (Value.int .u8)).toArray (m'.l.map (Value.int .u8)).toArray (by kernel_rfl)
  have h2 := run_neq_struct (P := Try.prog) w 26 (m.l.map (Value.int .u8)).toArray (m'.l.map (Value.int .u8)).toArray
  have h3 := run_a8 w m m'
  rw [N8.v_l, N8.v_l] at h3
  rw [h3] at h2
  rw [N8.v_l] at hx hy
  unfold execOp
  simp only [ho, hx, hy, Sem.run_bind, h1, h2, Result.andThen_ok]
  rfl
set_option maxRecDepth 100000 in
set_option maxHeartbeats 2000000 in
theorem seal_any (key n : Int) (Ah : Option Addr) (nh ch : Nat) (head : List Int) (Ab : Option Addr) (nb cb : Nat) (body : List Int) (w : World) (hrh : Rd w w.heap.size Ah nh head) (hrb : Rd w w.heap.size Ab nb body) (hh1 : nh ≤ ch) (hh2 : ch ≤ maxLen) (hb1' : nb ≤ cb) (hb2' : cb ≤ maxLen) (hln : nh + nb ≤ 140737488354000) (k0 : 0 ≤ key) (k1 : key < 18446744073709551616) (n0 : 0 ≤ n) (n1 : n < 18446744073709551616) :
    Calls Try.prog 35 #[.int .u64 key, .int .u64 n, .slice Ah nh ch, .slice Ab nb cb] w fun e w' => ∃ v, e = .returned v ∧ Own w' w.heap.size 5 v (sealS key n head body) ∧ Below w.heap.size w w' := by
  obtain ⟨i0, hi, hz0, hz1, hz2⟩ := info_parts u8_info
  have HT := turned_any key n Ab nb cb body w hrb hb1' hb2' (by omega) k0 k1 n0 n1
  have hsl : (turnS key n body).length = nb := by rw [turnS_len]; exact hrb.1
  have hby9 := tagS_byt key n head (turnS key n body)
  have hfin : sealS key n head body = turnS key n body ++ (tagS key n head (turnS key n body)).l := rfl
  obtain ⟨hd, hhd⟩ : ∃ x, turnS key n body = x := ⟨_, rfl⟩
  rw [hhd] at HT hsl hby9 hfin
  have HG := Lib.hid (fun W A c (h : Rd W W.heap.size Ah nh head) (h' : Rd W W.heap.size A nb hd) (hc : nb ≤ c) (hm : c ≤ maxLen) => tag_any key n Ah nh ch head A nb c hd W h h' hh1 hh2 hc hm (by omega) k0 k1 n0 n1)
  obtain ⟨m9, hm9⟩ : ∃ x, tagS key n head hd = x := ⟨_, rfl⟩
  rw [hm9] at HG hby9 hfin
  rw [hfin]
  have HSL := Lib.hid hsl
  clear hhd hm9 hfin hsl
  go_enter Try.func35, Try.ntmps35
  go_wp2_with fail
  refine HT.mono ?_
  rintro e w1 ⟨v1, rfl, ho1, hb1⟩
  obtain ⟨A1, c1, rfl, s1, s2, s3⟩ := ho1.open_n nb HSL.out
  have hrh1 := (hrh.below hb1).more hb1.size
  go_wp2_with fail
  refine (HG.out w1 A1 c1 hrh1 s3 s1 s2).mono ?_
  rintro e w2 ⟨rfl, hb2⟩
  have ho2 := ho1.below hb2 (Nat.le_refl _)
  have hs12 := hb2.size
  have hb2 := hb1.trans (hb2.mono hb1.size)
  have hle2 := hb2.size
  have hA2 : At (w2.alloc (.cells #[.int .u8 0, .int .u8 0, .int .u8 0, .int .u8 0, .int .u8 0, .int .u8 0, .int .u8 0, .int .u8 0] 26)) w2.heap.size 26 z8L := At.new w2 26 z8L
  have ho2 := ho2.alloc (.cells #[.int .u8 0, .int .u8 0, .int .u8 0, .int .u8 0, .int .u8 0, .int .u8 0, .int .u8 0, .int .u8 0] 26)
  have hlt2 := ho2.block_lt
  have hb2 := hb2.alloc hb2.size (.cells #[.int .u8 0, .int .u8 0, .int .u8 0, .int .u8 0, .int .u8 0, .int .u8 0, .int .u8 0, .int .u8 0] 26)
  have hne : ∀ j, (Value.slice A1 nb c1).ownBlock = some j → ¬ j = w2.heap.size := by
    intro j hj
    have h1 := (ho1.block_lt j hj).2
    omega
  clear hlt2 hrh1 s3
  go_wp2_with (first | ((with_reducible refine at_st8 ?_); refine st_8 w2.heap.size 26 z8L m9 (by rfl) (by rfl) hA2 rfl ?_; intro w3 hA3 hk3; have ho3 := ho2.kept hk3 hne; have hb3 := hk3.below hb2 hb2.size (by intro j hj; subst hj; exact hle2); have hrt := hA3.rd8 hby9; clear hA2 ho2 hb2 hk3) | (at_builtin; refine wpList_append_rd (by rfl) (.tmp 20) (.tmp 21) 28 rfl w.heap.size 5 i0 Try.underlying28 hi hz0 hz1 hz2 _ hd rfl ho3 _ _ 8 8 m9.l rfl hrt (by rw [HSL.out]; omega) w hb3 hb3.size ?_; intro v4 w4 ho4 hb4 hg4) | fail)
  go_ret
  exact ⟨_, rfl, ho4, hb4⟩
def OpPost (w : World) (key n : Int) (head sealed : List Int) (e : Ending) (w' : World) : Prop := ∃ v, e = .returned (.tuple #[v, .bool (openB key n head sealed)]) ∧ Own w' w.heap.size 5 v (openS key n head sealed) ∧ Below w.heap.size w w'
theorem openB_short (key n : Int) (head s : List Int) (h : s.length < 8) : openB key n head s = false ∧ openS key n head s = [] := by
  have h1 : openB key n head s = false := by unfold openB; rw [decide_eq_false (by omega)]; rfl
  refine ⟨h1, ?_⟩
  unfold openS; rw [h1]; rfl
set_option maxRecDepth 100000 in
set_option maxHeartbeats 4000000 in
theorem open_any (key n : Int) (Ah : Option Addr) (nh ch : Nat) (head : List Int) (Ab : Option Addr) (nb cb : Nat) (sealed : List Int) (w : World) (hrh : Rd w w.heap.size Ah nh head) (hrb : Rd w w.heap.size Ab nb sealed) (hh1 : nh ≤ ch) (hh2 : ch ≤ maxLen) (hb1' : nb ≤ cb) (hb2' : cb ≤ maxLen) (hln : nh + nb ≤ 140737488354000) (k0 : 0 ≤ key) (k1 : key < 18446744073709551616) (n0 : 0 ≤ n) (n1 : n < 18446744073709551616) :
    Calls Try.prog 40 #[.int .u64 key, .int .u64 n, .slice Ah nh ch, .slice Ab nb cb] w (OpPost w key n head sealed) := by
  unfold OpPost
  have hh3 := hh2
  have hb3' := hb2'
  unfold maxLen at hh3 hb3'
  rcases Nat.lt_or_ge nb 8 with h8 | h8
  · obtain ⟨e1, e2⟩ := openB_short key n head sealed (by rw [hrb.1]; exact h8)
    rw [e1, e2]
    go_enter Try.func40, Try.ntmps40
    go_wp2_with fail
    refine bodyPost_ret (results_tmp2 rfl _ _ _) rfl ?_
    exact ⟨_, rfl, Own.none_ _ _ _, Below.refl _ _⟩
  · obtain ⟨d, rfl⟩ : ∃ d, nb = d + 8 := ⟨nb - 8, by omega⟩
    have hsl := hrb.1
    have hrt := hrb.cutTo (m := d) (by omega)
    have hrf := hrb.cutFrom (c := cb) (k := d) (by omega) hb1'
    obtain ⟨b, off, rfl, hbl, _⟩ := hrb.2.2 (by omega)
    have ecut : cutA (some ⟨b, off, none⟩) cb d = some ⟨b, off + d, none⟩ := by unfold cutA; rw [if_neg (by omega), Option.map_some, addr_add]
    rw [ecut, show d + 8 - d = 8 by omega] at hrf
    have hby : Byt (sealed.drop d) := hrf.2.1
    have hl8 : (sealed.drop d).length = 8 := hrf.1
    have hOB : openB key n head sealed = n8B (N8.of (sealed.drop d)) (tagS key n head (sealed.take d)) := by
      unfold openB; rw [hsl, Nat.add_sub_cancel, decide_eq_true (by omega)]; rfl
    have hOS : openS key n head sealed = if openB key n head sealed then turnS key n (sealed.take d) else [] := by unfold openS; rw [hsl, Nat.add_sub_cancel]
    rw [hOS]
    have hmb : Byt (N8.of (sealed.drop d)).l := by rw [N8.l_of _ hl8]; exact hby
    have hml : (N8.of (sealed.drop d)).l = sealed.drop d := N8.l_of _ hl8
    obtain ⟨m, hm⟩ : ∃ x, N8.of (sealed.drop d) = x := ⟨_, rfl⟩
    rw [hm] at hOB hmb hml
    rw [← hml] at hrf
    obtain ⟨hid, hhid⟩ : ∃ x, sealed.take d = x := ⟨_, rfl⟩
    rw [hhid] at hrt hOB
    rw [hhid]
    have HT := Lib.hid (fun W (h : Rd W W.heap.size (some ⟨b, off, none⟩) d hid) => turned_any key n (some ⟨b, off, none⟩) d cb hid W h (by omega) hb2' (by omega) k0 k1 n0 n1)
    have HG := Lib.hid (fun W (h : Rd W W.heap.size Ah nh head) (h' : Rd W W.heap.size (some ⟨b, off, none⟩) d hid) => tag_any key n Ah nh ch head (some ⟨b, off, none⟩) d cb hid W h h' hh1 hh2 (by omega) hb2' (by omega) k0 k1 n0 n1)
    obtain ⟨m9, hm9⟩ : ∃ x, tagS key n head hid = x := ⟨_, rfl⟩
    rw [hm9] at HG hOB
    obtain ⟨B, hB⟩ : ∃ x, openB key n head sealed = x := ⟨_, rfl⟩
    rw [hB] at hOB ⊢
    have HOB := Lib.hid hOB.symm
    have HRH := Lib.hid hrh
    have HRT := Lib.hid hrt
    have HRF := Lib.hid hrf
    have HLT := Lib.hid (show At (w.alloc (.cells #[.int .u8 0, .int .u8 0, .int .u8 0, .int .u8 0, .int .u8 0, .int .u8 0, .int .u8 0, .int .u8 0] 26)) w.heap.size 26 z8L from At.new w 26 z8L)
    have HBL := Lib.hid (show Below w.heap.size w (w.alloc (.cells #[.int .u8 0, .int .u8 0, .int .u8 0, .int .u8 0, .int .u8 0, .int .u8 0, .int .u8 0, .int .u8 0] 26)) from (Below.refl _ _).alloc (Nat.le_refl _) _)
    clear hm hhid hm9 hB hOB hOS hrh hrt hrf hrb hsl hby hl8 hml ecut
    go_enter Try.func40, Try.ntmps40
    go_wp2_with fail
    have hA1 := HLT.out.drew
    have hb1 := belowN HBL.out 1
    obtain ⟨Y, hY⟩ : ∃ x, (w.alloc (.cells #[.int .u8 0, .int .u8 0, .int .u8 0, .int .u8 0, .int .u8 0, .int .u8 0, .int .u8 0, .int .u8 0] 26)).drew = x := ⟨_, rfl⟩
    have hb1 : Below w.heap.size w (w.alloc (.cells #[.int .u8 0, .int .u8 0, .int .u8 0, .int .u8 0, .int .u8 0, .int .u8 0, .int .u8 0, .int .u8 0] 26)).drew := hb1
    rw [hY] at hA1 hb1
    have hrf1 := (HRF.out.below hb1).more hb1.size
    have hdc : d ≤ cb := by omega
    have hdi : (d : Int) ≤ (d : Int) + 8 := by omega
    have hcd : ¬ cb = d := by omega
    refine wp_region_held_drew (S := (fun _ => True)) (by kernel_rfl) (trivial) (fun hHeld => ?_)
    rw [hY]
    clear hY
    refine tkq 0 (some 21) (v := ?_) rfl (Or.inl ⟨by rfl, ?_⟩) (by assumption) ?_
    rotate_left
    · intro w hSw; (try dsimp only at hSw); go_simp; first | done | (with_reducible rfl)
    simp only [Act.put, List.setIfInBounds_toArray, List.set_cons_zero, List.set_cons_succ]
    refine tkq 1 (some 22) (v := ?_) rfl (Or.inl ⟨by rfl, ?_⟩) (by assumption) ?_
    rotate_left
    · intro w hSw; (try dsimp only at hSw); go_simp; first | done | (with_reducible rfl)
    simp only [Act.put, List.setIfInBounds_toArray, List.set_cons_zero, List.set_cons_succ]
    refine tkq 2 (some 23) (v := ?_) rfl (Or.inl ⟨by rfl, ?_⟩) (by assumption) ?_
    rotate_left
    · intro w hSw; (try dsimp only at hSw); go_simp; first | done | (with_reducible rfl)
    simp only [Act.put, List.setIfInBounds_toArray, List.set_cons_zero, List.set_cons_succ]
    refine tkq 3 (some 24) (v := ?_) rfl (Or.inl ⟨by rfl, ?_⟩) (by assumption) ?_
    rotate_left
    · intro w hSw; (try dsimp only at hSw); go_simp; first | done | (with_reducible rfl)
    simp only [Act.put, List.setIfInBounds_toArray, List.set_cons_zero, List.set_cons_succ]
    refine wpAnyH_ready (rs := [4]) (by kernel_rfl) (by simp) ?_
    refine AllReadyH.cons rfl (fun K hK => ?_) AllReadyH.nil
    refine step_copy_splice rfl (.tmp 21) (.tmp 24) 28 28 rfl 5 Try.underlying28 (by kernel_rfl) _ _ 8 8 8 (cb - d) (by rfl) (by rfl) w.heap.size 0 z8L 26 hA1 (m.l.map (Value.int .u8)) (by rfl) (fun _ => ⟨rfl, hrf1.cells (by omega)⟩) (by simp [z8L, N8.l]) (oneCell_u8 _) w.heap.size w hb1 (Nat.le_refl _) ?_
    intro W2 hA2 hb2
    have hA2 : At W2 w.heap.size 26 (m.l.map (Value.int .u8)) := hA2.out
    refine hK.out _ _ (trivial) (fun hHeld => ?_)
    clear hK K
    refine wpAnyH_done (by kernel_rfl) ?_ _
    clear hA1 hb1 hrf1
    go_wp2_with fail
    obtain ⟨W3, hW3⟩ : ∃ x, W2.drew = x := ⟨_, rfl⟩
    have hA3 := hA2.drew
    have hb3 : Below w.heap.size w W2.drew := belowN hb2 1
    rw [hW3] at hA3 hb3
    clear hA2 hb2
    refine wp_region_held_drew (S := (fun W => W.rangeAt w.heap.size 0 (m.l.map (Value.int .u8)))) (by kernel_rfl) (by rw [hW3]; exact hA3.rangeAt) (fun hHeld => ?_)
    rw [hW3] at hHeld ⊢
    clear hW3
    refine tkq 0 (some 26) (v := ?_) rfl ?_ (by assumption) ?_
    rotate_left
    · refine yl_any 26 (.tmp 12) ?_ w.heap.size 0 ?_ (m.l.map (Value.int .u8)) _ ?_ Try.underlying26 rfl ?_ ?_
      · rfl
      · rfl
      · intro w hSw; exact hSw
      · exact a8_info
      · rfl
    simp only [Act.put, List.setIfInBounds_toArray, List.set_cons_zero, List.set_cons_succ]
    refine tkq 1 (some 27) (v := ?_) rfl (Or.inl ⟨by rfl, ?_⟩) (by assumption) ?_
    rotate_left
    · intro w hSw; (try dsimp only at hSw); go_simp; first | done | (with_reducible rfl)
    simp only [Act.put, List.setIfInBounds_toArray, List.set_cons_zero, List.set_cons_succ]
    refine tkq 2 (some 28) (v := ?_) rfl (Or.inl ⟨by rfl, ?_⟩) (by assumption) ?_
    rotate_left
    · intro w hSw; (try dsimp only at hSw); go_simp; first | done | (with_reducible rfl)
    simp only [Act.put, List.setIfInBounds_toArray, List.set_cons_zero, List.set_cons_succ]
    refine tkq 3 (some 29) (v := ?_) rfl (Or.inl ⟨by rfl, ?_⟩) (by assumption) ?_
    rotate_left
    · intro w hSw; (try dsimp only at hSw); go_simp; first | done | (with_reducible rfl)
    simp only [Act.put, List.setIfInBounds_toArray, List.set_cons_zero, List.set_cons_succ]
    refine tkq 4 (some 30) (v := ?_) rfl (Or.inl ⟨by rfl, ?_⟩) (by assumption) ?_
    rotate_left
    · intro w hSw; (try dsimp only at hSw); go_simp; first | done | (with_reducible rfl)
    simp only [Act.put, List.setIfInBounds_toArray, List.set_cons_zero, List.set_cons_succ]
    refine wpAnyH_ready (rs := [5]) (by kernel_rfl) (by simp) ?_
    refine AllReadyH.cons rfl (fun K hK => ?_) AllReadyH.nil
    go_simp
    go_wp2_with (go_at_call 64; refine (HG.out _ ((HRH.out.below hb3).more hb3.size) ((HRT.out.below hb3).more hb3.size)).mono ?_; rintro e W4 ⟨rfl, hb4⟩)
    have hA4 := hA3.below hb4 hA3.lt
    have hb4 := hb3.trans (hb4.mono hb3.size)
    refine hK.out _ _ (hA4.rangeAt) (fun hHeld => ?_)
    clear hK K
    refine tkq 6 (some 32) (v := .bool (!B)) rfl ?_ (by assumption) ?_
    · exact yl_ne8 _ _ _ rfl m m9 B HOB.out (by rfl) (by rfl) (by rfl)
    simp only [Act.put, List.setIfInBounds_toArray, List.set_cons_zero, List.set_cons_succ]
    refine wpAnyH_done (by kernel_rfl) ?_ _
    cases B
    · go_wp2_with fail
      refine bodyPost_ret (results_tmp2 rfl _ _ _) rfl ?_
      exact ⟨_, rfl, Own.none_ _ _ _, hb4⟩
    · go_wp2_with fail
      refine (HT.out W4 ((HRT.out.below hb4).more hb4.size)).mono ?_
      rintro e W5 ⟨v5, rfl, ho5, hb5⟩
      have ho5 := ho5.base_ hb4.size
      have hb5 := hb4.trans (hb5.mono hb4.size)
      go_wp2_with fail
      refine bodyPost_ret (results_tmp2 rfl _ _ _) rfl ?_
      exact ⟨_, rfl, ho5, hb5⟩
end
section
set_option linter.unusedVariables false
set_option linter.unusedSimpArgs false
open Go.RowKit Go.ChangeShapes Go.WideShapes Go.Deep
def maskS (key : Int) (bs : List Int) : List Int := (b8 (keyedS key bs)).l.take 5
theorem a5_info : (Try.prog.info? 77).map (·.size) = some 5 := by kernel_rfl
def z5L : List Value := [.int .u8 0, .int .u8 0, .int .u8 0, .int .u8 0, .int .u8 0]
section
variable {ops : Array Oper} {rest : List Oper} {a : Act} {w : World} {Q : Exit → Act → World → Prop} {dst : Option Tmp} {x y : Operand} {t : TypeId} {pos : String} {after : Array Edge} {g : Option (Nat × Bool)}
theorem at_ld5 (h : wpList Try.prog ops Q (⟨dst, .load 77 x, t, pos, after, g⟩ :: rest) a w) : wpList Try.prog ops Q (⟨dst, .load 77 x, t, pos, after, g⟩ :: rest) a w := h
theorem at_st5 (h : wpList Try.prog ops Q (⟨dst, .store 77 x y, t, pos, after, g⟩ :: rest) a w) : wpList Try.prog ops Q (⟨dst, .store 77 x y, t, pos, after, g⟩ :: rest) a w := h
end
set_option maxRecDepth 100000 in
set_option maxHeartbeats 2000000 in
theorem mask_any (key : Int) (m : N8) (w : World) (hmb : Byt m.l) (k0 : 0 ≤ key) (k1 : key < 18446744073709551616) :
    Calls Try.prog 66 #[.int .u64 key, m.v] w fun e w' => e = .returned (.agg ((maskS key m.l).map (Value.int .u8)).toArray) ∧ Below w.heap.size w w' := by
  have hkb := keyedS_bd key m.l
  have HF := Lib.hid (fun W => mbytes_any (keyedS key m.l) W hkb.1 hkb.2)
  have HK := Lib.hid (fun W B (h : Rd W B (some ⟨w.heap.size, 0, none⟩) 8 m.l) => keyed_any key (some ⟨w.heap.size, 0, none⟩) 8 8 m.l W B h (Nat.le_refl _) (by unfold maxLen; omega) k0 k1)
  have hb9 := b8_byt (keyedS key m.l)
  unfold maskS
  obtain ⟨m9, hm9⟩ : ∃ x, b8 (keyedS key m.l) = x := ⟨_, rfl⟩
  rw [hm9] at HF hb9 ⊢
  obtain ⟨K9, hK9⟩ : ∃ x, keyedS key m.l = x := ⟨_, rfl⟩
  rw [hK9] at HF HK
  clear hm9 hkb hK9
  have hA0 : At (w.alloc (.cells #[.int .u8 m.a0, .int .u8 m.a1, .int .u8 m.a2, .int .u8 m.a3, .int .u8 m.a4, .int .u8 m.a5, .int .u8 m.a6, .int .u8 m.a7] 26)) w.heap.size 26 (m.l.map (Value.int .u8)) := At.new w 26 _
  have hb0 : Below w.heap.size w (w.alloc (.cells #[.int .u8 m.a0, .int .u8 m.a1, .int .u8 m.a2, .int .u8 m.a3, .int .u8 m.a4, .int .u8 m.a5, .int .u8 m.a6, .int .u8 m.a7] 26)) := (Below.refl _ _).alloc (Nat.le_refl _) _
  obtain ⟨w0, hw0⟩ : ∃ x, w.alloc (.cells #[.int .u8 m.a0, .int .u8 m.a1, .int .u8 m.a2, .int .u8 m.a3, .int .u8 m.a4, .int .u8 m.a5, .int .u8 m.a6, .int .u8 m.a7] 26) = x := ⟨_, rfl⟩
  rw [hw0] at hA0 hb0
  have hA1 : At (w0.alloc (.cells #[.int .u8 0, .int .u8 0, .int .u8 0, .int .u8 0, .int .u8 0] 77)) w0.heap.size 77 z5L := At.new w0 77 _
  have hAm := hA0.alloc (.cells #[.int .u8 0, .int .u8 0, .int .u8 0, .int .u8 0, .int .u8 0] 77)
  have hb1 := hb0.alloc hb0.size (.cells #[.int .u8 0, .int .u8 0, .int .u8 0, .int .u8 0, .int .u8 0] 77)
  have hlt0 := hA0.lt
  obtain ⟨w1, hw1⟩ : ∃ x, w0.alloc (.cells #[.int .u8 0, .int .u8 0, .int .u8 0, .int .u8 0, .int .u8 0] 77) = x := ⟨_, rfl⟩
  rw [hw1] at hA1 hAm hb1
  have hvv : m.v = .agg #[.int .u8 m.a0, .int .u8 m.a1, .int .u8 m.a2, .int .u8 m.a3, .int .u8 m.a4, .int .u8 m.a5, .int .u8 m.a6, .int .u8 m.a7] := rfl
  rw [hvv]
  clear hvv
  go_enter Try.func66, Try.ntmps66
  go_wp2_with fail
  refine (HK.out w1 _ (hAm.rd8 hmb)).mono ?_
  rintro e w' ⟨rfl, rfl⟩
  clear hw0 hw1
  go_wp2_with fail
  refine (HF.out w1).mono ?_
  rintro e w2 ⟨rfl, hb2⟩
  have hA1 := hA1.below hb2 hA1.lt
  have hs2 := hA1.lt
  have hb2 := hb1.trans (hb2.mono hb1.size)
  have hA2 : At (w2.alloc (.cells #[.int .u8 0, .int .u8 0, .int .u8 0, .int .u8 0, .int .u8 0, .int .u8 0, .int .u8 0, .int .u8 0] 26)) w2.heap.size 26 z8L := At.new w2 26 z8L
  have hA1 := hA1.alloc (.cells #[.int .u8 0, .int .u8 0, .int .u8 0, .int .u8 0, .int .u8 0, .int .u8 0, .int .u8 0, .int .u8 0] 26)
  have hle2 := hb2.size
  have hb2 := hb2.alloc hb2.size (.cells #[.int .u8 0, .int .u8 0, .int .u8 0, .int .u8 0, .int .u8 0, .int .u8 0, .int .u8 0, .int .u8 0] 26)
  have hle0 := hb0.size
  go_wp2_with (first | ((with_reducible refine at_st8 ?_); refine st_8 w2.heap.size 26 z8L m9 (by rfl) (by rfl) hA2 rfl ?_; intro w3 hA3 hk3; have hB1 := hA1.kept hk3 (by omega); have hb3 := hk3.below hb2 hb2.size (by intro j hj; subst hj; exact hle2); clear hA1 hA2 hb2 hk3) | fail)
  have hA5 : At (w3.alloc (.cells #[.int .u8 0, .int .u8 0, .int .u8 0, .int .u8 0, .int .u8 0] 77)) w3.heap.size 77 z5L := At.new w3 77 _
  have hlt3 := hB1.lt
  have hB1 := hB1.alloc (.cells #[.int .u8 0, .int .u8 0, .int .u8 0, .int .u8 0, .int .u8 0] 77)
  have hr3 := (hA3.alloc (.cells #[.int .u8 0, .int .u8 0, .int .u8 0, .int .u8 0, .int .u8 0] 77)).rd8 hb9
  have hle3 := hb3.size
  have hb3 := hb3.alloc hb3.size (.cells #[.int .u8 0, .int .u8 0, .int .u8 0, .int .u8 0, .int .u8 0] 77)
  clear hA3
  have hA5 := hA5.drew
  have hB1 := hB1.drew
  have hr3 := hr3.drew
  have hb3 : Below w.heap.size w (w3.alloc (.cells #[.int .u8 0, .int .u8 0, .int .u8 0, .int .u8 0, .int .u8 0] 77)).drew := belowN hb3 1
  obtain ⟨Y, hY⟩ : ∃ x, (w3.alloc (.cells #[.int .u8 0, .int .u8 0, .int .u8 0, .int .u8 0, .int .u8 0] 77)).drew = x := ⟨_, rfl⟩
  rw [hY] at hA5 hB1 hr3 hb3
  refine wp_region_held_drew (S := (fun _ => True)) (by kernel_rfl) (trivial) (fun hHeld => ?_)
  rw [hY]
  clear hY
  refine tkq 0 (some 11) (v := ?_) rfl (Or.inl ⟨by rfl, ?_⟩) (by assumption) ?_
  rotate_left
  · intro w hSw; (try dsimp only at hSw); go_simp; first | done | (with_reducible rfl)
  simp only [Act.put, List.setIfInBounds_toArray, List.set_cons_zero, List.set_cons_succ]
  refine tkq 1 (some 12) (v := ?_) rfl (Or.inl ⟨by rfl, ?_⟩) (by assumption) ?_
  rotate_left
  · intro w hSw; (try dsimp only at hSw); go_simp; first | done | (with_reducible rfl)
  simp only [Act.put, List.setIfInBounds_toArray, List.set_cons_zero, List.set_cons_succ]
  refine wpAnyH_ready (rs := [2]) (by kernel_rfl) (by simp) ?_
  refine AllReadyH.cons rfl (fun K hK => ?_) AllReadyH.nil
  refine step_copy_splice rfl (.tmp 11) (.tmp 12) 28 28 rfl 5 Try.underlying28 (by kernel_rfl) _ _ 5 5 8 8 (by rfl) (by rfl) w3.heap.size 0 z5L 77 hA5 ((m9.l.take 5).map (Value.int .u8)) (by rfl) (fun _ => ⟨rfl, _, rfl, ?_⟩) (by simp [z5L, N8.l]) (oneCell_u8 _) w3.heap.size Y (Below.refl _ _) (Nat.le_refl _) ?_
  · intro j v hj
    obtain ⟨ad, e1, hc⟩ := hr3.cells (by omega)
    obtain rfl : ad = ⟨w2.heap.size, 0, none⟩ := by injection e1 with e1; exact e1.symm
    refine hc j v ?_
    rw [List.map_take] at hj
    rw [List.getElem?_take] at hj
    split at hj
    · exact hj
    · cases hj
  intro W4 hA6 hb6
  have hA6 : At W4 w3.heap.size 77 ((m9.l.take 5).map (Value.int .u8)) := hA6.out
  have hB1 := hB1.below hb6 hlt3
  have hb6 := hb3.trans (hb6.mono hle3)
  refine hK.out _ _ (trivial) (fun hHeld => ?_)
  clear hK K
  refine wpAnyH_done (by kernel_rfl) ?_ _
  go_wp2_with (first | ((with_reducible refine at_ld5 ?_); refine wpList_load_mid rfl 77 (.tmp 6) rfl w3.heap.size 0 (by rfl) ((m9.l.take 5).map (Value.int .u8)) _ hA6.rangeAt Try.underlying77 rfl a5_info ?_) | ((with_reducible refine at_st5 ?_); refine wpList_store_at w0.heap.size 77 z5L ((m9.l.take 5).map (Value.int .u8)) (by rfl) (by rfl) hB1 (by rfl) a5_info (by rfl) ?_; intro w9 hA9 hk9) | fail)
  refine bodyPost_ret (results_cell 4 77 (by rfl) _ 77 _ _ (by rfl) hA9 Try.underlying77 rfl a5_info) rfl ?_
  exact ⟨rfl, hk9.below hb6 hb6.size (by intro j hj; subst hj; exact hle0)⟩
end
end Go.Proofs.Ytehdilgnlhhjdaa
