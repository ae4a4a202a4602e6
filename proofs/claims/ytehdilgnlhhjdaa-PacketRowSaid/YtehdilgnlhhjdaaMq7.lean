/-
  slices.Grow of no slice and slices.Concat, of rows of bytes: a new row, the rows one behind the other.
-/
import Derived.Test.YtehdilgnlhhjdaaMq6
import Derived.Lib.AppendZerosOnto
import Derived.Lib.Walk
import Derived.Lib.SliceRun
import Derived.WalkLawsBesides
import Derived.Test.YtehdilgnlhhjdaaMq4
namespace Go.Proofs.Ytehdilgnlhhjdaa
section
set_option linter.unusedVariables false
set_option linter.unusedSimpArgs false
open Go.RowKit
set_option maxRecDepth 100000 in
theorem grow_any (k : Nat) (w : World) (hk : k ≤ 140737488355328) :
    Calls Try.prog 95 #[.slice none 0 0, .int .i64 k] w fun e w' => ∃ v, e = .returned v ∧ Own w' w.heap.size 5 v [] ∧ Below w.heap.size w w' := by
  obtain ⟨i0, hi, hz0, hz1, hz2⟩ := info_parts u8_info
  have h1 : ¬ ((k : Int) < 0) := by omega
  have h2 : wrap64 ((0 : Int) - 0) = 0 := by unfold wrap64; omega
  have h3 : wrap64 ((k : Int) - 0) = (k : Int) := by unfold wrap64; omega
  rcases Nat.eq_zero_or_pos k with h0 | h0
  · subst h0
    go_enter Try.func95, Try.ntmps95
    go_wp2
    go_ret
    exact ⟨_, rfl, Own.none_ _ _ _, Below.refl _ _⟩
  · have hrz := Lib.run_append_grow_zeros w 28 3 28 5 i0 (.int .u8 0) .i64 .i64 Try.underlying28 Try.underlying3 hi hz0 none 0 0 [] (run_firstCells_none w.drew i0.size 0 0 0) k h0 (by omega) (by omega) (by omega) (by rw [hz2]; omega) (growslice_fits (by omega) (by rw [hz2]; omega))
    have hGn : 0 + k ≤ grownCap w (0 + k) 0 5 := grownCap_ge w _ _ _
    have hGm := grownCap_le_maxLen w (0 + k) 0 5 (by unfold maxLen; omega)
    obtain ⟨G, hG⟩ : ∃ G, G = grownCap w (0 + k) 0 5 := ⟨_, rfl⟩
    rw [← hG] at hrz hGn hGm
    obtain ⟨C, hC⟩ : ∃ C, ([] : List Value).toArray ++ Builtin.zeroCells (Value.int .u8 0).cells k ++ Builtin.zeroCells (Value.int .u8 0).cells (G - (0 + k)) = C := ⟨_, rfl⟩
    rw [hC] at hrz
    have hCs : C.size = G := by
      rw [← hC]
      have hc1 : (Value.int .u8 0).cells.size = 1 := rfl
      simp [size_zeroCells, hc1]; omega
    have hGm2 := hGm
    unfold maxLen at hGm2
    clear hC hG
    go_enter Try.func95, Try.ntmps95
    go_wp2_with (first | (refine Lib.wpList_append_run w (by rfl) (.tmp 20) (.tmp 21) 28 3 rfl _ _ rfl rfl _ _ hrz ?_) | fail)
    go_ret
    exact ⟨_, rfl, Own.of_block (w := w.drew.alloc (.cells C 5)) Byt.nil rfl (heap_alloc_new w.drew _) (Nat.le_refl _) (Nat.zero_le _) hGm hCs rfl, (Below.refl _ _).drew.alloc (Nat.le_refl _) _⟩
/-- A block of slices that read as rows of bytes. -/
structure RowsIn (W : World) (g : Nat) (T : TypeId) (M : List (Sl × List Int)) : Prop where
  at_ : At W g T (M.map fun r => slV r.1)
  rows : ∀ r ∈ M, Rd W W.heap.size r.1.A r.1.n r.2 ∧ r.1.n ≤ r.1.c ∧ r.1.c ≤ maxLen
theorem RowsIn.below {W W' : World} {g : Nat} {T : TypeId} {M : List (Sl × List Int)} (h : RowsIn W g T M) (hb : Below W.heap.size W W') : RowsIn W' g T M :=
  ⟨h.at_.below hb h.at_.lt, fun r hr => ⟨((h.rows r hr).1.below hb).more hb.size, (h.rows r hr).2⟩⟩
def catS (M : List (Sl × List Int)) : List Int := (M.map fun r => r.2).flatten
theorem catS_step (M : List (Sl × List Int)) (k : Nat) (r : Sl × List Int) (h : M[k]? = some r) : catS (M.take (k + 1)) = catS (M.take k) ++ r.2 := by
  unfold catS
  rw [List.take_add_one, h]
  simp
theorem catS_full (M : List (Sl × List Int)) (k : Nat) (h : M.length ≤ k) : catS (M.take k) = catS M := by rw [List.take_of_length_le h]
theorem catS_le (M : List (Sl × List Int)) (k : Nat) : (catS (M.take k)).length ≤ (catS M).length := by
  have h : catS M = catS (M.take k) ++ catS (M.drop k) := by
    unfold catS
    rw [← List.flatten_append, ← List.map_append, List.take_append_drop]
  rw [h, List.length_append]
  omega
set_option maxRecDepth 100000 in
set_option maxHeartbeats 1000000 in
theorem concat_any (g m : Nat) (T : TypeId) (M : List (Sl × List Int)) (w : World) (hm : m = M.length) (hR : RowsIn w g T M) (hl : (catS M).length ≤ 140737488355328) (hM : m ≤ 1000) :
    Calls Try.prog 89 #[.slice (some ⟨g, 0, none⟩) m m] w fun e w' => ∃ v, e = .returned v ∧ Own w' w.heap.size 5 v (catS M) ∧ Below w.heap.size w w' := by
  obtain ⟨i0, hi, hz0, hz1, hz2⟩ := info_parts u8_info
  have hget : ∀ k, k < m → ∃ A n c bs, M[k]? = some (⟨A, n, c⟩, bs) ∧ n ≤ c ∧ c ≤ 9223372036854775807 ∧ catS (M.take (k + 1)) = catS (M.take k) ++ bs ∧ (catS (M.take k)).length + n ≤ 140737488355328 ∧ bs.length = n := by
    intro k hk
    have hk' : k < M.length := by omega
    obtain ⟨⟨⟨A, n, c⟩, bs⟩, hr⟩ : ∃ r, M[k]? = some r := ⟨_, List.getElem?_eq_getElem hk'⟩
    have h1 := hR.rows _ (List.mem_of_getElem? hr)
    have h2 := catS_step M k _ hr
    have h3 := catS_le M (k + 1)
    have h4 : bs.length = n := h1.1.1
    rw [h2, List.length_append] at h3
    simp only at h1 h2 h3
    have h5 := h1.2.2
    unfold maxLen at h5
    exact ⟨A, n, c, bs, hr, h1.2.1, by omega, h2, by omega, h4⟩
  have hcell : ∀ (k : Nat) (A : Option Addr) (n c : Nat) (bs : List Int), M[k]? = some (⟨A, n, c⟩, bs) → ∀ W, RowsIn W g T M → W.cell? ⟨g, k, none⟩ = some (.slice A n c) := by
    intro k A n c bs hr W hW
    rw [hW.at_.cell, List.getElem?_map, hr]
    rfl
  have hrd : ∀ (k : Nat) (A : Option Addr) (n c : Nat) (bs : List Int), M[k]? = some (⟨A, n, c⟩, bs) → ∀ W, RowsIn W g T M → Rd W W.heap.size A n bs := by
    intro k A n c bs hr W hW
    have h := hW.rows _ (List.mem_of_getElem? hr)
    exact h.1
  have hfull := catS_full M m (by omega)
  have GET := Lib.hid hget
  have CELL := Lib.hid hcell
  have RD := Lib.hid hrd
  have FULL := Lib.hid hfull
  have HR := Lib.hid hR
  clear hget hcell hrd hfull hR hm
  go_enter Try.func89, Try.ntmps89
  go_wp2_with fail
  go_loop [3, 11] (fun h i => ∃ k q : Nat, k ≤ m ∧ i = .int .i64 k ∧ h = .int .i64 q ∧ Hid (q = (catS (M.take k)).length) ∧ q ≤ 140737488355328) (fun _ i => m - (intOf i).toNat)
  case atStart => exact ⟨0, 0, Nat.zero_le _, rfl, rfl, Lib.hid rfl, by omega⟩
  case round =>
    obtain ⟨k, q, hk, rfl, rfl, hq, hq2⟩ := hrel
    by_cases hlt : k < m
    · obtain ⟨A, n, c, bs, hr, hn1, hn2, hst, hsum, hbl⟩ := GET.out k hlt
      have hc := CELL.out k A n c bs hr w HR.out
      have hqn : q + n ≤ 140737488355328 := by rw [hq.out]; exact hsum
      have hsl : (catS (M.take (k + 1))).length = (catS (M.take k)).length + n := by rw [hst, List.length_append, hbl]
      have S := Lib.hid hsl
      clear hsl hst hsum hbl hr
      go_wp2_with fail
      go_round
      case rel => exact ⟨k + 1, q + n, by omega, by go_num, by go_num, Lib.hid (by rw [S.out, hq.out]), hqn⟩
      case measure => simp [intOf]; omega
    · obtain rfl : k = m := by omega
      go_wp2_with fail
      refine (grow_any q w hq2).mono ?_
      rintro e w1 ⟨v1, rfl, ho1, hb1⟩
      have hR1 := HR.out.below hb1
      have HI := Lib.hid (And.intro ho1 (And.intro hb1 hR1))
      clear ho1 hb1 hR1
      go_wp2_with fail
      go_loopw [6, 27] (fun v i wr => ∃ j : Nat, j ≤ k ∧ i = .int .i64 j ∧ Hid (Own wr w.heap.size 5 v (catS (M.take j)) ∧ Below w.heap.size w wr)) (fun _ i _ => k - (intOf i).toNat)
      case atStart => exact ⟨0, by omega, rfl, Lib.hid ⟨HI.out.1, HI.out.2.1⟩⟩
      case round =>
        obtain ⟨j, hj, rfl, hst⟩ := hrel
        obtain ⟨wo, rfl⟩ : ∃ wo : World, wo = wr := ⟨_, rfl⟩
        have hO := hst.out.1
        have hB := hst.out.2
        clear hst HI
        by_cases hlt2 : j < k
        · obtain ⟨A, n, c, bs, hr, hn1, hn2, hst, hsum, hbl⟩ := GET.out j hlt2
          have hRo := HR.out.below hB
          have hc := CELL.out j A n c bs hr wo hRo
          have hrd := RD.out j A n c bs hr wo hRo
          clear hRo hr
          have ST := Lib.hid hst
          clear hst
          go_wp2_with (first | (refine wpList_append_rd (by rfl) (.tmp 31) (.tmp 32) 28 rfl w.heap.size 5 i0 Try.underlying28 hi hz0 hz1 hz2 _ (catS (M.take j)) rfl hO _ A n c bs rfl hrd (by omega) w hB hB.size ?_; intro v2 w2 ho2 hb2 hg2) | fail)
          have HN := Lib.hid (And.intro (ho2.cast ST.out.symm) hb2)
          clear ho2 hb2 hO hB
          go_roundw
          case rel => exact ⟨j + 1, by omega, by go_num, HN⟩
          case measure => simp [intOf]; omega
        · obtain rfl : j = k := by omega
          have hO := hO.cast FULL.out
          go_wp2_with fail
          go_ret
          exact ⟨_, rfl, hO, hB⟩
end
section
set_option linter.unusedVariables false
open Go.RowKit
theorem tkq {P : Program} {md : Region.Mode} {ops : Array Oper} {Q : Exit → Act → World → Prop} {S : World → Prop} (i : Nat) (dst : Option Tmp) {oi : Oper} {v : Value} {fuel : Nat} {listed : Array Bool} {a : Act} {w : World} (hi : ops[i]? = some oi)
    (hy : YieldsIf P ops S oi v a) (hS : S w) (h : wpAnyH P md ops Q S fuel (listed.setIfInBounds i true) (a.put dst v) w)
    (hd : oi.dst = dst := by rfl) (hs : Region.noSelect ops = true := by kernel_rfl) (hf : Region.free md ops listed i = true := by kernel_rfl) (hr : (Region.ready md ops listed).contains i = true := by kernel_rfl)
    (hQ : ∀ c a w, Q (.panic c) (a.put dst v) w → Q (.panic c) a w := by exact fun _ _ _ h => h) : wpAnyH P md ops Q S (fuel + 1) listed a w :=
  tk_dst hi hd hs hf hr hQ hy hS h
end
section
set_option linter.unusedVariables false
set_option linter.unusedSimpArgs false
open Go.RowKit Go.ChangeShapes Go.WideShapes Go.Deep
theorem At.rd8 {w : World} {g : Nat} {T : TypeId} {m : N8} (h : At w g T (m.l.map (Value.int .u8))) (hb : Byt m.l) : Rd w w.heap.size (some ⟨g, 0, none⟩) 8 m.l := by
  refine ⟨rfl, hb, fun _ => ⟨g, 0, rfl, h.lt, fun i hi => ?_⟩⟩
  rw [h.cell]
  have : i = 0 ∨ i = 1 ∨ i = 2 ∨ i = 3 ∨ i = 4 ∨ i = 5 ∨ i = 6 ∨ i = 7 := by omega
  rcases this with rfl | rfl | rfl | rfl | rfl | rfl | rfl | rfl <;> rfl
def z8L : List Value := N8.zero.l.map (Value.int .u8)
set_option maxRecDepth 100000 in
set_option maxHeartbeats 2000000 in
theorem blk_any (key n : Int) (i : Nat) (w : World) (k0 : 0 ≤ key) (k1 : key < 18446744073709551616) (n0 : 0 ≤ n) (n1 : n < 18446744073709551616) (hi : (i : Int) < 18446744073709551616) :
    Calls Try.prog 87 #[.int .u64 key, .int .u64 n, .int .u64 i] w fun e w' => e = .returned (blkS key n i).v ∧ Below w.heap.size w w' := by
  have HP := Lib.hid (fun W => mbytes_any n W n0 n1)
  have HQ := Lib.hid (fun W => mbytes_any (i : Int) W (by omega) hi)
  have hby1 := b8_byt n
  have hby2 := b8_byt (i : Int)
  have hfin : blkS key n i = b8 (keyedS key ((b8 n).l ++ (b8 (i : Int)).l)) := by rw [b8_l, b8_l]; rfl
  obtain ⟨m1, hm1⟩ : ∃ x, b8 n = x := ⟨_, rfl⟩
  obtain ⟨m2, hm2⟩ : ∃ x, b8 (i : Int) = x := ⟨_, rfl⟩
  rw [hm1] at HP hby1 hfin
  rw [hm2] at HQ hby2 hfin
  have hkb := keyedS_bd key (m1.l ++ m2.l)
  have HK := Lib.hid (fun W A c (h : Rd W W.heap.size A 16 (m1.l ++ m2.l)) (h1 : 16 ≤ c) (h2 : c ≤ maxLen) => keyed_any key A 16 c (m1.l ++ m2.l) W W.heap.size h h1 h2 k0 k1)
  have HF := Lib.hid (fun W => mbytes_any (keyedS key (m1.l ++ m2.l)) W hkb.1 hkb.2)
  rw [← hfin] at HF
  obtain ⟨m9, hm9⟩ : ∃ x, blkS key n i = x := ⟨_, rfl⟩
  rw [hm9] at HF ⊢
  obtain ⟨K9, hK9⟩ : ∃ x, keyedS key (m1.l ++ m2.l) = x := ⟨_, rfl⟩
  rw [hK9] at HF HK
  clear hm1 hm2 hfin hm9 hkb hK9
  have hA0 : At (w.alloc (.cells #[.int .u8 0, .int .u8 0, .int .u8 0, .int .u8 0, .int .u8 0, .int .u8 0, .int .u8 0, .int .u8 0] 26)) w.heap.size 26 z8L := At.new w 26 z8L
  have hb0 : Below w.heap.size w (w.alloc (.cells #[.int .u8 0, .int .u8 0, .int .u8 0, .int .u8 0, .int .u8 0, .int .u8 0, .int .u8 0, .int .u8 0] 26)) := (Below.refl _ _).alloc (Nat.le_refl _) _
  obtain ⟨w0, hw0⟩ : ∃ x, w.alloc (.cells #[.int .u8 0, .int .u8 0, .int .u8 0, .int .u8 0, .int .u8 0, .int .u8 0, .int .u8 0, .int .u8 0] 26) = x := ⟨_, rfl⟩
  rw [hw0] at hA0 hb0
  go_enter Try.func87, Try.ntmps87
  go_wp2_with fail
  refine (HP.out w0).mono ?_
  rintro e w1 ⟨rfl, hb1⟩
  have hA1 := hA0.below hb1 hA0.lt
  have hb1 := hb0.trans (hb1.mono hb0.size)
  go_wp2_with fail
  refine (HQ.out w1).mono ?_
  rintro e w2 ⟨rfl, hb2⟩
  have hA6 := hA1.below hb2 hA1.lt
  have hb2 := hb1.trans (hb2.mono hb1.size)
  have hA6lt := hA6.lt
  clear hA0 hb0 hA1 hb1 hw0
  have hA7 : At ((w2.alloc (.cells #[.int .u8 0, .int .u8 0, .int .u8 0, .int .u8 0, .int .u8 0, .int .u8 0, .int .u8 0, .int .u8 0] 26)).alloc (.cells #[.int .u8 0, .int .u8 0, .int .u8 0, .int .u8 0, .int .u8 0, .int .u8 0, .int .u8 0, .int .u8 0] 26)) w2.heap.size 26 z8L := (At.new w2 26 z8L).alloc _
  have hA8 : At ((w2.alloc (.cells #[.int .u8 0, .int .u8 0, .int .u8 0, .int .u8 0, .int .u8 0, .int .u8 0, .int .u8 0, .int .u8 0] 26)).alloc (.cells #[.int .u8 0, .int .u8 0, .int .u8 0, .int .u8 0, .int .u8 0, .int .u8 0, .int .u8 0, .int .u8 0] 26)) (w2.heap.size + 1) 26 z8L := At.new_ 26 z8L _ (by simp)
  have hA6 := (hA6.alloc (.cells #[.int .u8 0, .int .u8 0, .int .u8 0, .int .u8 0, .int .u8 0, .int .u8 0, .int .u8 0, .int .u8 0] 26)).alloc (.cells #[.int .u8 0, .int .u8 0, .int .u8 0, .int .u8 0, .int .u8 0, .int .u8 0, .int .u8 0, .int .u8 0] 26)
  have hb3 := (hb2.alloc hb2.size (.cells #[.int .u8 0, .int .u8 0, .int .u8 0, .int .u8 0, .int .u8 0, .int .u8 0, .int .u8 0, .int .u8 0] 26)).alloc (by have := hb2.size; simp; omega) (.cells #[.int .u8 0, .int .u8 0, .int .u8 0, .int .u8 0, .int .u8 0, .int .u8 0, .int .u8 0, .int .u8 0] 26)
  have hlt2 := hA6.lt
  have hlt : w.heap.size < w2.heap.size := hA6lt
  go_wp2_with (first | ((with_reducible refine at_st8 (x := .tmp 7) ?_); refine st_8 w2.heap.size 26 z8L m1 (by rfl) (by rfl) hA7 rfl ?_; intro w3 hB7 hk3) | ((with_reducible refine at_st8 (x := .tmp 8) ?_); refine st_8 (w2.heap.size + 1) 26 z8L m2 (by rfl) (by rfl) (hA8.kept hk3 (by omega)) rfl ?_; intro w4 hB8 hk4) | fail)
  have hB6 : At w4 w.heap.size 26 z8L := (hA6.kept hk3 (by omega)).kept hk4 (by omega)
  have hB7 := hB7.kept hk4 (by omega)
  have hb4 := hk4.below (hk3.below hb3 hb3.size (by intro j hj; subst hj; omega)) (Nat.le_of_lt (hA6.kept hk3 (by omega)).lt) (by intro j hj; subst hj; omega)
  clear hA6 hA7 hA8 hb3 hk3 hk4 hlt2 hA6lt hb2
  refine wp_region_held_drew (S := (fun _ => True)) (by kernel_rfl) (trivial) (fun hHeld => ?_)
  obtain ⟨Y, hY⟩ : ∃ x, w4.drew = x := ⟨_, rfl⟩
  have hB6 := hB6.drew
  have hB7 := hB7.drew
  have hB8 := hB8.drew
  have hb4 : Below w.heap.size w w4.drew := belowN hb4 1
  rw [hY] at hB6 hB7 hB8 hb4 ⊢
  clear hY
  refine tkq 0 (some 13) (v := ?_) rfl (Or.inl ⟨by rfl, ?_⟩) (by assumption) ?_
  rotate_left
  · intro w hSw; (try dsimp only at hSw); go_simp; first | done | (with_reducible rfl)
  simp only [Act.put, List.setIfInBounds_toArray, List.set_cons_zero, List.set_cons_succ]
  refine tkq 1 (some 14) (v := ?_) rfl (Or.inl ⟨by rfl, ?_⟩) (by assumption) ?_
  rotate_left
  · intro w hSw; (try dsimp only at hSw); go_simp; first | done | (with_reducible rfl)
  simp only [Act.put, List.setIfInBounds_toArray, List.set_cons_zero, List.set_cons_succ]
  refine tkq 2 (some 15) (v := ?_) rfl (Or.inl ⟨by rfl, ?_⟩) (by assumption) ?_
  rotate_left
  · intro w hSw; (try dsimp only at hSw); go_simp; first | done | (with_reducible rfl)
  simp only [Act.put, List.setIfInBounds_toArray, List.set_cons_zero, List.set_cons_succ]
  refine wpAnyH_ready (rs := [3]) (by kernel_rfl) (by simp) ?_
  refine AllReadyH.cons rfl (fun K hK => ?_) AllReadyH.nil
  go_simp
  go_wp2_with (fail)
  refine hK.out _ _ (trivial) (fun hHeld => ?_)
  clear hK K
  have hb5 : Below Y.heap.size Y (Y.alloc (.cells #[.slice (some ⟨w2.heap.size, 0, none⟩) 8 8, .slice (some ⟨w2.heap.size + 1, 0, none⟩) 8 8] 28)) := (Below.refl _ _).alloc (Nat.le_refl _) _
  have hR : RowsIn (Y.alloc (.cells #[.slice (some ⟨w2.heap.size, 0, none⟩) 8 8, .slice (some ⟨w2.heap.size + 1, 0, none⟩) 8 8] 28)) Y.heap.size 28 [(⟨some ⟨w2.heap.size, 0, none⟩, 8, 8⟩, m1.l), (⟨some ⟨w2.heap.size + 1, 0, none⟩, 8, 8⟩, m2.l)] := by
    refine ⟨At.new Y _ [.slice (some ⟨w2.heap.size, 0, none⟩) 8 8, .slice (some ⟨w2.heap.size + 1, 0, none⟩) 8 8], fun r hr => ?_⟩
    rcases List.mem_cons.1 hr with rfl | hr
    · exact ⟨((hB7.rd8 hby1).below hb5).more hb5.size, Nat.le_refl _, by show (8 : Nat) ≤ maxLen; unfold maxLen; omega⟩
    · obtain rfl := List.mem_singleton.1 hr
      exact ⟨((hB8.rd8 hby2).below hb5).more hb5.size, Nat.le_refl _, by show (8 : Nat) ≤ maxLen; unfold maxLen; omega⟩
  have hB6 := hB6.below hb5 hB6.lt
  have hb5 := hb4.trans (hb5.mono hb4.size)
  obtain ⟨g, hg⟩ : ∃ x, Y.heap.size = x := ⟨_, rfl⟩
  rw [hg] at hR
  obtain ⟨Y1, hY1⟩ : ∃ x, Y.alloc (.cells #[.slice (some ⟨w2.heap.size, 0, none⟩) 8 8, .slice (some ⟨w2.heap.size + 1, 0, none⟩) 8 8] 28) = x := ⟨_, rfl⟩
  rw [hY1] at hR hB6 hb5
  rw [hg, hY1]
  clear hg hY1 hb4
  refine wpAnyH_ready (rs := [4]) (by kernel_rfl) (by simp) ?_
  refine AllReadyH.cons rfl (fun K hK => ?_) AllReadyH.nil
  go_simp
  go_wp2_with (go_at_call 89; refine (concat_any g 2 _ _ Y1 rfl hR (by simp [catS, N8.l]) (by omega)).mono ?_; rintro e Y2 ⟨v17, rfl, ho, hb6⟩)
  have ho := ho.cast (show _ = m1.l ++ m2.l by simp [catS])
  obtain ⟨A17, c17, rfl, s1, s2, s3⟩ := ho.open_n 16 rfl
  have hB6 := hB6.below hb6 hB6.lt
  have hb6 := hb5.trans (hb6.mono hb5.size)
  refine hK.out _ _ (trivial) (fun hHeld => ?_)
  clear hK K
  refine wpAnyH_ready (rs := [5]) (by kernel_rfl) (by simp) ?_
  refine AllReadyH.cons rfl (fun K hK => ?_) AllReadyH.nil
  go_simp
  go_wp2_with (go_at_call 55; refine (HK.out Y2 A17 c17 s3 s1 s2).mono ?_; rintro e w' ⟨rfl, rfl⟩)
  refine hK.out _ _ (trivial) (fun hHeld => ?_)
  clear hK K
  refine wpAnyH_ready (rs := [6]) (by kernel_rfl) (by simp) ?_
  refine AllReadyH.cons rfl (fun K hK => ?_) AllReadyH.nil
  go_simp
  go_wp2_with (go_at_call 88; refine (HF.out _).mono ?_; rintro e Y3 ⟨rfl, hb7⟩)
  have hB6 := hB6.below hb7 hB6.lt
  have hb7 := hb6.trans (hb7.mono hb6.size)
  refine hK.out _ _ (trivial) (fun hHeld => ?_)
  clear hK K
  refine wpAnyH_ready (rs := [7]) (by kernel_rfl) (by simp) ?_
  refine AllReadyH.cons rfl (fun K hK => ?_) AllReadyH.nil
  refine step_st_any (by rfl) w.heap.size 26 z8L (m9.l.map (Value.int .u8)) (by rfl) (by rfl) hB6 (by rfl) (by rw [show (m9.l.map (Value.int .u8)).length = 8 from rfl]; exact a8_info) (by rfl) ?_
  intro Y4 hB9 hk9
  refine hK.out _ _ (trivial) (fun hHeld => ?_)
  clear hK K
  refine wpAnyH_done (by kernel_rfl) ?_ _
  go_wp2_with fail
  refine bodyPost_ret (results_cell 6 26 (by rfl) _ 26 _ _ (by rfl) hB9 Try.underlying26 rfl (by rw [show (m9.l.map (Value.int .u8)).length = 8 from rfl]; exact a8_info)) rfl ?_
  exact ⟨rfl, hk9.below hb7 (by have := hB6.lt; omega) (by intro j hj; subst hj; omega)⟩
structure TgS (w : World) (g7 g8 : Nat) (m1 m2 : N8) (Ah : Option Addr) (nh : Nat) (head : List Int) (Ab : Option Addr) (nb : Nat) (hid : List Int) (W : World) : Prop where
  b : Below w.heap.size w W
  a6 : At W w.heap.size 26 z8L
  a7 : At W g7 26 (m1.l.map (Value.int .u8))
  a8 : At W g8 26 (m2.l.map (Value.int .u8))
  rh : Rd W W.heap.size Ah nh head
  rb : Rd W W.heap.size Ab nb hid
section
variable {w : World} {g7 g8 : Nat} {m1 m2 : N8} {Ah : Option Addr} {nh : Nat} {head : List Int} {Ab : Option Addr} {nb : Nat} {hid : List Int} {W W' : World}
theorem TgS.below (h : TgS w g7 g8 m1 m2 Ah nh head Ab nb hid W) (k : Below W.heap.size W W') : TgS w g7 g8 m1 m2 Ah nh head Ab nb hid W' :=
  ⟨h.b.trans (k.mono h.b.size), h.a6.below k h.a6.lt, h.a7.below k h.a7.lt, h.a8.below k h.a8.lt, (h.rh.below k).more k.size, (h.rb.below k).more k.size⟩
end
set_option maxRecDepth 100000 in
set_option maxHeartbeats 2000000 in
theorem tag_any (key n : Int) (Ah : Option Addr) (nh ch : Nat) (head : List Int) (Ab : Option Addr) (nb cb : Nat) (hid : List Int) (w : World) (hrh : Rd w w.heap.size Ah nh head) (hrb : Rd w w.heap.size Ab nb hid) (hh1 : nh ≤ ch) (hh2 : ch ≤ maxLen) (hb1' : nb ≤ cb) (hb2' : cb ≤ maxLen) (hln : nh + nb ≤ 140737488355000) (k0 : 0 ≤ key) (k1 : key < 18446744073709551616) (n0 : 0 ≤ n) (n1 : n < 18446744073709551616) :
    Calls Try.prog 64 #[.int .u64 key, .int .u64 n, .slice Ah nh ch, .slice Ab nb cb] w fun e w' => e = .returned (tagS key n head hid).v ∧ Below w.heap.size w w' := by
  have HP := Lib.hid (fun W => mbytes_any n W n0 n1)
  have HQ := Lib.hid (fun W => mbytes_any (nh : Int) W (by omega) (by omega))
  have hby1 := b8_byt n
  have hby2 := b8_byt (nh : Int)
  have hlh := hrh.1
  have hlb := hrb.1
  have hfin : tagS key n head hid = b8 (keyedS (tagKey key) ((b8 n).l ++ ((b8 (nh : Int)).l ++ (head ++ hid)))) := by unfold tagS; rw [b8_l, b8_l, hlh]; simp only [List.append_assoc]
  obtain ⟨m1, hm1⟩ : ∃ x, b8 n = x := ⟨_, rfl⟩
  obtain ⟨m2, hm2⟩ : ∃ x, b8 (nh : Int) = x := ⟨_, rfl⟩
  rw [hm1] at HP hby1 hfin
  rw [hm2] at HQ hby2 hfin
  obtain ⟨row, hrow⟩ : ∃ x, m1.l ++ (m2.l ++ (head ++ hid)) = x := ⟨_, rfl⟩
  have hrl : row.length = 16 + nh + nb := by rw [← hrow]; simp [N8.l, hlh, hlb]; omega
  rw [hrow] at hfin
  have hkb := keyedS_bd (tagKey key) row
  have htk := keyedS_bd key [116, 97, 103]
  have HD := Lib.hid (fun W => (show Calls Try.prog 29 #[.int .u64 key, .string { data := #[116, 97, 103] }] W _ from derive_any key [116, 97, 103] W (by intro x hx; simp at hx; omega) (by unfold maxLen; simp) k0 k1))
  have HK := Lib.hid (fun W A c (h : Rd W W.heap.size A (16 + nh + nb) row) (h1 : 16 + nh + nb ≤ c) (h2 : c ≤ maxLen) => keyed_any (tagKey key) A (16 + nh + nb) c row W W.heap.size h h1 h2 htk.1 htk.2)
  have HF := Lib.hid (fun W => mbytes_any (keyedS (tagKey key) row) W hkb.1 hkb.2)
  rw [← hfin] at HF
  obtain ⟨m9, hm9⟩ : ∃ x, tagS key n head hid = x := ⟨_, rfl⟩
  rw [hm9] at HF ⊢
  obtain ⟨K9, hK9⟩ : ∃ x, keyedS (tagKey key) row = x := ⟨_, rfl⟩
  rw [hK9] at HF HK
  unfold tagKey at HK
  obtain ⟨KT, hKT⟩ : ∃ x, keyedS key [116, 97, 103] = x := ⟨_, rfl⟩
  rw [hKT] at HK HD
  have HROW := Lib.hid hrow
  have HRL := Lib.hid hrl
  clear hm1 hm2 hfin hm9 hkb hK9 htk hKT hrow hrl hlh hlb
  have hA0 : At (w.alloc (.cells #[.int .u8 0, .int .u8 0, .int .u8 0, .int .u8 0, .int .u8 0, .int .u8 0, .int .u8 0, .int .u8 0] 26)) w.heap.size 26 z8L := At.new w 26 z8L
  have hb0 : Below w.heap.size w (w.alloc (.cells #[.int .u8 0, .int .u8 0, .int .u8 0, .int .u8 0, .int .u8 0, .int .u8 0, .int .u8 0, .int .u8 0] 26)) := (Below.refl _ _).alloc (Nat.le_refl _) _
  obtain ⟨w0, hw0⟩ : ∃ x, w.alloc (.cells #[.int .u8 0, .int .u8 0, .int .u8 0, .int .u8 0, .int .u8 0, .int .u8 0, .int .u8 0, .int .u8 0] 26) = x := ⟨_, rfl⟩
  rw [hw0] at hA0 hb0
  have hh3 := hh2
  unfold maxLen at hh3
  go_enter Try.func64, Try.ntmps64
  go_wp2_with fail
  refine (HP.out w0).mono ?_
  rintro e w1 ⟨rfl, hb1⟩
  have hA1 := hA0.below hb1 hA0.lt
  have hb1 := hb0.trans (hb1.mono hb0.size)
  go_wp2_with fail
  refine (HQ.out w1).mono ?_
  rintro e w2 ⟨rfl, hb2⟩
  have hA6 := hA1.below hb2 hA1.lt
  have hb2 := hb1.trans (hb2.mono hb1.size)
  have hA6lt := hA6.lt
  clear hA0 hb0 hA1 hb1 hw0
  have hA7 : At ((w2.alloc (.cells #[.int .u8 0, .int .u8 0, .int .u8 0, .int .u8 0, .int .u8 0, .int .u8 0, .int .u8 0, .int .u8 0] 26)).alloc (.cells #[.int .u8 0, .int .u8 0, .int .u8 0, .int .u8 0, .int .u8 0, .int .u8 0, .int .u8 0, .int .u8 0] 26)) w2.heap.size 26 z8L := (At.new w2 26 z8L).alloc _
  have hA8 : At ((w2.alloc (.cells #[.int .u8 0, .int .u8 0, .int .u8 0, .int .u8 0, .int .u8 0, .int .u8 0, .int .u8 0, .int .u8 0] 26)).alloc (.cells #[.int .u8 0, .int .u8 0, .int .u8 0, .int .u8 0, .int .u8 0, .int .u8 0, .int .u8 0, .int .u8 0] 26)) (w2.heap.size + 1) 26 z8L := At.new_ 26 z8L _ (by simp)
  have hA6 := (hA6.alloc (.cells #[.int .u8 0, .int .u8 0, .int .u8 0, .int .u8 0, .int .u8 0, .int .u8 0, .int .u8 0, .int .u8 0] 26)).alloc (.cells #[.int .u8 0, .int .u8 0, .int .u8 0, .int .u8 0, .int .u8 0, .int .u8 0, .int .u8 0, .int .u8 0] 26)
  have hb3 := (hb2.alloc hb2.size (.cells #[.int .u8 0, .int .u8 0, .int .u8 0, .int .u8 0, .int .u8 0, .int .u8 0, .int .u8 0, .int .u8 0] 26)).alloc (by have := hb2.size; simp; omega) (.cells #[.int .u8 0, .int .u8 0, .int .u8 0, .int .u8 0, .int .u8 0, .int .u8 0, .int .u8 0, .int .u8 0] 26)
  have hlt2 := hA6.lt
  have hlt : w.heap.size < w2.heap.size := hA6lt
  go_wp2_with (first | ((with_reducible refine at_st8 (x := .tmp 9) ?_); refine st_8 w2.heap.size 26 z8L m1 (by rfl) (by rfl) hA7 rfl ?_; intro w3 hB7 hk3) | ((with_reducible refine at_st8 (x := .tmp 10) ?_); refine st_8 (w2.heap.size + 1) 26 z8L m2 (by rfl) (by rfl) (hA8.kept hk3 (by omega)) rfl ?_; intro w4 hB8 hk4) | fail)
  have hB6 : At w4 w.heap.size 26 z8L := (hA6.kept hk3 (by omega)).kept hk4 (by omega)
  have hB7 := hB7.kept hk4 (by omega)
  have hb4 := hk4.below (hk3.below hb3 hb3.size (by intro j hj; subst hj; omega)) (Nat.le_of_lt (hA6.kept hk3 (by omega)).lt) (by intro j hj; subst hj; omega)
  clear hA6 hA7 hA8 hb3 hk3 hk4 hlt2 hA6lt hb2
  refine wp_region_held_drew (S := (fun _ => True)) (by kernel_rfl) (trivial) (fun hHeld => ?_)
  obtain ⟨Y, hY⟩ : ∃ x, w4.drew = x := ⟨_, rfl⟩
  have hB6 := hB6.drew
  have hB7 := hB7.drew
  have hB8 := hB8.drew
  have hb4 : Below w.heap.size w w4.drew := belowN hb4 1
  have hrh := (hrh.below hb4).more hb4.size
  have hrb := (hrb.below hb4).more hb4.size
  rw [hY] at hB6 hB7 hB8 hb4 hrh hrb ⊢
  clear hY
  have hS0 : TgS w w2.heap.size (w2.heap.size + 1) m1 m2 Ah nh head Ab nb hid Y := ⟨hb4, hB6, hB7, hB8, hrh, hrb⟩
  clear hb4 hB6 hB7 hB8 hrh hrb
  refine tkq 0 (some 17) (v := ?_) rfl (Or.inl ⟨by rfl, ?_⟩) (by assumption) ?_
  rotate_left
  · intro w hSw; (try dsimp only at hSw); go_simp; first | done | (with_reducible rfl)
  simp only [Act.put, List.setIfInBounds_toArray, List.set_cons_zero, List.set_cons_succ]
  refine tkq 2 (some 19) (v := ?_) rfl (Or.inl ⟨by rfl, ?_⟩) (by assumption) ?_
  rotate_left
  · intro w hSw; (try dsimp only at hSw); go_simp; first | done | (with_reducible rfl)
  simp only [Act.put, List.setIfInBounds_toArray, List.set_cons_zero, List.set_cons_succ]
  refine tkq 3 (some 20) (v := ?_) rfl (Or.inl ⟨by rfl, ?_⟩) (by assumption) ?_
  rotate_left
  · intro w hSw; (try dsimp only at hSw); go_simp; first | done | (with_reducible rfl)
  simp only [Act.put, List.setIfInBounds_toArray, List.set_cons_zero, List.set_cons_succ]
  refine tkq 4 (some 21) (v := ?_) rfl (Or.inl ⟨by rfl, ?_⟩) (by assumption) ?_
  rotate_left
  · intro w hSw; (try dsimp only at hSw); go_simp; first | done | (with_reducible rfl)
  simp only [Act.put, List.setIfInBounds_toArray, List.set_cons_zero, List.set_cons_succ]
  refine tkq 5 (some 22) (v := ?_) rfl (Or.inl ⟨by rfl, ?_⟩) (by assumption) ?_
  rotate_left
  · intro w hSw; (try dsimp only at hSw); go_simp; first | done | (with_reducible rfl)
  simp only [Act.put, List.setIfInBounds_toArray, List.set_cons_zero, List.set_cons_succ]
  refine wpAnyH_ready (rs := [1, 6]) (by kernel_rfl) (by simp) ?_
  refine AllReadyH.cons rfl (fun K hK => ?_) (AllReadyH.cons rfl (fun K hK => ?_) (AllReadyH.nil))
  · go_simp
    go_wp2_with (go_at_call 29; refine (HD.out _).mono ?_; rintro e Y1 ⟨rfl, hbx1⟩)
    have hS1 := hS0.below hbx1
    refine hK.out _ _ (trivial) (fun hHeld => ?_)
    clear hK K
    refine wpAnyH_ready (rs := [6]) (by kernel_rfl) (by simp) ?_
    refine AllReadyH.cons rfl (fun K hK => ?_) AllReadyH.nil
    go_simp
    go_wp2_with (fail)
    refine hK.out _ _ (trivial) (fun hHeld => ?_)
    clear hK K
    have hbx2 : Below Y1.heap.size Y1 (Y1.alloc (.cells #[.slice (some ⟨w2.heap.size, 0, none⟩) 8 8, .slice (some ⟨w2.heap.size + 1, 0, none⟩) 8 8, .slice Ah nh ch, .slice Ab nb cb] 28)) := (Below.refl _ _).alloc (Nat.le_refl _) _
    have hS2 := hS1.below hbx2
    have hR : RowsIn (Y1.alloc (.cells #[.slice (some ⟨w2.heap.size, 0, none⟩) 8 8, .slice (some ⟨w2.heap.size + 1, 0, none⟩) 8 8, .slice Ah nh ch, .slice Ab nb cb] 28)) Y1.heap.size 28 [(⟨some ⟨w2.heap.size, 0, none⟩, 8, 8⟩, m1.l), (⟨some ⟨w2.heap.size + 1, 0, none⟩, 8, 8⟩, m2.l), (⟨Ah, nh, ch⟩, head), (⟨Ab, nb, cb⟩, hid)] := by
      refine ⟨At.new Y1 _ [.slice (some ⟨w2.heap.size, 0, none⟩) 8 8, .slice (some ⟨w2.heap.size + 1, 0, none⟩) 8 8, .slice Ah nh ch, .slice Ab nb cb], fun r hr => ?_⟩
      rcases List.mem_cons.1 hr with rfl | hr
      · exact ⟨hS2.a7.rd8 hby1, Nat.le_refl _, by show (8 : Nat) ≤ maxLen; unfold maxLen; omega⟩
      rcases List.mem_cons.1 hr with rfl | hr
      · exact ⟨hS2.a8.rd8 hby2, Nat.le_refl _, by show (8 : Nat) ≤ maxLen; unfold maxLen; omega⟩
      rcases List.mem_cons.1 hr with rfl | hr
      · exact ⟨hS2.rh, hh1, hh2⟩
      · obtain rfl := List.mem_singleton.1 hr
        exact ⟨hS2.rb, hb1', hb2'⟩
    obtain ⟨g, hg⟩ : ∃ x, Y1.heap.size = x := ⟨_, rfl⟩
    rw [hg] at hR
    obtain ⟨Y2, hY2⟩ : ∃ x, Y1.alloc (.cells #[.slice (some ⟨w2.heap.size, 0, none⟩) 8 8, .slice (some ⟨w2.heap.size + 1, 0, none⟩) 8 8, .slice Ah nh ch, .slice Ab nb cb] 28) = x := ⟨_, rfl⟩
    rw [hY2] at hR hS2
    rw [hg, hY2]
    clear hg hY2
    refine wpAnyH_ready (rs := [7]) (by kernel_rfl) (by simp) ?_
    refine AllReadyH.cons rfl (fun K hK => ?_) AllReadyH.nil
    go_simp
    go_wp2_with (go_at_call 89; refine (concat_any g 4 _ _ Y2 rfl hR (by have := HRL.out; have h2 := HROW.out; simp only [catS, List.map_cons, List.map_nil, List.flatten_cons, List.flatten_nil, List.append_nil]; rw [h2]; omega) (by omega)).mono ?_; rintro e Y3 ⟨v17, rfl, ho, hbx3⟩)
    have ho := ho.cast (show _ = row by rw [← HROW.out]; simp [catS])
    obtain ⟨A17, c17, rfl, s1, s2, s3⟩ := ho.open_n (16 + nh + nb) HRL.out
    have hS3 := hS2.below hbx3
    refine hK.out _ _ (trivial) (fun hHeld => ?_)
    clear hK K
    refine wpAnyH_ready (rs := [8]) (by kernel_rfl) (by simp) ?_
    refine AllReadyH.cons rfl (fun K hK => ?_) AllReadyH.nil
    go_simp
    go_wp2_with (go_at_call 55; refine (HK.out Y3 A17 c17 s3 s1 s2).mono ?_; rintro e w' ⟨rfl, rfl⟩)
    refine hK.out _ _ (trivial) (fun hHeld => ?_)
    clear hK K
    refine wpAnyH_ready (rs := [9]) (by kernel_rfl) (by simp) ?_
    refine AllReadyH.cons rfl (fun K hK => ?_) AllReadyH.nil
    go_simp
    go_wp2_with (go_at_call 88; refine (HF.out _).mono ?_; rintro e Y4 ⟨rfl, hbx4⟩)
    have hS4 := hS3.below hbx4
    have hB6 := hS4.a6
    have hb7 := hS4.b
    refine hK.out _ _ (trivial) (fun hHeld => ?_)
    clear hK K
    refine wpAnyH_ready (rs := [10]) (by kernel_rfl) (by simp) ?_
    refine AllReadyH.cons rfl (fun K hK => ?_) AllReadyH.nil
    refine step_st_any (by rfl) w.heap.size 26 z8L (m9.l.map (Value.int .u8)) (by rfl) (by rfl) hB6 (by rfl) (by rw [show (m9.l.map (Value.int .u8)).length = 8 from rfl]; exact a8_info) (by rfl) ?_
    intro YZ hB9 hk9
    refine hK.out _ _ (trivial) (fun hHeld => ?_)
    clear hK K
    refine wpAnyH_done (by kernel_rfl) ?_ _
    go_wp2_with fail
    refine bodyPost_ret (results_cell 8 26 (by rfl) _ 26 _ _ (by rfl) hB9 Try.underlying26 rfl (by rw [show (m9.l.map (Value.int .u8)).length = 8 from rfl]; exact a8_info)) rfl ?_
    exact ⟨rfl, hk9.below hb7 (by have := hB6.lt; omega) (by intro j hj; subst hj; omega)⟩
  · go_simp
    go_wp2_with (fail)
    refine hK.out _ _ (trivial) (fun hHeld => ?_)
    clear hK K
    have hbx1 : Below Y.heap.size Y (Y.alloc (.cells #[.slice (some ⟨w2.heap.size, 0, none⟩) 8 8, .slice (some ⟨w2.heap.size + 1, 0, none⟩) 8 8, .slice Ah nh ch, .slice Ab nb cb] 28)) := (Below.refl _ _).alloc (Nat.le_refl _) _
    have hS1 := hS0.below hbx1
    have hR : RowsIn (Y.alloc (.cells #[.slice (some ⟨w2.heap.size, 0, none⟩) 8 8, .slice (some ⟨w2.heap.size + 1, 0, none⟩) 8 8, .slice Ah nh ch, .slice Ab nb cb] 28)) Y.heap.size 28 [(⟨some ⟨w2.heap.size, 0, none⟩, 8, 8⟩, m1.l), (⟨some ⟨w2.heap.size + 1, 0, none⟩, 8, 8⟩, m2.l), (⟨Ah, nh, ch⟩, head), (⟨Ab, nb, cb⟩, hid)] := by
      refine ⟨At.new Y _ [.slice (some ⟨w2.heap.size, 0, none⟩) 8 8, .slice (some ⟨w2.heap.size + 1, 0, none⟩) 8 8, .slice Ah nh ch, .slice Ab nb cb], fun r hr => ?_⟩
      rcases List.mem_cons.1 hr with rfl | hr
      · exact ⟨hS1.a7.rd8 hby1, Nat.le_refl _, by show (8 : Nat) ≤ maxLen; unfold maxLen; omega⟩
      rcases List.mem_cons.1 hr with rfl | hr
      · exact ⟨hS1.a8.rd8 hby2, Nat.le_refl _, by show (8 : Nat) ≤ maxLen; unfold maxLen; omega⟩
      rcases List.mem_cons.1 hr with rfl | hr
      · exact ⟨hS1.rh, hh1, hh2⟩
      · obtain rfl := List.mem_singleton.1 hr
        exact ⟨hS1.rb, hb1', hb2'⟩
    obtain ⟨g, hg⟩ : ∃ x, Y.heap.size = x := ⟨_, rfl⟩
    rw [hg] at hR
    obtain ⟨Y1, hY1⟩ : ∃ x, Y.alloc (.cells #[.slice (some ⟨w2.heap.size, 0, none⟩) 8 8, .slice (some ⟨w2.heap.size + 1, 0, none⟩) 8 8, .slice Ah nh ch, .slice Ab nb cb] 28) = x := ⟨_, rfl⟩
    rw [hY1] at hR hS1
    rw [hg, hY1]
    clear hg hY1
    refine wpAnyH_ready (rs := [1]) (by kernel_rfl) (by simp) ?_
    refine AllReadyH.cons rfl (fun K hK => ?_) AllReadyH.nil
    go_simp
    go_wp2_with (go_at_call 29; refine (HD.out _).mono ?_; rintro e Y2 ⟨rfl, hbx2⟩)
    have hS2 := hS1.below hbx2
    have hR := hR.below hbx2
    refine hK.out _ _ (trivial) (fun hHeld => ?_)
    clear hK K
    refine wpAnyH_ready (rs := [7]) (by kernel_rfl) (by simp) ?_
    refine AllReadyH.cons rfl (fun K hK => ?_) AllReadyH.nil
    go_simp
    go_wp2_with (go_at_call 89; refine (concat_any g 4 _ _ Y2 rfl hR (by have := HRL.out; have h2 := HROW.out; simp only [catS, List.map_cons, List.map_nil, List.flatten_cons, List.flatten_nil, List.append_nil]; rw [h2]; omega) (by omega)).mono ?_; rintro e Y3 ⟨v17, rfl, ho, hbx3⟩)
    have ho := ho.cast (show _ = row by rw [← HROW.out]; simp [catS])
    obtain ⟨A17, c17, rfl, s1, s2, s3⟩ := ho.open_n (16 + nh + nb) HRL.out
    have hS3 := hS2.below hbx3
    refine hK.out _ _ (trivial) (fun hHeld => ?_)
    clear hK K
    refine wpAnyH_ready (rs := [8]) (by kernel_rfl) (by simp) ?_
    refine AllReadyH.cons rfl (fun K hK => ?_) AllReadyH.nil
    go_simp
    go_wp2_with (go_at_call 55; refine (HK.out Y3 A17 c17 s3 s1 s2).mono ?_; rintro e w' ⟨rfl, rfl⟩)
    refine hK.out _ _ (trivial) (fun hHeld => ?_)
    clear hK K
    refine wpAnyH_ready (rs := [9]) (by kernel_rfl) (by simp) ?_
    refine AllReadyH.cons rfl (fun K hK => ?_) AllReadyH.nil
    go_simp
    go_wp2_with (go_at_call 88; refine (HF.out _).mono ?_; rintro e Y4 ⟨rfl, hbx4⟩)
    have hS4 := hS3.below hbx4
    have hB6 := hS4.a6
    have hb7 := hS4.b
    refine hK.out _ _ (trivial) (fun hHeld => ?_)
    clear hK K
    refine wpAnyH_ready (rs := [10]) (by kernel_rfl) (by simp) ?_
    refine AllReadyH.cons rfl (fun K hK => ?_) AllReadyH.nil
    refine step_st_any (by rfl) w.heap.size 26 z8L (m9.l.map (Value.int .u8)) (by rfl) (by rfl) hB6 (by rfl) (by rw [show (m9.l.map (Value.int .u8)).length = 8 from rfl]; exact a8_info) (by rfl) ?_
    intro YZ hB9 hk9
    refine hK.out _ _ (trivial) (fun hHeld => ?_)
    clear hK K
    refine wpAnyH_done (by kernel_rfl) ?_ _
    go_wp2_with fail
    refine bodyPost_ret (results_cell 8 26 (by rfl) _ 26 _ _ (by rfl) hB9 Try.underlying26 rfl (by rw [show (m9.l.map (Value.int .u8)).length = 8 from rfl]; exact a8_info)) rfl ?_
    exact ⟨rfl, hk9.below hb7 (by have := hB6.lt; omega) (by intro j hj; subst hj; omega)⟩
end
end Go.Proofs.Ytehdilgnlhhjdaa
