/-
  A slice of rows of bytes, of the call's own: its rows read, appended to.
-/
import Derived.Test.YtdakbedohjemeaaMq11
import Derived.Deep.AppendLies
import Derived.Lib.AppendZerosOnto
import Derived.Lib.Walk
import Derived.Lib.SliceRun
import Derived.WalkLawsBesides
import Derived.Test.YtdakbedohjemeaaMq8
namespace Go.Proofs.Ytdakbedohjemeaa
section
set_option linter.unusedVariables false
set_option linter.unusedSimpArgs false
open Go.RowKit
def slV (d : Sl) : Value := .slice d.A d.n d.c
structure RowsAt (W : World) (base : Nat) (v : Value) (L : List (Sl × List Int)) : Prop where
  own : W.ownsRow base 31 1 v L.length (L.map fun r => slV r.1)
  rows : ∀ r ∈ L, InD W (fun b => v.ownBlock ≠ some b) r.1 r.2
theorem ownsRow_below {W W' : World} {base : Nat} {e : TypeId} {v : Value} {n : Nat} {xs : List Value} (h : W.ownsRow base e 1 v n xs) (hb : Below W.heap.size W W') : W'.ownsRow base e 1 v n xs := by
  refine ⟨h.1, ?_⟩
  rcases h.2 with h2 | ⟨g, cap, cur, h1, h2, hg, h3⟩
  · exact .inl h2
  · exact .inr ⟨g, cap, cur, h1, h2, by rw [hb.block g (Array.getElem?_eq_some_iff.1 hg).1]; exact hg, h3⟩
theorem RowsAt.below {W W' : World} {base : Nat} {v : Value} {L : List (Sl × List Int)} (h : RowsAt W base v L) (hb : Below W.heap.size W W') : RowsAt W' base v L :=
  ⟨ownsRow_below h.own hb, fun r hr => (h.rows r hr).below_ hb⟩
theorem RowsAt.grown {W W' : World} {base g cap H : Nat} {v : Value} {L M : List (Sl × List Int)} (h : RowsAt W base v L) (hM : ∀ r ∈ M, InD W (fun b => v.ownBlock ≠ some b) r.1 r.2) (hH : W.heap.size = H)
    (ho : W'.ownsRow base 31 1 (.slice (some ⟨g, 0, none⟩) (L.length + M.length) cap) (L.length + M.length) (L.map (fun r => slV r.1) ++ M.map (fun r => slV r.1))) (hg : W.grownBy W' v.ownBlock) (hor : v.ownBlock = some g ∨ g = H) :
    RowsAt W' base (.slice (some ⟨g, 0, none⟩) (L.length + M.length) cap) (L ++ M) := by
  refine ⟨by rw [List.map_append, List.length_append]; exact ho, fun r hr => ?_⟩
  have h0 : InD W (fun b => v.ownBlock ≠ some b) r.1 r.2 := by
    rcases List.mem_append.1 hr with h1 | h1
    · exact h.rows r h1
    · exact hM r h1
  have h1 : InD W (fun b => v.ownBlock ≠ some b ∧ b < W.heap.size) r.1 r.2 := h0.mono (fun b hb hP => ⟨hP, hb⟩)
  have hk : Kept (fun j => v.ownBlock = some j) W W' := Kept.of_grown hg (fun k hk => .inl hk)
  refine (h1.kept hk (fun b hb e => hb.1 e)).mono (fun b _ hb e => ?_)
  simp [Value.ownBlock] at e
  subst e
  rcases hor with h2 | h2
  · exact hb.1 h2
  · omega
theorem RowsAt.cell {W : World} {base : Nat} {v : Value} {L : List (Sl × List Int)} (h : RowsAt W base v L) (hp : 0 < L.length) : ∃ g cap, v = .slice (some ⟨g, 0, none⟩) L.length cap ∧ g < W.heap.size ∧ L.length ≤ cap ∧ cap ≤ maxLen ∧ ∀ j r, L[j]? = some r → W.cell? ⟨g, j, none⟩ = some (slV r.1) := by
  rcases h.own.2 with ⟨_, h0⟩ | ⟨g, cap, cur, hv, hbg, hg, hnc, hcm, hcs, ht⟩
  · omega
  · refine ⟨g, cap, hv, (Array.getElem?_eq_some_iff.1 hg).1, hnc, hcm, fun j r hj => ?_⟩
    have hA : At W g 31 cur.toList := by simpa [At] using hg
    have hj' : j < L.length := (List.getElem?_eq_some_iff.1 hj).1
    rw [hA.cell, ← List.getElem?_take_of_lt (show j < L.length * 1 by omega), ht, List.getElem?_map, hj]
    rfl
theorem ownsRow_base {W : World} {base base' : Nat} {e : TypeId} {v : Value} {n : Nat} {xs : List Value} (h : W.ownsRow base e 1 v n xs) (hb : base' ≤ base) : W.ownsRow base' e 1 v n xs := by
  refine ⟨h.1, ?_⟩
  rcases h.2 with h2 | ⟨g, cap, cur, h1, h2, h3⟩
  · exact .inl h2
  · exact .inr ⟨g, cap, cur, h1, by omega, h3⟩
theorem RowsAt.base_ {W : World} {base base' : Nat} {v : Value} {L : List (Sl × List Int)} (h : RowsAt W base v L) (hb : base' ≤ base) : RowsAt W base' v L := ⟨ownsRow_base h.own hb, h.rows⟩
section
variable {w : World} {ops : Array Oper} {rest : List Oper} {a : Act} {Q : Exit → Act → World → Prop}
end
end
section
set_option linter.unusedVariables false
set_option linter.unusedSimpArgs false
open Go.RowKit
set_option maxRecDepth 100000 in
theorem grow_any (k : Nat) (w : World) (hk : k ≤ 140737488355328) :
    Calls Try.prog 70 #[.slice none 0 0, .int .i64 k] w fun e w' => ∃ v, e = .returned v ∧ Own w' w.heap.size 5 v [] ∧ Below w.heap.size w w' := by
  obtain ⟨i0, hi, hz0, hz1, hz2⟩ := info_parts u8_info
  have h1 : ¬ ((k : Int) < 0) := by omega
  have h2 : wrap64 ((0 : Int) - 0) = 0 := by unfold wrap64; omega
  have h3 : wrap64 ((k : Int) - 0) = (k : Int) := by unfold wrap64; omega
  rcases Nat.eq_zero_or_pos k with h0 | h0
  · subst h0
    go_enter Try.func70, Try.ntmps70
    go_wp2
    go_ret
    exact ⟨_, rfl, Own.none_ _ _ _, Below.refl _ _⟩
  · have hrz := Lib.run_append_grow_zeros w 31 3 31 5 i0 (.int .u8 0) .i64 .i64 Try.underlying31 Try.underlying3 hi hz0 none 0 0 [] (run_firstCells_none w.drew i0.size 0 0 0) k h0 (by omega) (by omega) (by omega) (by rw [hz2]; omega) (growslice_fits (by omega) (by rw [hz2]; omega))
    have hGn : 0 + k ≤ grownCap w (0 + k) 0 5 := grownCap_ge w _ _ _
    have hGm := grownCap_le_maxLen w (0 + k) 0 5 (by unfold maxLen; omega)
    obtain ⟨G, hG⟩ : ∃ G, G = grownCap w (0 + k) 0 5 := ⟨_, rfl⟩
    rw [← hG] at hrz hGn hGm
    obtain ⟨C, hC⟩ : ∃ C, ([] : List Value).toArray ++ Builtin.zeroCells (Value.int .u8 0).cells k ++ Builtin.zeroCells (Value.int .u8 0).cells (G - (0 + k)) = C := ⟨_, rfl⟩
    rw [hC] at hrz
    have hCs : C.size = G := by
      rw [← hC]
      have hc1 : (Value.int .u8 0).cells.size = 1 := rfl
      simp [size_zeroCells, hc1]; omega
    have hGm2 := hGm
    unfold maxLen at hGm2
    clear hC hG
    go_enter Try.func70, Try.ntmps70
    go_wp2_with (first | (refine Lib.wpList_append_run w (by rfl) (.tmp 20) (.tmp 21) 31 3 rfl _ _ rfl rfl _ _ hrz ?_) | fail)
    go_ret
    exact ⟨_, rfl, Own.of_block (w := w.drew.alloc (.cells C 5)) Byt.nil rfl (heap_alloc_new w.drew _) (Nat.le_refl _) (Nat.zero_le _) hGm hCs rfl, (Below.refl _ _).drew.alloc (Nat.le_refl _) _⟩
/-- A block of slices that read as rows of bytes. -/
structure RowsIn (W : World) (g : Nat) (T : TypeId) (M : List (Sl × List Int)) : Prop where
  at_ : At W g T (M.map fun r => slV r.1)
  rows : ∀ r ∈ M, Rd W W.heap.size r.1.A r.1.n r.2 ∧ r.1.n ≤ r.1.c ∧ r.1.c ≤ maxLen
theorem RowsIn.below {W W' : World} {g : Nat} {T : TypeId} {M : List (Sl × List Int)} (h : RowsIn W g T M) (hb : Below W.heap.size W W') : RowsIn W' g T M :=
  ⟨h.at_.below hb h.at_.lt, fun r hr => ⟨((h.rows r hr).1.below hb).more hb.size, (h.rows r hr).2⟩⟩
def catS (M : List (Sl × List Int)) : List Int := (M.map fun r => r.2).flatten
theorem catS_step (M : List (Sl × List Int)) (k : Nat) (r : Sl × List Int) (h : M[k]? = some r) : catS (M.take (k + 1)) = catS (M.take k) ++ r.2 := by
  unfold catS
  rw [List.take_add_one, h]
  simp
theorem catS_full (M : List (Sl × List Int)) (k : Nat) (h : M.length ≤ k) : catS (M.take k) = catS M := by rw [List.take_of_length_le h]
theorem catS_le (M : List (Sl × List Int)) (k : Nat) : (catS (M.take k)).length ≤ (catS M).length := by
  have h : catS M = catS (M.take k) ++ catS (M.drop k) := by
    unfold catS
    rw [← List.flatten_append, ← List.map_append, List.take_append_drop]
  rw [h, List.length_append]
  omega
set_option maxRecDepth 100000 in
set_option maxHeartbeats 1000000 in
theorem concat_any (g m : Nat) (T : TypeId) (M : List (Sl × List Int)) (w : World) (hm : m = M.length) (hR : RowsIn w g T M) (hl : (catS M).length ≤ 140737488355328) (hM : m ≤ 1000) :
    Calls Try.prog 47 #[.slice (some ⟨g, 0, none⟩) m m] w fun e w' => ∃ v, e = .returned v ∧ Own w' w.heap.size 5 v (catS M) ∧ Below w.heap.size w w' := by
  obtain ⟨i0, hi, hz0, hz1, hz2⟩ := info_parts u8_info
  have hget : ∀ k, k < m → ∃ A n c bs, M[k]? = some (⟨A, n, c⟩, bs) ∧ n ≤ c ∧ c ≤ 9223372036854775807 ∧ catS (M.take (k + 1)) = catS (M.take k) ++ bs ∧ (catS (M.take k)).length + n ≤ 140737488355328 ∧ bs.length = n := by
    intro k hk
    have hk' : k < M.length := by omega
    obtain ⟨⟨⟨A, n, c⟩, bs⟩, hr⟩ : ∃ r, M[k]? = some r := ⟨_, List.getElem?_eq_getElem hk'⟩
    have h1 := hR.rows _ (List.mem_of_getElem? hr)
    have h2 := catS_step M k _ hr
    have h3 := catS_le M (k + 1)
    have h4 : bs.length = n := h1.1.1
    rw [h2, List.length_append] at h3
    simp only at h1 h2 h3
    have h5 := h1.2.2
    unfold maxLen at h5
    exact ⟨A, n, c, bs, hr, h1.2.1, by omega, h2, by omega, h4⟩
  have hcell : ∀ (k : Nat) (A : Option Addr) (n c : Nat) (bs : List Int), M[k]? = some (⟨A, n, c⟩, bs) → ∀ W, RowsIn W g T M → W.cell? ⟨g, k, none⟩ = some (.slice A n c) := by
    intro k A n c bs hr W hW
    rw [hW.at_.cell, List.getElem?_map, hr]
    rfl
  have hrd : ∀ (k : Nat) (A : Option Addr) (n c : Nat) (bs : List Int), M[k]? = some (⟨A, n, c⟩, bs) → ∀ W, RowsIn W g T M → Rd W W.heap.size A n bs := by
    intro k A n c bs hr W hW
    have h := hW.rows _ (List.mem_of_getElem? hr)
    exact h.1
  have hfull := catS_full M m (by omega)
  have GET := Lib.hid hget
  have CELL := Lib.hid hcell
  have RD := Lib.hid hrd
  have FULL := Lib.hid hfull
  have HR := Lib.hid hR
  clear hget hcell hrd hfull hR hm
  go_enter Try.func47, Try.ntmps47
  go_wp2_with fail
  go_loop [3, 11] (fun h i => ∃ k q : Nat, k ≤ m ∧ i = .int .i64 k ∧ h = .int .i64 q ∧ Hid (q = (catS (M.take k)).length) ∧ q ≤ 140737488355328) (fun _ i => m - (intOf i).toNat)
  case atStart => exact ⟨0, 0, Nat.zero_le _, rfl, rfl, Lib.hid rfl, by omega⟩
  case round =>
    obtain ⟨k, q, hk, rfl, rfl, hq, hq2⟩ := hrel
    by_cases hlt : k < m
    · obtain ⟨A, n, c, bs, hr, hn1, hn2, hst, hsum, hbl⟩ := GET.out k hlt
      have hc := CELL.out k A n c bs hr w HR.out
      have hqn : q + n ≤ 140737488355328 := by rw [hq.out]; exact hsum
      have hsl : (catS (M.take (k + 1))).length = (catS (M.take k)).length + n := by rw [hst, List.length_append, hbl]
      have S := Lib.hid hsl
      clear hsl hst hsum hbl hr
      go_wp2_with fail
      go_round
      case rel => exact ⟨k + 1, q + n, by omega, by go_num, by go_num, Lib.hid (by rw [S.out, hq.out]), hqn⟩
      case measure => simp [intOf]; omega
    · obtain rfl : k = m := by omega
      go_wp2_with fail
      refine (grow_any q w hq2).mono ?_
      rintro e w1 ⟨v1, rfl, ho1, hb1⟩
      have hR1 := HR.out.below hb1
      have HI := Lib.hid (And.intro ho1 (And.intro hb1 hR1))
      clear ho1 hb1 hR1
      go_wp2_with fail
      go_loopw [6, 27] (fun v i wr => ∃ j : Nat, j ≤ k ∧ i = .int .i64 j ∧ Hid (Own wr w.heap.size 5 v (catS (M.take j)) ∧ Below w.heap.size w wr)) (fun _ i _ => k - (intOf i).toNat)
      case atStart => exact ⟨0, by omega, rfl, Lib.hid ⟨HI.out.1, HI.out.2.1⟩⟩
      case round =>
        obtain ⟨j, hj, rfl, hst⟩ := hrel
        obtain ⟨wo, rfl⟩ : ∃ wo : World, wo = wr := ⟨_, rfl⟩
        have hO := hst.out.1
        have hB := hst.out.2
        clear hst HI
        by_cases hlt2 : j < k
        · obtain ⟨A, n, c, bs, hr, hn1, hn2, hst, hsum, hbl⟩ := GET.out j hlt2
          have hRo := HR.out.below hB
          have hc := CELL.out j A n c bs hr wo hRo
          have hrd := RD.out j A n c bs hr wo hRo
          clear hRo hr
          have ST := Lib.hid hst
          clear hst
          go_wp2_with (first | (refine wpList_append_rd (by rfl) (.tmp 31) (.tmp 32) 31 rfl w.heap.size 5 i0 Try.underlying31 hi hz0 hz1 hz2 _ (catS (M.take j)) rfl hO _ A n c bs rfl hrd (by omega) w hB hB.size ?_; intro v2 w2 ho2 hb2 hg2) | fail)
          have HN := Lib.hid (And.intro (ho2.cast ST.out.symm) hb2)
          clear ho2 hb2 hO hB
          go_roundw
          case rel => exact ⟨j + 1, by omega, by go_num, HN⟩
          case measure => simp [intOf]; omega
        · obtain rfl : j = k := by omega
          have hO := hO.cast FULL.out
          go_wp2_with fail
          go_ret
          exact ⟨_, rfl, hO, hB⟩
end
section
set_option linter.unusedVariables false
open Go.RowKit
theorem tkq {P : Program} {md : Region.Mode} {ops : Array Oper} {Q : Exit → Act → World → Prop} {S : World → Prop} (i : Nat) (dst : Option Tmp) {oi : Oper} {v : Value} {fuel : Nat} {listed : Array Bool} {a : Act} {w : World} (hi : ops[i]? = some oi)
    (hy : YieldsIf P ops S oi v a) (hS : S w) (h : wpAnyH P md ops Q S fuel (listed.setIfInBounds i true) (a.put dst v) w)
    (hd : oi.dst = dst := by rfl) (hs : Region.noSelect ops = true := by kernel_rfl) (hf : Region.free md ops listed i = true := by kernel_rfl) (hr : (Region.ready md ops listed).contains i = true := by kernel_rfl)
    (hQ : ∀ c a w, Q (.panic c) (a.put dst v) w → Q (.panic c) a w := by exact fun _ _ _ h => h) : wpAnyH P md ops Q S (fuel + 1) listed a w :=
  tk_dst hi hd hs hf hr hQ hy hS h
end
end Go.Proofs.Ytdakbedohjemeaa
