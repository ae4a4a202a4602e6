/-
  What the statements' books of memory answer for bytes: Same of two rows that read alike, Roomy, Intact.
-/
import Derived.Test.YtkgeeoogmkpjhaaKeep
namespace Go.Proofs.Ytkgeeoogmkpjhaa
set_option linter.unusedVariables false
open Go.RowKit
set_option maxRecDepth 100000 in
theorem same_any (A A' : Option Addr) (n c c' : Nat) (bs : List Int) (w : World) (B B' : Nat) (hr : Rd w B A n bs) (hr' : Rd w B' A' n bs) (hn : n ≤ maxLen) :
    Calls Try.prog 32 #[.slice A n c, .slice A' n c'] w fun e w' => e = .returned (.bool true) ∧ ∃ m, w' = w.drewN m := by
  unfold maxLen at hn
  have hn' : (n : Int) ≤ 9223372036854775807 := by omega
  clear hn
  rcases Nat.eq_zero_or_pos n with h0 | h0
  · subst h0
    go_enter Try.func32, Try.ntmps32
    go_wp2
    go_loop [5] (fun i => i = .int .i64 0) (fun _ => 0)
    case atStart => rfl
    case round =>
      subst hrel
      go_wp2
      go_ret
      exact ⟨rfl, 0, rfl⟩
  · obtain ⟨b, off, rfl, _, hc⟩ := hr.2.2 h0
    obtain ⟨b', off', rfl, _, hc'⟩ := hr'.2.2 h0
    have C := Lib.hid hc
    have C' := Lib.hid hc'
    clear hc hc' hr hr'
    go_enter Try.func32, Try.ntmps32
    go_wp2
    go_loopw [5] (fun i wr => ∃ k : Nat, k ≤ n ∧ i = .int .i64 k ∧ ∃ m, wr = w.drewN m) (fun i _ => n - (intOf i).toNat)
    case atStart => exact ⟨0, Nat.zero_le _, rfl, 0, rfl⟩
    case round =>
      obtain ⟨k, hk, rfl, m, rfl⟩ := hrel
      by_cases hlt : k < n
      · have c1 := C.out k hlt
        have c2 := C'.out k hlt
        obtain ⟨y, hy⟩ : ∃ y, bs.getD k 0 = y := ⟨_, rfl⟩
        rw [hy] at c1 c2
        clear hy
        go_wp2
        go_quiet (fail)
        go_wp2
        go_roundw
        case rel => exact ⟨k + 1, by omega, by go_num, _, rfl⟩
        case measure => simp [intOf]; omega
      · go_wp2
        go_ret
        exact ⟨rfl, m, rfl⟩
/-- A block that holds bs, then k marks, then room up to n + 80 cells. -/
def RoomAt (w : World) (g : Nat) (e : TypeId) (bs : List Int) (k : Nat) (mark : Int) : Prop :=
  ∃ cur : Array Value, w.heap[g]? = some (.cells cur e (0, 0)) ∧ cur.size = bs.length + 80 ∧ (∀ j, j < bs.length → cur[j]? = some (.int .u8 (bs.getD j 0))) ∧ (∀ j, j < k → cur[bs.length + j]? = some (.int .u8 mark))
theorem RoomAt.cell {w : World} {g : Nat} {e : TypeId} {bs : List Int} {k : Nat} {mark : Int} (h : RoomAt w g e bs k mark) (hk : k < 80) :
    ∃ u, w.cell? ⟨g, bs.length + k, none⟩ = some u ∧ w.frozen? ⟨g, bs.length + k, none⟩ = false := by
  obtain ⟨cur, hh, hs, _, _⟩ := h
  have hl : bs.length + k < cur.size := by omega
  refine ⟨cur[bs.length + k], ?_, ?_⟩
  · rw [cell_of_row w g _ cur e (0, 0) hh]; exact Array.getElem?_eq_getElem hl
  · simp [World.frozen?, hh]
theorem RoomAt.step {w : World} {g : Nat} {e : TypeId} {bs : List Int} {k : Nat} {mark : Int} (h : RoomAt w g e bs k mark) (hk : k < 80) :
    RoomAt (w.setCell ⟨g, bs.length + k, none⟩ (.int .u8 mark)) g e bs (k + 1) mark := by
  obtain ⟨cur, hh, hs, h1, h2⟩ := h
  have hl : bs.length + k < cur.size := by omega
  refine ⟨cur.setIfInBounds (bs.length + k) (.int .u8 mark), ?_, by simpa using hs, fun j hj => ?_, fun j hj => ?_⟩
  · simp [World.setCell, Array.getElem?_modify, hh]
  · rw [Array.getElem?_setIfInBounds_ne (by omega)]; exact h1 j hj
  · by_cases he : j = k
    · subst he
      rw [Array.getElem?_setIfInBounds_self_of_lt hl]
    · rw [Array.getElem?_setIfInBounds_ne (by omega)]; exact h2 j (by omega)
theorem RoomAt.start {w : World} {g : Nat} {e : TypeId} {bs : List Int} {mark : Int} {cur : List Value} (hg : w.heap[g]? = some (.cells (splice cur 0 (bs.map (Value.int .u8))).toArray e (0, 0))) (hc : cur.length = bs.length + 80) : RoomAt w g e bs 0 mark := by
  refine ⟨_, hg, ?_, fun j hj => ?_, fun j hj => absurd hj (by omega)⟩
  · simp [splice]; omega
  · have hj' : j < (bs.map (Value.int .u8)).length := by simpa using hj
    rw [List.getElem?_toArray]
    unfold splice
    rw [List.take_zero, List.nil_append, List.getElem?_append_left hj', List.getElem?_map, List.getD_eq_getElem?_getD, List.getElem?_eq_getElem hj]; rfl
theorem RoomAt.own {w : World} {g base : Nat} {e : TypeId} {bs : List Int} {mark : Int} (h : RoomAt w g e bs 80 mark) (hb : Byt bs) (hm : 0 ≤ mark ∧ mark < 256) (hbase : base ≤ g) (hl : bs.length + 80 ≤ maxLen) :
    Own w base e (.slice (some ⟨g, 0, none⟩) (bs.length + 80) (bs.length + 80)) (bs ++ List.replicate 80 mark) := by
  obtain ⟨cur, hh, hs, h1, h2⟩ := h
  have hbr : Byt (List.replicate 80 mark) := fun x hx => by rw [List.eq_of_mem_replicate hx]; exact hm
  refine Own.of_block (hb.app hbr) (by simp) hh hbase (Nat.le_refl _) hl hs ?_
  rw [List.take_of_length_le (by simp; omega)]
  apply List.ext_getElem?
  intro j
  rw [Array.getElem?_toList]
  rcases Nat.lt_or_ge j bs.length with hj | hj
  · rw [h1 j hj, List.getElem?_map, List.getElem?_append_left hj, List.getD_eq_getElem?_getD, List.getElem?_eq_getElem hj]; rfl
  · rcases Nat.lt_or_ge j (bs.length + 80) with hj2 | hj2
    · have := h2 (j - bs.length) (by omega)
      rw [show bs.length + (j - bs.length) = j by omega] at this
      rw [this, List.getElem?_map, List.getElem?_append_right hj, List.getElem?_replicate_of_lt (by omega)]; rfl
    · rw [Array.getElem?_eq_none (by omega), List.getElem?_eq_none (by simp; omega)]
set_option maxRecDepth 100000 in
set_option maxHeartbeats 1000000 in
theorem roomy_any (A : Option Addr) (n c : Nat) (bs : List Int) (mark : Int) (w : World) (hr : Rd w w.heap.size A n bs) (hc : n ≤ 140737488350000) (hm0 : 0 ≤ mark) (hm1 : mark < 256) :
    Calls Try.prog 15 #[.slice A n c, .int .u8 mark] w fun e w' => ∃ v, e = .returned v ∧ Own w' w.heap.size 5 v (bs ++ List.replicate 80 mark) ∧ Below w.heap.size w w' := by
  obtain ⟨i0, hi, hz0, hz1, hz2⟩ := info_parts u8_info
  have hb0 := Below.refl w.heap.size w
  have hlen := hr.1
  have HL := Lib.hid hlen
  clear hlen
  go_enter Try.func15, Try.ntmps15
  go_wp2_with (first
    | (at_make; refine wpList_make_lc rfl (.tmp 9) (.tmp 9) 22 rfl 5 i0 (.int .u8 0) Try.underlying22 hi hz0 hz1 .i64 .i64 _ _ (n + 80) (n + 80) rfl rfl (by simp) (by simp) (by omega) (by rw [hz2]; omega) (by unfold maxLen; omega) w.heap.size w hb0 (Nat.le_refl _) ?_; intro w1 g G1 GE hg hb1 hbw1)
    | (refine wpList_copy_rd rfl (.tmp 11) (.tmp 12) 22 22 rfl 5 Try.underlying22 (by rw [hi]; exact congrArg some hz1) (n + 80) (n + 80) n c A rfl rfl _ _ G1.out bs _ (hr.below hb1) (by omega) (by rw [madeL_len]; omega) w.heap.size w hb1 hg ?_; intro w2 G2 hb2))
  have hr0 : RoomAt w2 g 5 bs 0 mark := RoomAt.start G2.out (by rw [madeL_len, HL.out])
  have hby := hr.2.1
  clear hr hb0 hb1 hbw1 G1 G2 GE
  go_loopw [6] (fun i wr => ∃ k : Nat, k ≤ 80 ∧ i = .int .i64 ((n + k : Nat) : Int) ∧ RoomAt wr g 5 bs k mark ∧ Below w.heap.size w wr) (fun i _ => n + 80 - (intOf i).toNat)
  case atStart => exact ⟨0, by omega, rfl, hr0, hb2⟩
  case round =>
    obtain ⟨k, hk, rfl, hra, hbr⟩ := hrel
    clear hr0 hb2
    by_cases hlt : k < 80
    · obtain ⟨u, hcell, hfr⟩ := hra.cell hlt
      have hst := hra.step hlt
      rw [HL.out] at hcell hfr hst
      obtain ⟨j, hj⟩ : ∃ j, n + k = j := ⟨_, rfl⟩
      rw [hj] at hcell hfr hst
      rw [hj]
      have hjb : j < n + 80 := by omega
      have J := Lib.hid hj
      clear hj
      go_wp2
      go_roundw
      case rel => exact ⟨k + 1, by omega, by rw [show n + (k + 1) = j + 1 by have := J.out; omega]; go_num, hst, hbr.setCell hg _⟩
      case measure => simp [intOf]; omega
    · obtain rfl : k = 80 := by omega
      have hown := hra.own hby ⟨hm0, hm1⟩ hg (by rw [HL.out]; unfold maxLen; omega)
      rw [HL.out] at hown
      go_wp2
      go_ret
      exact ⟨_, rfl, hown, hbr⟩
set_option maxRecDepth 100000 in
set_option maxHeartbeats 1000000 in
theorem intact_any (A A' : Option Addr) (n c c' : Nat) (bs : List Int) (mark : Int) (w : World) (B B' : Nat) (hr : Rd w B A (n + 80) (bs ++ List.replicate 80 mark)) (hr' : Rd w B' A' n bs)
    (hc1 : n + 80 ≤ c) (hc : c ≤ maxLen) (hn : n ≤ 1000) :
    Calls Try.prog 18 #[.slice A (n + 80) c, .slice A' n c', .int .u8 mark] w fun e w' => e = .returned (.bool true) ∧ ∃ m, w' = w.drewN m := by
  obtain ⟨b, off, rfl, _, hcell⟩ := hr.2.2 (by omega)
  have hc0 := hc
  unfold maxLen at hc0
  have hl := hr'.1
  have hrc : Rd w B (some ⟨b, off, none⟩) n bs := by
    have := hr.cut (m := n) (by omega)
    rw [List.take_append_of_le_length (by omega), List.take_of_length_le (by omega)] at this
    exact this
  have hmk : ∀ k, k < 80 → w.cell? ⟨b, off + (n + k), none⟩ = some (.int .u8 mark) := fun k hk => by
    rw [hcell (n + k) (by omega), List.getD_eq_getElem?_getD, List.getElem?_append_right (by omega), List.getElem?_replicate_of_lt (by omega)]; rfl
  have M := Lib.hid hmk
  clear hmk hcell hl hr
  go_enter Try.func18, Try.ntmps18
  go_wp2_with (go_at_call 32; refine (same_any _ _ n c c' bs _ _ _ hrc hr' (by unfold maxLen; omega)).mono ?_; rintro e w9 ⟨rfl, m0, rfl⟩)
  clear hrc hr'
  go_loopw [7] (fun i wr => ∃ k : Nat, k ≤ 80 ∧ i = .int .i64 ((n + k : Nat) : Int) ∧ ∃ m, wr = w.drewN m) (fun i _ => n + 80 - (intOf i).toNat)
  case atStart => exact ⟨0, by omega, rfl, m0, rfl⟩
  case round =>
    obtain ⟨k, hk, rfl, m, rfl⟩ := hrel
    by_cases hlt : k < 80
    · have c1 := M.out k hlt
      obtain ⟨j, hj⟩ : ∃ j, n + k = j := ⟨_, rfl⟩
      rw [hj] at c1
      rw [hj]
      have hjb : j < n + 80 := by omega
      have J := Lib.hid hj
      clear hj
      go_wp2
      go_roundw
      case rel => exact ⟨k + 1, by omega, by rw [show n + (k + 1) = j + 1 by have := J.out; omega]; go_num, m, rfl⟩
      case measure => simp [intOf]; omega
    · obtain rfl : k = 80 := by omega
      go_wp2
      go_ret
      exact ⟨rfl, m, rfl⟩
end Go.Proofs.Ytkgeeoogmkpjhaa
