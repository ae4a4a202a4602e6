/-
  SentNumbers: its walk.
-/
import Derived.Test.YtpihgikcgkipaaaWb
namespace Go.Proofs.Ytpihgikcgkipaaa
set_option linter.unusedVariables false
set_option linter.unusedSimpArgs false
open Go.RowKit
theorem Sx.rebase {w0 : GW} {w : World} {B p q : Nat} {nx ak : Int} {hd : Bool} {v1 v2 : Value} {l1 l2 : PL} (h : Sx w0 w B p q nx ak hd v1 v2 l1 l2) (s : Nat) (hp : p < s) (hq : q < s) (h1 : ∀ k, v1.ownBlock = some k → k < s) (h2 : ∀ k, v2.ownBlock = some k → k < s) :
    Sx ⟨w, fun g => s ≤ g ∧ g < w.heap.size⟩ w B p q nx ak hd v1 v2 l1 l2 :=
  ⟨h.lv, h.rv, h.core, h.gk, h.off, Below.refl _ _, h.sz, fun g hg => rfl, fun g hg => hg.2, fun g hg => ⟨fun e => by have := hg.1; omega, fun e => by have := hg.1; omega⟩, fun g hg => ⟨fun e => by have := h1 g e; have := hg.1; omega, fun e => by have := h2 g e; have := hg.1; omega⟩⟩
theorem St.rebase {w0 : GW} {w w1 : World} {B p q : Nat} (h : St w0 w B p q) (k : Below w.heap.size w w1) : St ⟨w1, fun g => w.heap.size ≤ g ∧ g < w1.heap.size⟩ w1 B p q := by
  obtain ⟨_, _, _, _, _, _, _, h⟩ := h
  exact ⟨_, _, _, _, _, _, _, (h.below k).rebase w.heap.size h.lv.at_.lt h.rv.at_.lt (fun j hj => (ownG_lt h.lv.own j hj).2) (fun j hj => (ownG_lt h.rv.own j hj).2)⟩
theorem St.bl {w0 : GW} {w : World} {B p q : Nat} (h : St w0 w B p q) : Below B w0.w w := by
  obtain ⟨_, _, _, _, _, _, _, h⟩ := h
  exact h.bl
theorem St.sz {w0 : GW} {w : World} {B p q : Nat} (h : St w0 w B p q) : B ≤ w.heap.size := by
  obtain ⟨_, _, _, _, _, _, _, h⟩ := h
  exact h.sz
theorem St.eq {w0 : GW} {w : World} {B p q : Nat} (h : St w0 w B p q) {g : Nat} (hg : w0.G g) : w.heap[g]? = w0.w.heap[g]? := by
  obtain ⟨_, _, _, _, _, _, _, h⟩ := h
  exact h.kp.eq g hg
theorem St.below {w0 : GW} {w w1 : World} {B p q : Nat} (h : St w0 w B p q) (k : Below w.heap.size w w1) : St w0 w1 B p q := by
  obtain ⟨_, _, _, _, _, _, _, h⟩ := h
  exact ⟨_, _, _, _, _, _, _, h.below k⟩
/-- A call that brings no rows. -/
theorem do_bare {w0 : GW} {w : World} {B p q : Nat} (h : St w0 w B p q) (k skip size : Int) (asks : Bool) (time from_ : Int) (r : PK) (hf : 0 ≤ from_ ∧ from_ < 18446744073709551616) (hsk : -9223372036854775808 ≤ skip ∧ skip < 9223372036854775808) :
    Calls Try.prog 8 #[.pointer (some ⟨p, 0, none⟩), .pointer (some ⟨q, 0, none⟩), .agg #[.int .i64 k, .int .i64 skip, .int .i64 size, .bool asks, .int .i64 time, .int .u64 from_, .slice none 0 0, .int .u64 r.n, .int .i64 r.t, .int .i64 r.s, .bool r.a, .slice r.A r.k r.c, .slice none 0 0]] w fun e w' => e = .returned (.bool true) ∧ St w0 w' B p q := by
  obtain ⟨_, _, _, _, _, _, _, h⟩ := h
  exact do_any h k ⟨skip, size, asks, time, from_, ⟨none, 0, 0⟩, r, ⟨none, 0, 0⟩⟩ (fun _ => False) [] [] ⟨UnP.nil_ _ _, ⟨Nat.le_refl _, Nat.zero_le _⟩, RnP.none_ _ _ _, ⟨Nat.le_refl _, Nat.zero_le _⟩, hf, hsk⟩ (fun h => h) (fun h => h)
/-- A call that brings ranges. -/
theorem do_rows {w0 : GW} {w : World} {B p q : Nat} (h : St w0 w B p q) (k : Int) (A : Option Addr) (n c : Nat) (rs : RL) (P : Nat → Prop) (hr : RnP w P A n rs) (hPp : ¬ P p) (hPq : ¬ P q) (hnc : n ≤ c) (hcm : c ≤ maxLen) :
    Calls Try.prog 8 #[.pointer (some ⟨p, 0, none⟩), .pointer (some ⟨q, 0, none⟩), .agg #[.int .i64 k, .int .i64 0, .int .i64 0, .bool false, .int .i64 0, .int .u64 0, .slice none 0 0, .int .u64 0, .int .i64 0, .int .i64 0, .bool false, .slice none 0 0, .slice A n c]] w fun e w' => e = .returned (.bool true) ∧ St w0 w' B p q := by
  obtain ⟨_, _, _, _, _, _, _, h⟩ := h
  exact do_any h k ⟨0, 0, false, 0, 0, ⟨none, 0, 0⟩, ⟨0, 0, 0, false, none, 0, 0⟩, ⟨A, n, c⟩⟩ P rs [] ⟨UnP.nil_ _ _, ⟨Nat.le_refl _, Nat.zero_le _⟩, hr, ⟨hnc, hcm⟩, ⟨Int.le_refl 0, show (0 : Int) < 18446744073709551616 by decide⟩, ⟨show (-9223372036854775808 : Int) ≤ 0 by decide, show (0 : Int) < 9223372036854775808 by decide⟩⟩ hPp hPq
def p8 : PL := [⟨0, -1, 0, false, none, 0, 0⟩, ⟨0, 0, -1, false, none, 0, 0⟩, ⟨0, 0, 513, false, none, 0, 0⟩, ⟨4611686018427387903, 0, 0, false, none, 0, 0⟩, ⟨7, 0, 512, true, none, 0, 0⟩, ⟨7, 0, 0, false, none, 0, 0⟩, ⟨3, 0, 0, false, none, 0, 0⟩, ⟨8, 0, 0, false, none, 0, 0⟩]
/-- The rows of ranges, as they are laid. -/
def lit9 (wr : World) (s : Nat) : World := ((((((((wr.alloc (.cells #[.int .u64 5, .int .u64 5] 38)).alloc (.cells #[.int .u64 9, .int .u64 12, .int .u64 12, .int .u64 14] 38)).alloc (.cells #[.int .u64 9, .int .u64 12, .int .u64 11, .int .u64 14] 38)).alloc (.cells #[.int .u64 7, .int .u64 8] 38)).alloc (.cells #[.int .u64 7, .int .u64 8] 38)).alloc (.cells #[.int .u64 0, .int .u64 10, .int .u64 20, .int .u64 21] 38)).alloc (.cells #[.int .u64 30, .int .u64 1000] 38)).alloc (.cells #[.int .u64 0, .int .u64 1] 38)).alloc (.cells #[Value.slice none 0 0, .slice (some ⟨s, 0, none⟩) 1 1, .slice (some ⟨s + 1, 0, none⟩) 2 2, .slice (some ⟨s + 1 + 1, 0, none⟩) 2 2, .slice (some ⟨s + 1 + 1 + 1, 0, none⟩) 1 1, .slice (some ⟨s + 1 + 1 + 1 + 1, 0, none⟩) 1 1, .slice (some ⟨s + 1 + 1 + 1 + 1 + 1, 0, none⟩) 2 2, .slice (some ⟨s + 1 + 1 + 1 + 1 + 1 + 1, 0, none⟩) 1 1, .slice (some ⟨s + 1 + 1 + 1 + 1 + 1 + 1 + 1, 0, none⟩) 1 1] 34)
theorem lit9_below (wr : World) (s : Nat) (hs : wr.heap.size = s) : Below s wr (lit9 wr s) ∧ (lit9 wr s).heap.size = s + 9 := by
  unfold lit9
  refine ⟨?_, by simp [hs]⟩
  repeat (refine Below.alloc ?_ (by simp [hs]; try omega) _)
  rw [← hs]; exact Below.refl _ _
theorem lit9_at (wr : World) (s : Nat) (hs : wr.heap.size = s) :
    At (lit9 wr s) (s) 38 [.int .u64 5, .int .u64 5] ∧ At (lit9 wr s) (s + 1) 38 [.int .u64 9, .int .u64 12, .int .u64 12, .int .u64 14] ∧ At (lit9 wr s) (s + 1 + 1) 38 [.int .u64 9, .int .u64 12, .int .u64 11, .int .u64 14] ∧ At (lit9 wr s) (s + 1 + 1 + 1) 38 [.int .u64 7, .int .u64 8] ∧ At (lit9 wr s) (s + 1 + 1 + 1 + 1) 38 [.int .u64 7, .int .u64 8] ∧ At (lit9 wr s) (s + 1 + 1 + 1 + 1 + 1) 38 [.int .u64 0, .int .u64 10, .int .u64 20, .int .u64 21] ∧ At (lit9 wr s) (s + 1 + 1 + 1 + 1 + 1 + 1) 38 [.int .u64 30, .int .u64 1000] ∧ At (lit9 wr s) (s + 1 + 1 + 1 + 1 + 1 + 1 + 1) 38 [.int .u64 0, .int .u64 1] ∧ At (lit9 wr s) (s + 1 + 1 + 1 + 1 + 1 + 1 + 1 + 1) 34 [Value.slice none 0 0, .slice (some ⟨s, 0, none⟩) 1 1, .slice (some ⟨s + 1, 0, none⟩) 2 2, .slice (some ⟨s + 1 + 1, 0, none⟩) 2 2, .slice (some ⟨s + 1 + 1 + 1, 0, none⟩) 1 1, .slice (some ⟨s + 1 + 1 + 1 + 1, 0, none⟩) 1 1, .slice (some ⟨s + 1 + 1 + 1 + 1 + 1, 0, none⟩) 2 2, .slice (some ⟨s + 1 + 1 + 1 + 1 + 1 + 1, 0, none⟩) 1 1, .slice (some ⟨s + 1 + 1 + 1 + 1 + 1 + 1 + 1, 0, none⟩) 1 1] := by
  unfold lit9
  subst hs
  refine ⟨?_, ?_, ?_, ?_, ?_, ?_, ?_, ?_, ?_⟩
  · exact At.alloc (At.alloc (At.alloc (At.alloc (At.alloc (At.alloc (At.alloc (At.alloc (At.new_ _ _ _ (by simp)) _) _) _) _) _) _) _) _
  · exact At.alloc (At.alloc (At.alloc (At.alloc (At.alloc (At.alloc (At.alloc (At.new_ _ _ _ (by simp)) _) _) _) _) _) _) _
  · exact At.alloc (At.alloc (At.alloc (At.alloc (At.alloc (At.alloc (At.new_ _ _ _ (by simp)) _) _) _) _) _) _
  · exact At.alloc (At.alloc (At.alloc (At.alloc (At.alloc (At.new_ _ _ _ (by simp)) _) _) _) _) _
  · exact At.alloc (At.alloc (At.alloc (At.alloc (At.new_ _ _ _ (by simp)) _) _) _) _
  · exact At.alloc (At.alloc (At.alloc (At.new_ _ _ _ (by simp)) _) _) _
  · exact At.alloc (At.alloc (At.new_ _ _ _ (by simp)) _) _
  · exact At.alloc (At.new_ _ _ _ (by simp)) _
  · exact At.new_ _ _ _ (by simp)
theorem rn_block {w : World} {g s : Nat} (rs : RL) (n : Nat) (h : At w g 38 (rlC rs)) (hw : WdL rs) (hn : rs.length = n) (hs : s ≤ g) : RnP w (fun b => s ≤ b) (some ⟨g, 0, none⟩) n rs :=
  ⟨hn, hw, fun _ => ⟨g, 0, rfl, h.lt, hs, fun i r hr => by
    have := rlC_get rs i r hr
    rw [Nat.zero_add, h.cell, h.cell]
    exact this⟩⟩
theorem rn_same {w w' : World} {s n : Nat} {A : Option Addr} {rs : RL} (h : RnP w (fun b => s ≤ b) A n rs) (k : ∀ g, s ≤ g → g < w.heap.size → w'.heap[g]? = w.heap[g]?) (hs : w.heap.size ≤ w'.heap.size) : RnP w' (fun b => s ≤ b) A n rs :=
  ⟨h.len, h.wd, fun hn => by
    obtain ⟨b, off, e, hb, hp, hc⟩ := h.at_ hn
    refine ⟨b, off, e, Nat.lt_of_lt_of_le hb hs, hp, fun i r hr => ?_⟩
    rw [World.cell?_of_block (a := ⟨b, _, none⟩) (k b hp hb), World.cell?_of_block (a := ⟨b, _, none⟩) (k b hp hb)]
    exact hc i r hr⟩
theorem rows9 (wr : World) (s : Nat) (hs : wr.heap.size = s) (i : Nat) (hi : i < 9) :
    ∃ (A : Option Addr) (n : Nat) (rs : RL), (lit9 wr s).cell? ⟨s + 1 + 1 + 1 + 1 + 1 + 1 + 1 + 1, i, none⟩ = some (.slice A n n) ∧ RnP (lit9 wr s) (fun b => s ≤ b) A n rs ∧ n ≤ 2 := by
  obtain ⟨a0, a1, a2, a3, a4, a5, a6, a7, a8⟩ := lit9_at wr s hs
  have hi : i = 0 ∨ i = 1 ∨ i = 2 ∨ i = 3 ∨ i = 4 ∨ i = 5 ∨ i = 6 ∨ i = 7 ∨ i = 8 := by omega
  rcases hi with rfl | rfl | rfl | rfl | rfl | rfl | rfl | rfl | rfl
  · exact ⟨none, 0, [], a8.cell 0, RnP.none_ _ _ _, by omega⟩
  · exact ⟨_, _, [(5, 5)], a8.cell 1, rn_block [(5, 5)] 1 a0 (by intro r hr; simp at hr; subst hr; omega) rfl (by omega), by omega⟩
  · exact ⟨_, _, [(9, 12), (12, 14)], a8.cell 2, rn_block [(9, 12), (12, 14)] 2 a1 (by intro r hr; simp at hr; rcases hr with rfl | rfl <;> omega) rfl (by omega), by omega⟩
  · exact ⟨_, _, [(9, 12), (11, 14)], a8.cell 3, rn_block [(9, 12), (11, 14)] 2 a2 (by intro r hr; simp at hr; rcases hr with rfl | rfl <;> omega) rfl (by omega), by omega⟩
  · exact ⟨_, _, [(7, 8)], a8.cell 4, rn_block [(7, 8)] 1 a3 (by intro r hr; simp at hr; subst hr; omega) rfl (by omega), by omega⟩
  · exact ⟨_, _, [(7, 8)], a8.cell 5, rn_block [(7, 8)] 1 a4 (by intro r hr; simp at hr; subst hr; omega) rfl (by omega), by omega⟩
  · exact ⟨_, _, [(0, 10), (20, 21)], a8.cell 6, rn_block [(0, 10), (20, 21)] 2 a5 (by intro r hr; simp at hr; rcases hr with rfl | rfl <;> omega) rfl (by omega), by omega⟩
  · exact ⟨_, _, [(30, 1000)], a8.cell 7, rn_block [(30, 1000)] 1 a6 (by intro r hr; simp at hr; subst hr; omega) rfl (by omega), by omega⟩
  · exact ⟨_, _, [(0, 1)], a8.cell 8, rn_block [(0, 1)] 1 a7 (by intro r hr; simp at hr; subst hr; omega) rfl (by omega), by omega⟩
set_option maxRecDepth 100000 in
set_option maxHeartbeats 8000000 in
theorem snumbers_law (w : World) : Calls Try.prog 3 #[] w fun e w' => e = .returned (.bool true) ∧ Below w.heap.size w w' := by
  go_enter Try.func3, Try.ntmps3
  go_wp2_with (go_at_call 7; refine (snew_any _).mono ?_; rintro e w1 ⟨rfl, hL1, hB1⟩; have HSX := Lib.hid (sx_new hL1 hB1); clear hL1 hB1)
  obtain ⟨p, hp⟩ : ∃ p, w.heap.size = p := ⟨_, rfl⟩
  obtain ⟨w2, hw2⟩ : ∃ W, w1.alloc (.cells #[.slice none 0 0, .int .u64 0, .int .u64 0, .bool false] 28) = W := ⟨_, rfl⟩
  obtain ⟨w3, hw3⟩ : ∃ W, w2.alloc (.cells #[.int .u64 0, .int .i64 (-1), .int .i64 0, .bool false, .slice none 0 0, .int .u64 0, .int .i64 0, .int .i64 (-1), .bool false, .slice none 0 0, .int .u64 0, .int .i64 0, .int .i64 513, .bool false, .slice none 0 0, .int .u64 4611686018427387903, .int .i64 0, .int .i64 0, .bool false, .slice none 0 0, .int .u64 7, .int .i64 0, .int .i64 512, .bool true, .slice none 0 0, .int .u64 7, .int .i64 0, .int .i64 0, .bool false, .slice none 0 0, .int .u64 3, .int .i64 0, .int .i64 0, .bool false, .slice none 0 0, .int .u64 8, .int .i64 0, .int .i64 0, .bool false, .slice none 0 0] 31) = W := ⟨_, rfl⟩
  have hq2 : w1.heap.size + 1 = w2.heap.size := by rw [← hw2]; simp
  obtain ⟨q, hq⟩ : ∃ q, w1.heap.size = q := ⟨_, rfl⟩
  have hqp : p ≤ q := by rw [← hp, ← hq]; exact HSX.out.rv.bq
  rw [hq] at hq2
  rw [hq, hp, hw2] at HSX
  rw [hw2, hw3, hq, hp]
  have HS : Hid (St ⟨w3, fun g => w2.heap.size ≤ g ∧ g < w3.heap.size⟩ w3 p p q) := Lib.hid (St.rebase ⟨_, _, _, _, _, _, _, HSX.out⟩ (by rw [← hw3]; exact (Below.refl _ _).alloc (Nat.le_refl _) _))
  have HG : Hid (At w3 (q + 1) 31 (plC p8) ∧ w2.heap.size = q + 1 ∧ q + 1 < w3.heap.size ∧ Below p w w3 ∧ w.heap.size = p) := Lib.hid ⟨by rw [← hw3, hq2]; exact At.new w2 31 (plC p8), hq2.symm, by rw [← hw3, hq2]; simp, by rw [← hw3]; exact HSX.out.bl.alloc HSX.out.sz _, hp⟩
  have HPQ := Lib.hid hqp
  clear HSX hw2 hw3 hq hp hq2 hqp
  go_loopg [4, 23] 8 (fun kx s4 s23 wr => ∃ (i : Nat), s23 = .int .i64 i ∧ i ≤ 8 ∧ 8 - i ≤ kx ∧ Hid (St ⟨w3, fun g => w2.heap.size ≤ g ∧ g < w3.heap.size⟩ wr p p q))
  case atStart => exact ⟨0, rfl, by omega, by omega, HS⟩
  case round =>
    clear HS
    obtain ⟨i, rfl, hi, hkx, hS⟩ := hrel
    by_cases hgo : i < 8
    · have hA : At wr (q + 1) 31 (plC p8) := (hS.out.eq ⟨by rw [HG.out.2.1]; exact Nat.le_refl _, HG.out.2.2.1⟩).trans HG.out.1
      obtain ⟨r, hr⟩ : ∃ r, p8[i]? = some r := ⟨_, List.getElem?_eq_getElem (show i < 8 from hgo)⟩
      have hc := plC_get p8 i r hr
      have c0 := (hA.cell _).trans hc.1
      have c1 := (hA.cell _).trans hc.2.1
      have c2 := (hA.cell _).trans hc.2.2.1
      have c3 := (hA.cell _).trans hc.2.2.2.1
      have c4 := (hA.cell _).trans hc.2.2.2.2
      clear hA hr hc
      obtain ⟨rn, rt, rs, ra, rA, rk, rc⟩ := r
      simp only at c0 c1 c2 c3 c4
      have hiz : (i : Int) < 8 := by omega
      have hb : Below wr.heap.size wr (wr.alloc (.cells #[.int .u64 rn, .int .i64 rt, .int .i64 rs, .bool ra, .slice rA rk rc] 31)) := (Below.refl _ _).alloc (Nat.le_refl _) _
      have HD := Lib.hid (do_bare (hS.out.below hb) 8 0 0 false 0 0 ⟨rn, rt, rs, ra, rA, rk, rc⟩ (by decide) (by decide))
      clear hb
      go_wp2_with (go_at_call 8; (with_reducible refine HD.out.mono ?_); rintro e w5 ⟨rfl, hS5⟩; have H5 := Lib.hid hS5; clear hS5)
      go_roundg (8 - (i + 1))
      case measure => omega
      case rel => exact ⟨i + 1, by simp, by omega, by omega, H5⟩
    · obtain rfl : i = 8 := by omega
      go_wp2
      go_loopg [5] 100 (fun kx s5 wr2 => ∃ (j : Nat), s5 = .int .i64 j ∧ j ≤ 100 ∧ 100 - j ≤ kx ∧ Hid (St ⟨w3, fun g => w2.heap.size ≤ g ∧ g < w3.heap.size⟩ wr2 p p q))
      case atStart => exact ⟨0, rfl, by omega, by omega, hS⟩
      case round =>
        clear hS
        obtain ⟨j, rfl, hj, hkx2, hS⟩ := hrel
        by_cases hgo2 : j < 100
        · have hjz : (j : Int) < 100 := by omega
          have HD := Lib.hid (do_bare hS.out 0 ((j : Int) % 3) j ((j : Int) % 5 != 4) j 0 ⟨0, 0, 0, false, none, 0, 0⟩ (by decide) (by omega))
          go_wp2_with (go_at_call 8; (with_reducible refine HD.out.mono ?_); rintro e w5 ⟨rfl, hS5⟩; have H5 := Lib.hid hS5; clear hS5)
          go_roundg (100 - (j + 1))
          case measure => omega
          case rel => exact ⟨j + 1, by simp, by omega, by omega, H5⟩
        · obtain rfl : j = 100 := by omega
          go_wp2
          obtain ⟨s5, hs5⟩ : ∃ x, wr.heap.size = x := ⟨_, rfl⟩
          rw [hs5]
          have hl9 := lit9_below wr s5 hs5
          have h9 : Hid (∀ i, i < 9 → ∃ (A : Option Addr) (n : Nat) (rs : RL), (lit9 wr s5).cell? ⟨s5 + 1 + 1 + 1 + 1 + 1 + 1 + 1 + 1, i, none⟩ = some (.slice A n n) ∧ RnP (lit9 wr s5) (fun b => s5 ≤ b) A n rs ∧ n ≤ 2) := Lib.hid (rows9 wr s5 hs5)
          have HS9 : Hid (St ⟨lit9 wr s5, fun g => s5 ≤ g ∧ g < s5 + 9⟩ (lit9 wr s5) p p q) := Lib.hid (by have := hS.out.rebase (by rw [hs5]; exact hl9.1); rw [hs5, hl9.2] at this; exact this)
          have HB9 : Hid (Below p w (lit9 wr s5) ∧ p < s5 ∧ q < s5 ∧ (lit9 wr s5).heap.size = s5 + 9) := Lib.hid ⟨(HG.out.2.2.2.1.trans hS.out.bl).trans (hl9.1.mono (by rw [← hs5]; exact hS.out.sz)), by obtain ⟨_, _, _, _, _, _, _, h⟩ := hS.out; rw [← hs5]; exact h.lv.at_.lt, by obtain ⟨_, _, _, _, _, _, _, h⟩ := hS.out; rw [← hs5]; exact h.rv.at_.lt, hl9.2⟩
          clear hl9 hS hs5
          obtain ⟨w9, hw9⟩ : ∃ W, lit9 wr s5 = W := ⟨_, rfl⟩
          rw [hw9] at h9 HS9 HB9
          have HW9 := Lib.hid hw9
          clear hw9
          go_loopg [7, 71] 9 (fun kx s7 s71 wr3 => ∃ (m : Nat), s71 = .int .i64 m ∧ m ≤ 9 ∧ 9 - m ≤ kx ∧ Hid (St ⟨w9, fun g => s5 ≤ g ∧ g < s5 + 9⟩ wr3 p p q))
          case atStart => exact ⟨0, rfl, by omega, by omega, by
            have := HS9
            rw [← HW9.out] at this ⊢
            exact this⟩
          case round =>
            clear HS9
            obtain ⟨m, rfl, hm, hkx3, hS⟩ := hrel
            have hB9 : Hid (Below p w9 wr) := Lib.hid hS.out.bl
            by_cases hgo3 : m < 9
            · obtain ⟨A, n, rs, hc9, hr9, hn9⟩ := h9.out m hgo3
              have hk9 : ∀ g, s5 ≤ g → g < w9.heap.size → wr.heap[g]? = w9.heap[g]? := fun g h1 h2 => hS.out.eq (w0 := ⟨w9, fun g => s5 ≤ g ∧ g < s5 + 9⟩) ⟨h1, by rw [HB9.out.2.2.2] at h2; exact h2⟩
              have c9 : wr.cell? ⟨s5 + 1 + 1 + 1 + 1 + 1 + 1 + 1 + 1, m, none⟩ = some (.slice A n n) := (World.cell?_of_block (a := ⟨s5 + 1 + 1 + 1 + 1 + 1 + 1 + 1 + 1, m, none⟩) (hk9 (s5 + 1 + 1 + 1 + 1 + 1 + 1 + 1 + 1) (by omega) (by rw [HB9.out.2.2.2]; omega))).trans hc9
              have HD := Lib.hid (do_rows hS.out 9 A n n rs (fun b => s5 ≤ b) (rn_same hr9 hk9 hB9.out.size) (by have := HB9.out.2.1; omega) (by have := HB9.out.2.2.1; omega) (Nat.le_refl _) (by unfold maxLen; omega))
              clear hc9 hr9 hk9
              have hmz : (m : Int) < 9 := by omega
              go_wp2_with (go_at_call 8; (with_reducible refine HD.out.mono ?_); rintro e w6 ⟨rfl, hS6⟩; have H6 := Lib.hid hS6; clear hS6)
              go_roundg (9 - (m + 1))
              case measure => omega
              case rel => exact ⟨m + 1, by simp, by omega, by omega, H6⟩
            · obtain rfl : m = 9 := by omega
              have HD7 := Lib.hid (do_bare hS.out 7 0 0 false 0 40 ⟨0, 0, 0, false, none, 0, 0⟩ (by decide) (by decide))
              go_wp2_with (first
                | (go_at_call 8; (with_reducible refine HD7.out.mono ?_); rintro e w6 ⟨rfl, hS6⟩; have H6 := Lib.hid hS6; have HD10 := Lib.hid (do_bare hS6 10 0 0 false 0 0 ⟨0, 0, 0, false, none, 0, 0⟩ (by decide) (by decide)); clear hS6)
                | (go_at_call 8; (with_reducible refine HD10.out.mono ?_); rintro e w7 ⟨rfl, hS7⟩; have H7 := Lib.hid hS7; have HD11 := Lib.hid (do_bare hS7 10 0 0 false 0 0 ⟨0, 0, 0, false, none, 0, 0⟩ (by decide) (by decide)); clear hS7 HD10)
                | (go_at_call 8; (with_reducible refine HD11.out.mono ?_); rintro e w8 ⟨rfl, hS8⟩; have H8 := Lib.hid hS8; clear hS8)
                | (go_at_call 9; refine (known11_any _).mono ?_; rintro e w10 ⟨rfl, hB10⟩))
              go_ret
              exact ⟨rfl, by rw [HG.out.2.2.2.2]; exact (HB9.out.1.trans H8.out.bl).trans (hB10.mono H8.out.sz)⟩
end Go.Proofs.Ytpihgikcgkipaaa
