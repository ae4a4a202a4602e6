/-
  SentPlays: its walk.
-/
import Derived.Test.YtpihgikcgkipaaaWa
import Derived.Test.YtpihgikcgkipaaaUj
namespace Go.Proofs.Ytpihgikcgkipaaa
set_option linter.unusedVariables false
set_option linter.unusedSimpArgs false
open Go.RowKit
theorem sx_new {w w1 : World} (hL : LV w1 w.heap.size w.heap.size 0 0 false (.slice none 0 0) []) (hB : Below w.heap.size w w1) :
    Sx ⟨w, fun _ => False⟩ (w1.alloc (.cells #[.slice none 0 0, .int .u64 0, .int .u64 0, .bool false] 28)) w.heap.size w.heap.size w1.heap.size 0 0 false (.slice none 0 0) (.slice none 0 0) [] [] :=
  ⟨hL.below ((Below.refl _ _).alloc (Nat.le_refl _) _), ⟨At.new w1 28 [.slice none 0 0, .int .u64 0, .int .u64 0, .bool false], ownP_nil _ _, hB.size⟩, rfl,
    ⟨List.Pairwise.nil, fun c hc => (by cases hc), Nat.zero_le _, ⟨by decide, by decide⟩, ⟨by decide, by decide⟩⟩, fun k h => (by cases h), hB.alloc hB.size _, by have := hB.size; simp; omega, ⟨fun g hg => hg.elim, fun g hg => hg.elim, fun g hg => hg.elim, fun g hg => hg.elim⟩⟩
set_option maxRecDepth 100000 in
set_option maxHeartbeats 8000000 in
theorem plays11_law (A : Option Addr) (n c : Nat) (w : World) (hu : Axs w w.heap.size A n) (hnc : n ≤ c) (hcm : c ≤ maxLen) :
    Calls Try.prog 4 #[.slice A n c] w fun e w' => e = .returned (.bool true) ∧ Below w.heap.size w w' := by
  have HU := Lib.hid hu
  unfold maxLen at hcm
  clear hu
  go_enter Try.func4, Try.ntmps4
  go_wp2_with (go_at_call 7; refine (snew_any _).mono ?_; rintro e w1 ⟨rfl, hL1, hB1⟩; have HSX := Lib.hid (sx_new hL1 hB1); clear hL1 hB1)
  obtain ⟨p, hp⟩ : ∃ p, w.heap.size = p := ⟨_, rfl⟩
  obtain ⟨q, hq⟩ : ∃ q, w1.heap.size = q := ⟨_, rfl⟩
  obtain ⟨w2, hw2⟩ : ∃ W, w1.alloc (.cells #[.slice none 0 0, .int .u64 0, .int .u64 0, .bool false] 28) = W := ⟨_, rfl⟩
  have hqp : p ≤ q := by rw [← hp, ← hq]; have h1 := HSX.out.rv.bq; exact h1
  rw [hq, hw2] at HSX
  rw [hp] at HSX HU ⊢
  have HS : Hid (St ⟨w, fun _ => False⟩ w2 p p q) := Lib.hid ⟨_, _, _, _, _, _, _, HSX.out⟩
  have HP := Lib.hid hp
  rw [hw2, hq]
  clear HSX hw2 hq hp
  go_loopg [5] 100 (fun kx s5 wr => ∃ (i : Nat), s5 = .int .i64 i ∧ i ≤ n ∧ i ≤ 100 ∧ 100 - i ≤ kx ∧ Hid (St ⟨w, fun _ => False⟩ wr p p q))
  case atStart => exact ⟨0, rfl, Nat.zero_le _, by omega, by omega, HS⟩
  case round =>
    clear HS
    obtain ⟨i, rfl, hin, hi60, hkx, hS⟩ := hrel
    have hB : Hid (Below p w wr) := by obtain ⟨_, _, _, _, _, _, _, h⟩ := hS.out; exact Lib.hid h.bl
    by_cases hgo : i < n ∧ i < 100
    · obtain ⟨g1, g2⟩ := hgo
      have hBw : Below w.heap.size w wr := by rw [HP.out]; exact hB.out
      obtain ⟨b, off, rfl, hb, hc⟩ := (HU.out.below hBw).at_ (by omega)
      obtain ⟨k, x, hx⟩ := hc i g1
      obtain ⟨rs, xs, hok⟩ := hx.ok
      obtain ⟨_, _, _, _, _, _, _, hsx⟩ := hS.out
      have hd0 := (do_any hsx k x _ rs xs hok (show ¬ p < p by omega) (show ¬ q < p by omega))
      unfold axL at hd0
      have HD := Lib.hid hd0
      clear hsx hok hc hb hBw hd0
      have hx0 := hx.c0
      have hx1 := hx.c1
      have hx2 := hx.c2
      have hx3 := hx.c3
      have hx4 := hx.c4
      have hx5 := hx.c5
      have hx6 := hx.c6
      have hx7 := hx.c7
      have hx8 := hx.c8
      have hx9 := hx.c9
      have hx10 := hx.c10
      have hx11 := hx.c11
      have hx12 := hx.c12
      clear hx
      obtain ⟨skip, size, asks, time, from_, ⟨roA, ron, roc⟩, ⟨pn, pt, ps, pa, pA, pk, pc⟩, ⟨rA, rn, rc⟩⟩ := x
      simp only at HD hx1 hx2 hx3 hx4 hx5 hx6 hx7 hx8 hx9 hx10 hx11 hx12
      have hiz : (i : Int) < (n : Int) := by omega
      have hi6 : (i : Int) < 100 := by omega
      go_wp2_with (go_at_call 8; (with_reducible refine HD.out.mono ?_); rintro e w3 ⟨rfl, hS3⟩; have H3 := Lib.hid hS3; clear hS3)
      go_roundg (100 - (i + 1))
      case measure => omega
      case rel => exact ⟨i + 1, by simp, by omega, by omega, by omega, H3⟩
    · have hgo2 : (i = n ∧ ¬ (i : Int) < (n : Int)) ∨ ((100 : Int) < (n : Int) ∧ i = 100) := by omega
      clear hgo
      have hsz : Hid (p ≤ wr.heap.size) := by obtain ⟨_, _, _, _, _, _, _, h⟩ := hS.out; exact Lib.hid h.sz
      rcases hgo2 with ⟨rfl, hgo2⟩ | ⟨hgo2, rfl⟩
      all_goals
        go_wp2_with (go_at_call 9; refine (known11_any _).mono ?_; rintro e w8 ⟨rfl, hB8⟩)
        go_ret
        exact ⟨rfl, by rw [HP.out]; exact hB.out.trans (hB8.mono hsz.out)⟩
end Go.Proofs.Ytpihgikcgkipaaa
