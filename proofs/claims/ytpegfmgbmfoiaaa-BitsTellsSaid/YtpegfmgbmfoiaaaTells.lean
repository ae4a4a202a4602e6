/-
  BitsTells returns true at every input: its walk.
-/
import Derived.Test.YtpegfmgbmfoiaaaVars
import Derived.Test.YtpegfmgbmfoiaaaRoom
import Derived.Test.YtpegfmgbmfoiaaaInRow
import Derived.Test.YtpegfmgbmfoiaaaKnown
import Derived.WalkSmall
namespace Go.Proofs.Ytpegfmgbmfoiaaa
set_option linter.unusedVariables false
open Go.RowKit
set_option maxRecDepth 100000 in
set_option maxHeartbeats 4000000 in
theorem tells_walk (a k : Int) (A : Option Addr) (n c : Nat) (bs : List Int) (w : World) (ha0 : 0 ≤ a) (ha1 : a < 18446744073709551616)
    (hk0 : -9223372036854775808 ≤ k) (hk1 : k ≤ 9223372036854775807) (hin : InRow w A n c bs) :
    Calls Try.prog 4 #[.int .u64 a, .int .i64 k, .slice A n c] w fun e w' => e = .returned (.bool true) ∧ Below w.heap.size w w' := by
  obtain ⟨hr, hnc, hcm, hA0⟩ := hin
  have hA : 12 < n → A ≠ none := fun h e => by have := hA0 e; omega
  clear hA0
  have hcut := hr.cut (m := min n 12) (Nat.min_le_left _ _)
  obtain ⟨hx0, hx1⟩ := smallS_bd a ha0
  obtain ⟨x, hx⟩ : ∃ x, smallS a = x := ⟨_, rfl⟩
  rw [hx] at hx0 hx1
  have SX := Lib.hid hx; clear hx
  obtain ⟨t, ht⟩ : ∃ t, withinS k (-70) 70 = t := ⟨_, rfl⟩
  have htb := withinS_bd k (-70) 70 (by omega)
  rw [ht] at htb
  have WT := Lib.hid ht; clear ht
  obtain ⟨ht0, ht1⟩ := htb
  obtain ⟨l, hl⟩ : ∃ l, bs.take (min n 12) = l := ⟨_, rfl⟩
  rw [hl] at hcut
  clear hl
  have hm12 : min n 12 ≤ 12 := Nat.min_le_right _ _
  have hmn : min n 12 ≤ n := Nat.min_le_left _ _
  obtain ⟨m, hm⟩ : ∃ m, min n 12 = m := ⟨_, rfl⟩
  rw [hm] at hcut hm12 hmn
  have HM := Lib.hid hm; clear hm
  have hkeep : ∀ w', Below w.heap.size w w' → Rd w' w.heap.size A m l := fun w' h => hcut.below h
  have HK := Lib.hid hkeep; clear hkeep
  go_enter Try.func4, Try.ntmps4
  go_wp2_with fail
  refine (cut_any A n c 12 w hnc hcm (by omega) hA).mono ?_
  rintro e w' ⟨rfl, rfl⟩
  rw [HM.out]
  go_wp2_with fail
  refine (roomy_any A m c l 165 w hcut (by omega) (by omega) (by omega)).mono ?_
  rintro e w1 ⟨v1, rfl, ho1, k1⟩
  have hL := hcut.1
  obtain ⟨Af, cf, rfl, hf1, hf2, hrf⟩ := ho1.open_n (m + 80) (by rw [List.length_append, hL]; simp)
  obtain ⟨g, off, rfl, hg, hcell⟩ := hrf.2.2 (by omega)
  have hf3 := hf2
  unfold maxLen at hf3
  clear hcell ho1
  have hrc : Rd w1 w1.heap.size (some ⟨g, off, none⟩) m l := by
    have := hrf.cut (m := m) (by omega)
    rw [List.take_append_of_le_length (by omega), List.take_of_length_le (by omega)] at this
    exact this
  clear hL
  go_wp2_with fail
  refine (vars_any a w1 ha0).mono ?_
  rintro e w2 ⟨rfl, k2⟩
  go_wp2_with fail
  refine (small_any a w2 ha0 ha1).mono ?_
  rintro e w3 ⟨rfl, k3⟩
  rw [SX.out]
  go_wp2_with fail
  refine (vars_any x w3 hx0).mono ?_
  rintro e w4 ⟨rfl, k4⟩
  go_wp2_with fail
  refine (turns_any a k w4 ha0 ha1 hk0 hk1).mono ?_
  rintro e w5 ⟨rfl, k5⟩
  go_wp2_with fail
  refine (within_any k (-70) 70 w5 (by omega) (by omega) (by omega) (by omega) (by omega)).mono ?_
  rintro e w' ⟨rfl, rfl⟩
  rw [WT.out]
  go_wp2_with fail
  refine (turns_any a t w5 ha0 ha1 (by omega) (by omega)).mono ?_
  rintro e w6 ⟨rfl, k6⟩
  have q6 : Below w1.heap.size w1 w6 := k2.trans ((k3.trans ((k4.trans ((k5.trans (k6.mono k5.size)).mono k4.size)).mono k3.size)).mono k2.size)
  have q0 : Below w.heap.size w w6 := k1.trans (q6.mono k1.size)
  go_wp2_with fail
  refine (cut_any A n c 12 w6 hnc hcm (by omega) hA).mono ?_
  rintro e w' ⟨rfl, rfl⟩
  rw [HM.out]
  go_wp2_with fail
  refine (gets_any (some ⟨g, off, none⟩) m cf l w6 _ (hrc.below q6) (by omega) hf2).mono ?_
  rintro e w' ⟨rfl, rfl⟩
  go_wp2_with fail
  refine (cut_any A n c 12 w6 hnc hcm (by omega) hA).mono ?_
  rintro e w' ⟨rfl, rfl⟩
  rw [HM.out]
  go_wp2_with fail
  refine (intact_any (some ⟨g, off, none⟩) A m cf c l 165 w6 _ _ (hrf.below q6) (HK.out w6 q0) hf1 hf2 (by omega)).mono ?_
  rintro e w7 ⟨rfl, d, rfl⟩
  go_wp2_with fail
  refine (known_any _).mono ?_
  rintro e w8 ⟨rfl, k8⟩
  go_wp2_with fail
  go_ret
  exact ⟨rfl, (below_drewN q0 d).trans (k8.mono q0.size)⟩
theorem tells_law (a k : Int) (A : Option Addr) (n c : Nat) (bs : List Int) (w : World) (w0 : (Lit.int .u64 a).wf = true) (w1 : (Lit.int .i64 k).wf = true) (w2 : InRow w A n c bs) :
    Calls Try.prog 4 #[.int .u64 a, .int .i64 k, .slice A n c] w fun e w' => e = .returned (.bool true) ∧ Below w.heap.size w w' := by
  have h0 := bounds_u64 w0
  have h1 := bounds_i64 w1
  exact tells_walk a k A n c bs w h0.1 (by omega) h1.1 h1.2 w2
end Go.Proofs.Ytpegfmgbmfoiaaa
