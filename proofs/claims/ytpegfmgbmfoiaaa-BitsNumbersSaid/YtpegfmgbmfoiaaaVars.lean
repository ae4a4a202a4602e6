/-
  The statements' own 'vars' returns true: PutVar and Size of package bits answer as the document's own Put and Size do, at every number.
-/
import Derived.Test.YtpegfmgbmfoiaaaTurns
import Derived.Deep.RegionWith
import Derived.Deep.RegionHeld3
namespace Go.Proofs.Ytpegfmgbmfoiaaa
set_option linter.unusedVariables false
open Go.RowKit
theorem pre_text : strOfNums [1, 2] = ⟨#[1, 2]⟩ := rfl
set_option maxRecDepth 100000 in
set_option maxHeartbeats 2000000 in
theorem vars_yes (x : Int) (w : World) (h0 : 0 ≤ x) (h1 : x ≤ 4611686018427387903) :
    Calls Try.prog 8 #[.int .u64 x] w fun e w' => e = .returned (.bool true) ∧ Below w.heap.size w w' := by
  have hsl := size_le x
  obtain ⟨s, hs⟩ : ∃ s, sizeS x = s := ⟨_, rfl⟩
  have S := Lib.hid hs
  rw [hs] at hsl
  clear hs
  go_enter Try.func8, Try.ntmps8
  go_wp2_with fail
  have r0 := Rd.lit w 5 [1, 2] (fun y hy => by simp at hy; omega) #[.int .u8 1, .int .u8 2] rfl
  refine (putvar_yes (some ⟨w.heap.size, 0, none⟩) 2 2 [1, 2] x _ (by simpa using r0) (by omega) h0 h1).mono ?_
  rintro e w1 ⟨v, rfl, hown, hb1⟩
  obtain ⟨A, c, rfl, hc1, hc2, hr⟩ := hown.open_n (2 + s) (by rw [List.length_append, putS_len, S.out]; rfl)
  go_wp2_with (first
    | (go_at_call 18; refine (size_any _ _).mono ?_; rintro e w' ⟨rfl, rfl⟩; rw [S.out])
    | (go_at_call 26; refine (rsize_any _ _).mono ?_; rintro e w' ⟨rfl, rfl⟩; rw [S.out]))
  have rp : Rd w1 w1.heap.size (some ⟨w.heap.size, 0, none⟩) 2 [1, 2] := ((show Rd _ _ _ 2 [1, 2] from r0).below (hb1.mono (by simp))).more (by have := hb1.size; simp at this; omega)
  have hw1 : w.heap.size + 1 ≤ w1.heap.size := by have := hb1.size; simpa using this
  have hbw : Below w.heap.size w w1 := ((Below.refl _ _).alloc (Nat.le_refl _) _).trans (hb1.mono (by simp))
  clear r0 hb1 hown
  obtain ⟨l, hl⟩ : ∃ l, [1, 2] ++ putS x = l := ⟨_, rfl⟩
  have LL := Lib.hid hl
  rw [hl] at hr
  clear hl
  have ht1 := run_text (P := Try.prog) (c := c) hr.drew 28 5 9 Try.underlying28 Try.underlying5 Try.underlying9
  obtain ⟨tx, htx⟩ : ∃ tx, strOfNums l = tx := ⟨_, rfl⟩
  rw [htx] at ht1
  have TX := Lib.hid htx
  clear htx
  go_region_with ((go_at_call 27; refine (rput_any (some ⟨w.heap.size, 0, none⟩) 2 2 [1, 2] x w1.drew rp.drew (by omega) h0 h1).mono ?_; rintro e w3 ⟨v3, rfl, hown3, hb3⟩; obtain ⟨A3, c3, rfl, hd1, hd2, hr3⟩ := hown3.open_n (2 + s) (by rw [List.length_append, putS_len, S.out]; rfl); rw [LL.out] at hr3; have ht3 := run_text (P := Try.prog) (c := c3) hr3 28 5 9 Try.underlying28 Try.underlying5 Try.underlying9; have ht4 := run_text (P := Try.prog) (c := c) (hr.drew.below hb3) 28 5 9 Try.underlying28 Try.underlying5 Try.underlying9; rw [TX.out] at ht3 ht4))
  all_goals
    go_wp2
    go_ret
    exact ⟨rfl, hbw.drew.trans (hb3.mono (show w.heap.size ≤ w1.heap.size by omega))⟩
set_option maxRecDepth 100000 in
set_option maxHeartbeats 2000000 in
theorem vars_no (x : Int) (w : World) (h1 : 4611686018427387903 < x) :
    Calls Try.prog 8 #[.int .u64 x] w fun e w' => e = .returned (.bool true) ∧ Below w.heap.size w w' := by
  have S := Lib.hid (size_big x h1)
  go_enter Try.func8, Try.ntmps8
  go_wp2_with fail
  have r0 := Rd.lit w 5 [1, 2] (fun y hy => by simp at hy; omega) #[.int .u8 1, .int .u8 2] rfl
  refine (putvar_no (some ⟨w.heap.size, 0, none⟩) 2 2 [1, 2] x _ (by simpa using r0) (by omega) h1).mono ?_
  rintro e w1 ⟨v, rfl, hown, hb1⟩
  obtain ⟨A, c, rfl, hc1, hc2, hr⟩ := hown.open_n 2 rfl
  have rp : Rd w1 w1.heap.size (some ⟨w.heap.size, 0, none⟩) 2 [1, 2] := ((show Rd _ _ _ 2 [1, 2] from r0).below (hb1.mono (by simp))).more (by have := hb1.size; simp at this; omega)
  have hbw : Below w.heap.size w w1 := ((Below.refl _ _).alloc (Nat.le_refl _) _).trans (hb1.mono (by simp))
  have ht1 := run_text (P := Try.prog) (c := c) hr 28 5 9 Try.underlying28 Try.underlying5 Try.underlying9
  have ht2 := run_text (P := Try.prog) (c := 2) rp 28 5 9 Try.underlying28 Try.underlying5 Try.underlying9
  obtain ⟨tx, htx⟩ : ∃ tx, strOfNums [1, 2] = tx := ⟨_, rfl⟩
  rw [htx] at ht1 ht2
  clear htx r0 hb1 hown hr rp
  go_wp2_with (first
    | (go_at_call 18; refine (size_any _ _).mono ?_; rintro e w' ⟨rfl, rfl⟩; rw [S.out])
    | (go_at_call 26; refine (rsize_any _ _).mono ?_; rintro e w' ⟨rfl, rfl⟩; rw [S.out]))
  go_ret
  exact ⟨rfl, hbw⟩
theorem vars_any (x : Int) (w : World) (h0 : 0 ≤ x) :
    Calls Try.prog 8 #[.int .u64 x] w fun e w' => e = .returned (.bool true) ∧ Below w.heap.size w w' := by
  rcases Int.lt_or_le 4611686018427387903 x with h | h
  · exact vars_no x w h
  · exact vars_yes x w h0 h
end Go.Proofs.Ytpegfmgbmfoiaaa
