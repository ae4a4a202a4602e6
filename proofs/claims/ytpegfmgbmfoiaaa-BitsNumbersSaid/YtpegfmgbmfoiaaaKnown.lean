/-
  Chapter 1's own runs: the closed call 'known' of the statements returns true.
-/
import Derived.Test.YtpegfmgbmfoiaaaRefInts
import Derived.Test.YtpegfmgbmfoiaaaPut
namespace Go.Proofs.Ytpegfmgbmfoiaaa
set_option linter.unusedVariables false
open Go.RowKit
theorem known_bytes : putS 494878333 = [157, 127, 62, 125] := by decide
theorem known_text : strOfNums [157, 127, 62, 125] = ⟨#[157, 127, 62, 125]⟩ := rfl
theorem known_ext : extS 255 8 = -1 := by decide
theorem known_clamp : clampS 300 8 = 127 := by decide
set_option maxRecDepth 100000 in
theorem known_any (w : World) : Calls Try.prog 11 #[] w fun e w' => e = .returned (.bool true) ∧ Below w.heap.size w w' := by
  have r0 := Rd.none_ w w.heap.size none
  go_enter Try.func11, Try.ntmps11
  go_wp2_with fail
  refine (putvar_yes none 0 0 [] 494878333 w r0 (by omega) (by omega) (by omega)).mono ?_
  rintro e w1 ⟨v, rfl, hown, hb1⟩
  rw [known_bytes] at hown
  obtain ⟨A, c, rfl, hc1, hc2, hr⟩ := hown.open_n 4 rfl
  go_wp2_with fail
  refine (putvar_no none 0 0 [] 4611686018427387904 w1 (Rd.none_ _ _ _) (by omega) (by omega)).mono ?_
  rintro e w2 ⟨v2, rfl, hown2, hb2⟩
  have ht := run_text (P := Try.prog) (c := c) (hr.below hb2) 28 5 9 Try.underlying28 Try.underlying5 Try.underlying9
  rw [show [] ++ [157, 127, 62, 125] = [157, 127, 62, (125 : Int)] from rfl, known_text] at ht
  have e1 := known_ext
  have e2 := known_clamp
  go_wp2_with (first
    | (go_at_call 24; refine (ext_any _ _ _ (by omega) (by omega) (by omega) (by omega)).mono ?_; rintro e w' ⟨rfl, rfl⟩)
    | (go_at_call 23; refine (clamp_any _ _ _ (by omega) (by omega) (by omega) (by omega)).mono ?_; rintro e w' ⟨rfl, rfl⟩))
  go_ret
  exact ⟨rfl, (hb1.trans (hb2.mono hb1.size)).drew⟩
end Go.Proofs.Ytpegfmgbmfoiaaa
