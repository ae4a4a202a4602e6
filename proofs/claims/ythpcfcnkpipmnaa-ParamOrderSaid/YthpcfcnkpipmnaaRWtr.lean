/-
  The document's own Two and Text (narthexref2): what they write behind whatever was written. Chapter 2's runs: the closed call 'known' of the statements returns true.
-/
import Derived.Test.YthpcfcnkpipmnaaRRdr3
import Derived.Test.YthpcfcnkpipmnaaWtr
import Derived.Test.YthpcfcnkpipmnaaRefPut
namespace Go.Proofs.Ythpcfcnkpipmnaa
set_option linter.unusedVariables false
open Go.RowKit
set_option maxRecDepth 100000 in
theorem rtext2_any (A : Option Addr) (n c : Nat) (bs : List Int) (A' : Option Addr) (n' c' : Nat) (xs : List Int) (w : World) (hr : Rd w w.heap.size A n bs) (hr' : Rd w w.heap.size A' n' xs) (hl : n ≤ 10000000000000) (hl' : n' ≤ 10000000000000) :
    Calls Try.prog 19 #[.slice A n c, .slice A' n' c'] w fun e w' => ∃ v, e = .returned v ∧ Own w' w.heap.size 5 v (bs ++ textB xs) ∧ Below w.heap.size w w' := by
  obtain ⟨i0, hi, hz0, hz1, hz2⟩ := info_parts u8_info
  have e0 := Lib.hid (show (n' : Int) = (xs.length : Int) by rw [hr'.1])
  have e1 := Lib.hid (show bs ++ putS (n' : Int) ++ xs = bs ++ textB xs by unfold textB; rw [e0.out, List.append_assoc])
  have hpl : (bs ++ putS (n' : Int)).length ≤ n + 8 := by rw [List.length_append, hr.1, putS_len]; have := size_le (n' : Int); omega
  go_enter Try.func19, Try.ntmps19
  go_wp2_with fail
  refine (rput_any A n c bs n' w hr (by omega) (by omega) (by omega)).mono ?_
  rintro e w1 ⟨v1, rfl, ho1, hb1⟩
  have hs1 := hb1.size
  go_wp2_with (at_builtin; refine wpList_append_rd rfl (.tmp 9) (.tmp 10) 29 rfl w.heap.size 5 i0 Try.underlying29 hi hz0 hz1 hz2 _ _ rfl ho1 _ A' n' c' xs rfl (hr'.below hb1) (by omega) w hb1 hs1 ?_; intro v3 w3 hown3 hb3 hgr3)
  go_ret
  exact ⟨_, rfl, e1.out ▸ hown3, hb3⟩
set_option maxRecDepth 100000 in
theorem twoB_258 : twoB 258 = [1, 2] := by decide
set_option maxRecDepth 100000 in
theorem text_12 : strOfNums [1, 2] = ⟨#[1, 2]⟩ := rfl
end Go.Proofs.Ythpcfcnkpipmnaa
