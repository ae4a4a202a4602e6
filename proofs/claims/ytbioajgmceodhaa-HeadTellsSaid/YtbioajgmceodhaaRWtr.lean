/-
  The document's own Two and Text (narthexref2): what they write behind whatever was written. Chapter 2's runs: the closed call 'known' of the statements returns true.
-/
import Derived.Test.YtbioajgmceodhaaRRdr3
import Derived.Test.YtbioajgmceodhaaWtr
import Derived.Test.YtbioajgmceodhaaRefPut
namespace Go.Proofs.Ytbioajgmceodhaa
set_option linter.unusedVariables false
open Go.RowKit
set_option maxRecDepth 100000 in
theorem rtwo2_any (A : Option Addr) (n c : Nat) (bs : List Int) (x : Int) (w : World) (hr : Rd w w.heap.size A n bs) (hl : n ≤ 100000000000000) (h0 : 0 ≤ x) (h1 : x < 65536) :
    Calls Try.prog 18 #[.slice A n c, .int .u16 x] w fun e w' => ∃ v, e = .returned v ∧ Own w' w.heap.size 5 v (bs ++ twoB x) ∧ Below w.heap.size w w' := by
  obtain ⟨i0, hi, hz0, hz1, hz2⟩ := info_parts u8_info
  have e1 : IntKind.u8.wrap (x / 256) = x / 256 := by rw [IntKind.wrap_u8]; omega
  have e2 : IntKind.u8.wrap x = x % 256 := by rw [IntKind.wrap_u8]
  have hby : Byt [x / 256, x % 256] := fun y hy => by simp at hy; omega
  have hlen := hr.1
  go_enter Try.func18, Try.ntmps18
  go_wp2_with (first
    | (at_builtin; refine wpList_append_rd rfl (.tmp 5) (.tmp 6) 22 rfl w.heap.size 5 i0 Try.underlying22 hi hz0 hz1 hz2 _ [] rfl (Own.of_block (n := 0) (cap := 0) Byt.nil rfl (heap_alloc_new w _) (Nat.le_refl _) (Nat.le_refl _) (Nat.zero_le _) rfl rfl) _ A n c bs rfl (hr.alloc (Nat.le_refl _) _) (by simp; omega) w ((Below.refl _ _).alloc (Nat.le_refl _) _) (by simp) ?_; intro v2 w2 hown2 hb2 hgr2; have hs2 := hb2.size; have HO := Lib.hid (hown2.cast (List.nil_append _)); clear hown2 hgr2)
    | (at_builtin; refine wpList_append_rd rfl (.tmp 7) (.tmp 13) 22 rfl w.heap.size 5 i0 Try.underlying22 hi hz0 hz1 hz2 _ bs rfl (HO.out.alloc _) _ _ 2 2 [x / 256, x % 256] rfl (Rd.lit w2 5 _ hby _ rfl) (by omega) w (hb2.alloc hs2 _) (by simp; omega) ?_; intro v3 w3 hown3 hb3 hgr3))
  go_ret
  exact ⟨_, rfl, hown3, hb3⟩
set_option maxRecDepth 100000 in
theorem rtext2_any (A : Option Addr) (n c : Nat) (bs : List Int) (A' : Option Addr) (n' c' : Nat) (xs : List Int) (w : World) (hr : Rd w w.heap.size A n bs) (hr' : Rd w w.heap.size A' n' xs) (hl : n ≤ 10000000000000) (hl' : n' ≤ 10000000000000) :
    Calls Try.prog 17 #[.slice A n c, .slice A' n' c'] w fun e w' => ∃ v, e = .returned v ∧ Own w' w.heap.size 5 v (bs ++ textB xs) ∧ Below w.heap.size w w' := by
  obtain ⟨i0, hi, hz0, hz1, hz2⟩ := info_parts u8_info
  have e0 := Lib.hid (show (n' : Int) = (xs.length : Int) by rw [hr'.1])
  have e1 := Lib.hid (show bs ++ putS (n' : Int) ++ xs = bs ++ textB xs by unfold textB; rw [e0.out, List.append_assoc])
  have hpl : (bs ++ putS (n' : Int)).length ≤ n + 8 := by rw [List.length_append, hr.1, putS_len]; have := size_le (n' : Int); omega
  go_enter Try.func17, Try.ntmps17
  go_wp2_with fail
  refine (rput_any A n c bs n' w hr (by omega) (by omega) (by omega)).mono ?_
  rintro e w1 ⟨v1, rfl, ho1, hb1⟩
  have hs1 := hb1.size
  go_wp2_with (at_builtin; refine wpList_append_rd rfl (.tmp 9) (.tmp 10) 22 rfl w.heap.size 5 i0 Try.underlying22 hi hz0 hz1 hz2 _ _ rfl ho1 _ A' n' c' xs rfl (hr'.below hb1) (by omega) w hb1 hs1 ?_; intro v3 w3 hown3 hb3 hgr3)
  go_ret
  exact ⟨_, rfl, e1.out ▸ hown3, hb3⟩
set_option maxRecDepth 100000 in
theorem twoB_258 : twoB 258 = [1, 2] := by decide
set_option maxRecDepth 100000 in
theorem text_12 : strOfNums [1, 2] = ⟨#[1, 2]⟩ := rfl
end Go.Proofs.Ytbioajgmceodhaa
