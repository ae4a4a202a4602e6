/-
  The document's own Two and Text (narthexref2): what they write behind whatever was written. Chapter 2's runs: the closed call 'known' of the statements returns true.
-/
import Derived.Test.YtijpfdjmfnokkaaRRdr3
import Derived.Test.YtijpfdjmfnokkaaWtr
import Derived.Test.YtijpfdjmfnokkaaRefPut
namespace Go.Proofs.Ytijpfdjmfnokkaa
set_option linter.unusedVariables false
open Go.RowKit
theorem rtwo2_any (A : Option Addr) (n c : Nat) (bs : List Int) (x : Int) (w : World) (hr : Rd w w.heap.size A n bs) (hl : n ≤ 100000000000000) (h0 : 0 ≤ x) (h1 : x < 65536) :
    Calls Try.prog 23 #[.slice A n c, .int .u16 x] w fun e w' => ∃ v, e = .returned v ∧ Own w' w.heap.size 5 v (bs ++ twoB x) ∧ Below w.heap.size w w' := by
  obtain ⟨i0, hi, hz0, hz1, hz2⟩ := info_parts u8_info
  have e1 : IntKind.u8.wrap (x / 256) = x / 256 := by rw [IntKind.wrap_u8]; omega
  have e2 : IntKind.u8.wrap x = x % 256 := by rw [IntKind.wrap_u8]
  have hby : Byt [x / 256, x % 256] := fun y hy => by simp at hy; omega
  have hlen := hr.1
  go_enter Try.func23, Try.ntmps23
  go_wp2_with (first
    | (at_builtin; refine wpList_append_rd rfl (.tmp 5) (.tmp 6) 23 rfl w.heap.size 5 i0 Try.underlying23 hi hz0 hz1 hz2 _ [] rfl (Own.of_block (n := 0) (cap := 0) Byt.nil rfl (heap_alloc_new w _) (Nat.le_refl _) (Nat.le_refl _) (Nat.zero_le _) rfl rfl) _ A n c bs rfl (hr.alloc (Nat.le_refl _) _) (by simp; omega) w ((Below.refl _ _).alloc (Nat.le_refl _) _) (by simp) ?_; intro v2 w2 hown2 hb2 hgr2; have hs2 := hb2.size; have HO := Lib.hid (hown2.cast (List.nil_append _)); clear hown2 hgr2)
    | (at_builtin; refine wpList_append_rd rfl (.tmp 7) (.tmp 13) 23 rfl w.heap.size 5 i0 Try.underlying23 hi hz0 hz1 hz2 _ bs rfl (HO.out.alloc _) _ _ 2 2 [x / 256, x % 256] rfl (Rd.lit w2 5 _ hby _ rfl) (by omega) w (hb2.alloc hs2 _) (by simp; omega) ?_; intro v3 w3 hown3 hb3 hgr3))
  go_ret
  exact ⟨_, rfl, hown3, hb3⟩
theorem rtext2_any (A : Option Addr) (n c : Nat) (bs : List Int) (A' : Option Addr) (n' c' : Nat) (xs : List Int) (w : World) (hr : Rd w w.heap.size A n bs) (hr' : Rd w w.heap.size A' n' xs) (hl : n ≤ 10000000000000) (hl' : n' ≤ 10000000000000) :
    Calls Try.prog 28 #[.slice A n c, .slice A' n' c'] w fun e w' => ∃ v, e = .returned v ∧ Own w' w.heap.size 5 v (bs ++ textB xs) ∧ Below w.heap.size w w' := by
  obtain ⟨i0, hi, hz0, hz1, hz2⟩ := info_parts u8_info
  have e0 := Lib.hid (show (n' : Int) = (xs.length : Int) by rw [hr'.1])
  have e1 := Lib.hid (show bs ++ putS (n' : Int) ++ xs = bs ++ textB xs by unfold textB; rw [e0.out, List.append_assoc])
  have hpl : (bs ++ putS (n' : Int)).length ≤ n + 8 := by rw [List.length_append, hr.1, putS_len]; have := size_le (n' : Int); omega
  go_enter Try.func28, Try.ntmps28
  go_wp2_with fail
  refine (rput_any A n c bs n' w hr (by omega) (by omega) (by omega)).mono ?_
  rintro e w1 ⟨v1, rfl, ho1, hb1⟩
  have hs1 := hb1.size
  go_wp2_with (at_builtin; refine wpList_append_rd rfl (.tmp 9) (.tmp 10) 23 rfl w.heap.size 5 i0 Try.underlying23 hi hz0 hz1 hz2 _ _ rfl ho1 _ A' n' c' xs rfl (hr'.below hb1) (by omega) w hb1 hs1 ?_; intro v3 w3 hown3 hb3 hgr3)
  go_ret
  exact ⟨_, rfl, e1.out ▸ hown3, hb3⟩
theorem twoB_258 : twoB 258 = [1, 2] := by decide
theorem text_12 : strOfNums [1, 2] = ⟨#[1, 2]⟩ := rfl
set_option maxRecDepth 100000 in
theorem known_any (w : World) : Calls Try.prog 9 #[] w fun e w' => e = .returned (.bool true) ∧ Below w.heap.size w w' := by
  go_enter Try.func9, Try.ntmps9
  go_wp2_with fail
  refine (new_any w).mono ?_
  rintro e w1 ⟨rfl, hw1, hlt, hb1⟩
  go_wp2_with fail
  refine (of_any _ 1 _ [1] _ ((Rd.byte w1 5 _ rfl 1 (by omega)).more (by simp)) (by omega) (by simp)).mono ?_
  rintro e w2 ⟨p, rfl, hp, hr2, hb2⟩
  simp at hp hb2
  have hb2' : Below w1.heap.size w1 w2 := ((Below.refl _ _).alloc (Nat.le_refl _) _).trans (hb2.mono (by omega))
  have hw2 := hw1.kept (Kept.of_below hb2' (fun _ => False)) (fun h => h) (fun _ _ h => h)
  have hs2 := hb2'.size
  clear hw1 hb2
  go_wp2_with fail
  refine (wtwo_any w.heap.size w.heap.size _ _ [] 258 w2 hw2 (by simp) (by omega) (by omega) (by omega)).mono ?_
  rintro e w3 ⟨v3, rfl, hw3, hv3, hk3⟩
  have hr3 := hr2.kept hk3 (fun h => by rcases h with h | h; omega; simp [Value.ownBlock] at h) (fun b hb h => by have hb1 := hb.1; simp at hb1; rcases h with h | h; omega; simp [Value.ownBlock] at h)
  have hs3 := hk3.size
  have hb3 : Below w.heap.size w w3 := hk3.below (hb1.trans (hb2'.mono (by omega))) (by omega) (fun j hj => by rcases hj with h | h; omega; simp [Value.ownBlock] at h)
  clear hw2 hr2 hk3 hv3
  rw [twoB_258] at hw3
  go_wp2_with fail
  refine (wdone_any w.heap.size w.heap.size _ v3 _ w3 hw3 (by simp)).mono ?_
  rintro e w4 ⟨v4, rfl, hv4, hb4⟩
  obtain ⟨A, c, rfl, h1, h2, h3⟩ := hv4.open_n 2 rfl
  have hs4 := hb4.size
  have t1 := run_text (P := Try.prog) (c := c) h3 23 5 9 Try.underlying23 Try.underlying5 Try.underlying9
  rw [show [] ++ [1, 2] = [1, (2 : Int)] from rfl, text_12] at t1
  have hw4 := hw3.kept (Kept.of_below hb4 (fun _ => False)) (fun h => h) (fun _ _ h => h)
  have hr4 := hr3.kept (Kept.of_below hb4 (fun _ => False)) (fun h => h) (fun _ _ h => h)
  have e2 := Lib.hid (show ((([] : List Int) ++ [1, 2]).length : Int) = 2 from rfl)
  have e3 := Lib.hid (show twoR ([1], false) = 0 by decide)
  have e4 := Lib.hid (show takeN ([1], false) 2 = ([], true) by decide)
  clear hw3 hr3 hv4
  go_wp2_with fail
  refine (wlen_any _ _ _ _ _ w4 hw4).mono ?_
  rintro e w' ⟨rfl, rfl⟩
  rw [e2.out]
  go_wp2_with fail
  refine (two_any p _ _ _ w4 hr4 (fun b hb => by omega)).mono ?_
  rintro e w5 ⟨rfl, hr5, hk5⟩
  rw [e3.out]
  rw [e4.out] at hr5
  have hs5 := hk5.size
  go_wp2_with fail
  refine (bad_any p _ _ _ w5 hr5).mono ?_
  rintro e w' ⟨rfl, rfl⟩
  go_wp2_with fail
  refine (left_any p _ _ _ w5 hr5).mono ?_
  rintro e w' ⟨rfl, rfl⟩
  go_wp2_with fail
  go_ret
  exact ⟨rfl, hk5.below (hb3.trans (hb4.mono (by omega))) (by omega) (fun j hj => by omega)⟩
end Go.Proofs.Ytijpfdjmfnokkaa
