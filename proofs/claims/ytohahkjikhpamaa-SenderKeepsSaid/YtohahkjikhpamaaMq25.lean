/-
  The document's own reader (narthexref2) answers what package octet's does; Two and Text and Of of package octet.
-/
import Derived.Test.YtohahkjikhpamaaMq19
import Derived.Test.YtohahkjikhpamaaMq24
import Derived.Test.YtohahkjikhpamaaMq23
namespace Go.Proofs.Ytohahkjikhpamaa
section
set_option linter.unusedVariables false
open Go.RowKit
set_option maxRecDepth 100000 in
theorem Rdr.drewN {w : World} {p : Nat} {T : TypeId} {P : Nat → Prop} {s : St} (h : Rdr w p T P s) (n : Nat) : Rdr (w.drewN n) p T P s := h.kept ((Kept.refl (fun _ => False) w).drewN n) (fun h => h) (fun _ _ h => h)
end
section
set_option linter.unusedVariables false
open Go.RowKit
end
section
set_option linter.unusedVariables false
open Go.RowKit
end
section
set_option linter.unusedVariables false
open Go.RowKit
set_option maxRecDepth 100000 in
theorem rtext2_any (A : Option Addr) (n c : Nat) (bs : List Int) (A' : Option Addr) (n' c' : Nat) (xs : List Int) (w : World) (hr : Rd w w.heap.size A n bs) (hr' : Rd w w.heap.size A' n' xs) (hl : n ≤ 10000000000000) (hl' : n' ≤ 10000000000000) :
    Calls Try.prog 25 #[.slice A n c, .slice A' n' c'] w fun e w' => ∃ v, e = .returned v ∧ Own w' w.heap.size 5 v (bs ++ textB xs) ∧ Below w.heap.size w w' := by
  obtain ⟨i0, hi, hz0, hz1, hz2⟩ := info_parts u8_info
  have e0 := Lib.hid (show (n' : Int) = (xs.length : Int) by rw [hr'.1])
  have e1 := Lib.hid (show bs ++ putS (n' : Int) ++ xs = bs ++ textB xs by unfold textB; rw [e0.out, List.append_assoc])
  have hpl : (bs ++ putS (n' : Int)).length ≤ n + 8 := by rw [List.length_append, hr.1, putS_len]; have := size_le (n' : Int); omega
  go_enter Try.func25, Try.ntmps25
  go_wp2_with fail
  refine (rput_any A n c bs n' w hr (by omega) (by omega) (by omega)).mono ?_
  rintro e w1 ⟨v1, rfl, ho1, hb1⟩
  have hs1 := hb1.size
  go_wp2_with (at_builtin; refine wpList_append_rd rfl (.tmp 9) (.tmp 10) 26 rfl w.heap.size 5 i0 Try.underlying26 hi hz0 hz1 hz2 _ _ rfl ho1 _ A' n' c' xs rfl (hr'.below hb1) (by omega) w hb1 hs1 ?_; intro v3 w3 hown3 hb3 hgr3)
  go_ret
  exact ⟨_, rfl, e1.out ▸ hown3, hb3⟩
end
end Go.Proofs.Ytohahkjikhpamaa
