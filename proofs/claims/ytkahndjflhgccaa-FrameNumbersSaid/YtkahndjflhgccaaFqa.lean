/-
  Numbers that are small, by the document's own answer (narthexref4.small).
-/
import Derived.Test.YtkahndjflhgccaaMe
import Derived.Test.YtkahndjflhgccaaMf
namespace Go.Proofs.Ytkahndjflhgccaa
set_option linter.unusedVariables false
set_option linter.unusedSimpArgs false
open Go.RowKit
def smL (xs : List Int) : Bool := xs.all fun x => decide (x ≤ 4611686018427387903)
theorem smL_drop (xs : List Int) (k : Nat) (x : Int) (h : xs[k]? = some x) : smL (xs.drop k) = (decide (x ≤ 4611686018427387903) && smL (xs.drop (k + 1))) := by
  obtain ⟨hk, e⟩ := List.getElem?_eq_some_iff.1 h
  rw [List.drop_eq_getElem_cons hk, e]
  rfl
set_option maxRecDepth 100000 in
theorem small_l_any (P : Nat → Prop) (A : Option Addr) (n c : Nat) (xs : List Int) (w : World) (hu : UsP w P A n xs) (hn : n ≤ 1000) (hnc : n ≤ c) :
    Calls Try.prog 34 #[.slice A n c] w fun e w' => e = .returned (.bool (smL xs)) ∧ w = w' := by
  obtain ⟨hl, hb, hc⟩ := hu
  have HL := Lib.hid hl
  have HC := Lib.hid hc
  have HX := Lib.hid (fun k x h => smL_drop xs k x h)
  clear hl hc
  go_enter Try.func34, Try.ntmps34
  go_wp2_with fail
  go_loop [3] (fun i => ∃ k : Nat, k ≤ n ∧ i = .int .i64 k ∧ Hid (smL xs = smL (xs.drop k))) (fun i => n - (intOf i).toNat)
  case atStart => exact ⟨0, Nat.zero_le _, rfl, Lib.hid (by simp)⟩
  case round =>
    obtain ⟨k, hk, rfl, hst⟩ := hrel
    by_cases hlt : k < n
    · obtain ⟨b, off, rfl, hbl, _, hcell⟩ := HC.out (by omega)
      obtain ⟨x, hx⟩ : ∃ x, xs[k]? = some x := ⟨_, List.getElem?_eq_getElem (by rw [HL.out]; exact hlt)⟩
      have c1 := hcell k x hx
      have hxb := hb x (List.mem_of_getElem? hx)
      have hd := HX.out k x hx
      have HE := Lib.hid (hst.out.trans hd)
      clear hcell hx hd hst
      obtain ⟨x0, x1⟩ := hxb
      rcases Int.lt_or_le 4611686018427387903 x with h | h
      · have HF : Hid (smL xs = false) := Lib.hid (by rw [HE.out]; simp; omega)
        go_wp2_with fail
        go_ret
        exact ⟨by rw [HF.out]; rfl, rfl⟩
      · have HF : Hid (smL xs = smL (xs.drop (k + 1))) := Lib.hid (by rw [HE.out]; simp [h])
        go_wp2_with fail
        go_round
        case rel => exact ⟨k + 1, by omega, by go_num, HF⟩
        case measure => simp [intOf]; omega
    · obtain rfl : k = n := by omega
      have HF : Hid (smL xs = true) := Lib.hid (by rw [hst.out, List.drop_eq_nil_of_le (by rw [HL.out]; exact Nat.le_refl _)]; rfl)
      clear hst
      go_wp2_with fail
      go_ret
      exact ⟨by rw [HF.out]; rfl, rfl⟩
end Go.Proofs.Ytkahndjflhgccaa
