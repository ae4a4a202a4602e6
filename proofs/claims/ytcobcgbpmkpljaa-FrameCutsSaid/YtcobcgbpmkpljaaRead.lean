/-
  frame.read, whatever stands there.
-/
import Derived.Test.YtcobcgbpmkpljaaReadA
import Derived.Test.YtcobcgbpmkpljaaReadB
namespace Go.Proofs.Ytcobcgbpmkpljaa
set_option linter.unusedVariables false
set_option linter.unusedSimpArgs false
open Go.RowKit
set_option maxRecDepth 100000 in
theorem read_big (p : Nat) (T : TypeId) (P : Nat → Prop) (s0 : St) (w : World) (hr : Rdr w p T P s0) (hP : ∀ b, P b → b ≠ p) (hk : 30 < varR s0) :
    Calls Try.prog 43 #[.pointer (some ⟨p, 0, none⟩)] w (ReadPost w p T P s0) := by
  have hpl : p < w.heap.size := by obtain ⟨_, _, _, h, _⟩ := hr; exact h.lt
  have hrA : Rdr (w.alloc (.cells (frL (FN.zero 0) .nil .nil).toArray 31)) p T P s0 := hr.kept ((Kept.refl (fun _ => False) w).alloc _) (fun h => h) (fun _ _ h => h)
  have hA2 : At (w.alloc (.cells (frL (FN.zero 0) .nil .nil).toArray 31)) w.heap.size 31 (frL (FN.zero 0) .nil .nil) := At.new w _ _
  have hK0 : Kept (· = p) w (w.alloc (.cells (frL (FN.zero 0) .nil .nil).toArray 31)) := (Kept.refl _ w).alloc _
  have hb := hr.byt2
  obtain ⟨x, hx⟩ : ∃ x, varR s0 = x := ⟨_, rfl⟩
  have hno : readO s0 = none := by unfold readO; rw [if_pos hk]
  rw [hx] at hb hk
  have HX := Lib.hid hx
  have HNO := Lib.hid hno
  have hd : decide (30 < x) = true := by simpa using hk
  clear hx hno
  go_enter Try.func43, Try.ntmps43
  go_wp2_with fail
  refine (var_any p T P s0 _ hrA hP).mono ?_
  rintro e w1 ⟨rfl, hr1, hk1⟩
  rw [HX.out]
  have hA := hA2.kept hk1 (by omega)
  have hK := hK0.trans hk1
  clear hA2 hK0 hrA hk1
  go_wp2_with (first | ((with_reducible refine at_st (x := .tmp 2) ?_); refine st_at _ _ (frL (FN.zero 0) .nil .nil) (by rfl) (by rfl) hA (by rfl) (by rfl) (by rfl) ?_; intro w9 hA9 hk9) | fail)
  refine bodyPost_ret (results_cell_tmp 2 3 31 (by rfl) _ 31 _ _ _ (by rfl) (by rfl) hA9 Try.underlying31 rfl fr_info) rfl ?_
  exact ReadPost.no HNO.out (hK.trans' hk9 (fun j hj => .inr (by omega)))
theorem read_any (p : Nat) (T : TypeId) (P : Nat → Prop) (s0 : St) (w : World) (hr : Rdr w p T P s0) (hP : ∀ b, P b → b ≠ p) (hl : s0.1.length ≤ 100000000000000) :
    Calls Try.prog 43 #[.pointer (some ⟨p, 0, none⟩)] w (ReadPost w p T P s0) := by
  rcases Int.lt_or_le 30 (varR s0) with h | h
  · exact read_big p T P s0 w hr hP h
  · have hb := hr.byt2
    have hc : varR s0 = 0 ∨ varR s0 = 1 ∨ varR s0 = 2 ∨ varR s0 = 3 ∨ varR s0 = 4 ∨ varR s0 = 5 ∨ varR s0 = 6 ∨ varR s0 = 7 ∨ varR s0 = 8 ∨ varR s0 = 9 ∨ varR s0 = 10 ∨ varR s0 = 11 ∨ varR s0 = 12 ∨ varR s0 = 13 ∨ varR s0 = 14 ∨ varR s0 = 15 ∨ varR s0 = 16 ∨ varR s0 = 17 ∨ varR s0 = 18 ∨ varR s0 = 19 ∨ varR s0 = 20 ∨ varR s0 = 21 ∨ varR s0 = 22 ∨ varR s0 = 23 ∨ varR s0 = 24 ∨ varR s0 = 25 ∨ varR s0 = 26 ∨ varR s0 = 27 ∨ varR s0 = 28 ∨ varR s0 = 29 ∨ varR s0 = 30 := by omega
    rcases hc with h | h | h | h | h | h | h | h | h | h | h | h | h | h | h | h | h | h | h | h | h | h | h | h | h | h | h | h | h | h | h
    · exact read_0 p T P s0 w hr hP hl h
    · exact read_1 p T P s0 w hr hP hl h
    · exact read_2 p T P s0 w hr hP hl h
    · exact read_3 p T P s0 w hr hP hl h
    · exact read_4 p T P s0 w hr hP hl h
    · exact read_5 p T P s0 w hr hP hl h
    · exact read_6 p T P s0 w hr hP hl h
    · exact read_7 p T P s0 w hr hP hl h
    · exact read_8 p T P s0 w hr hP hl h
    · exact read_9 p T P s0 w hr hP hl h
    · exact read_10 p T P s0 w hr hP hl h
    · exact read_11 p T P s0 w hr hP hl h
    · exact read_12 p T P s0 w hr hP hl h
    · exact read_13 p T P s0 w hr hP hl h
    · exact read_14 p T P s0 w hr hP hl h
    · exact read_15 p T P s0 w hr hP hl h
    · exact read_16 p T P s0 w hr hP hl h
    · exact read_17 p T P s0 w hr hP hl h
    · exact read_18 p T P s0 w hr hP hl h
    · exact read_19 p T P s0 w hr hP hl h
    · exact read_20 p T P s0 w hr hP hl h
    · exact read_21 p T P s0 w hr hP hl h
    · exact read_22 p T P s0 w hr hP hl h
    · exact read_23 p T P s0 w hr hP hl h
    · exact read_24 p T P s0 w hr hP hl h
    · exact read_25 p T P s0 w hr hP hl h
    · exact read_26 p T P s0 w hr hP hl h
    · exact read_27 p T P s0 w hr hP hl h
    · exact read_28 p T P s0 w hr hP hl h
    · exact read_29 p T P s0 w hr hP hl h
    · exact read_30 p T P s0 w hr hP hl h
/-- What one read leaves is less. -/
theorem takeN_ok (s : St) (n : Int) (h : (takeN s n).2 = false) : 0 ≤ n ∧ n ≤ s.1.length ∧ (takeN s n).1 = s.1.drop n.toNat ∧ s.2 = false := by
  unfold takeN at h ⊢
  split at h
  · next hn => rw [if_pos hn]; exact ⟨hn.1, hn.2, rfl, h⟩
  · cases h
theorem varN_ok (s : St) (hb : Byt s.1) (h : (varN s).2 = false) : ∃ n : Nat, 1 ≤ n ∧ n ≤ s.1.length ∧ (varN s).1 = s.1.drop n ∧ s.2 = false := by
  unfold varN at h ⊢
  split at h
  · cases h
  · next hz =>
    rw [if_neg hz]
    have hk := takeN_ok s _ h
    rcases getS_cases s.1 hb with ⟨h0, _⟩ | ⟨h1, _⟩
    · exact absurd h0 hz
    · exact ⟨(getS s.1).2.toNat, by omega, by omega, hk.2.2.1, hk.2.2.2⟩
end Go.Proofs.Ytcobcgbpmkpljaa
