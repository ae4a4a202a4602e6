/-
  Plain arithmetic of numbers of unlike lengths: their size, their two highest bits, their bytes.
-/
import Derived.Test.YtkgeeoogmkpjhaaGet
namespace Go.Proofs.Ytkgeeoogmkpjhaa
set_option linter.unusedVariables false
open Go.RowKit
def clsS (x : Int) : Int := if x < 64 then 0 else if x < 16384 then 1 else if x < 1073741824 then 2 else 3
def sizeS (x : Int) : Nat := if x < 64 then 1 else if x < 16384 then 2 else if x < 1073741824 then 4 else if x ≤ 4611686018427387903 then 8 else 0
/-- x with what its length adds to its highest byte. -/
def putM (x : Int) : Int := x + clsS x * 2 ^ (8 * sizeS x - 2)
/-- The first byte first: byte i of the s bytes of m. -/
def byteS (s : Nat) (m : Int) (i : Nat) : Int := m / 2 ^ (8 * (s - 1 - i)) % 256
def beS (s : Nat) (m : Int) : List Int := (List.range s).map (byteS s m)
/-- The bytes of x. -/
def putS (x : Int) : List Int := beS (sizeS x) (putM x)
theorem clsS_bd (x : Int) : 0 ≤ clsS x ∧ clsS x ≤ 3 := by unfold clsS; (repeat' split) <;> omega
theorem size_pos (x : Int) (h : x ≤ 4611686018427387903) : 1 ≤ sizeS x := by unfold sizeS; (repeat' split) <;> omega
theorem size_le (x : Int) : sizeS x ≤ 8 := by unfold sizeS; (repeat' split) <;> omega
theorem size_big (x : Int) (h : 4611686018427387903 < x) : sizeS x = 0 := by unfold sizeS; (repeat' split) <;> omega
theorem size_cls (x : Int) (h : x ≤ 4611686018427387903) : wrap64 (2 ^ (clsS x).toNat) = (sizeS x : Int) := by
  unfold clsS sizeS
  rw [wrapI]
  by_cases h1 : x < 64
  · rw [if_pos h1, if_pos h1]; rfl
  · rw [if_neg h1, if_neg h1]
    by_cases h2 : x < 16384
    · rw [if_pos h2, if_pos h2]; rfl
    · rw [if_neg h2, if_neg h2]
      by_cases h3 : x < 1073741824
      · rw [if_pos h3, if_pos h3]; rfl
      · rw [if_neg h3, if_neg h3, if_pos h]; rfl
/-- The four lengths. -/
theorem size_cases (x : Int) (h0 : 0 ≤ x) (h : x ≤ 4611686018427387903) :
    (sizeS x = 1 ∧ clsS x = 0 ∧ putM x = x ∧ x < 64) ∨ (sizeS x = 2 ∧ clsS x = 1 ∧ putM x = x + 16384 ∧ x < 16384) ∨
    (sizeS x = 4 ∧ clsS x = 2 ∧ putM x = x + 2147483648 ∧ x < 1073741824) ∨ (sizeS x = 8 ∧ clsS x = 3 ∧ putM x = x + 13835058055282163712 ∧ x < 4611686018427387904) := by
  unfold putM clsS sizeS
  by_cases h1 : x < 64
  · refine .inl ?_; simp [h1]
  · by_cases h2 : x < 16384
    · refine .inr (.inl ?_); simp [h1, h2]
    · by_cases h3 : x < 1073741824
      · refine .inr (.inr (.inl ?_)); simp [h1, h2, h3]
      · refine .inr (.inr (.inr ?_)); simp [h1, h2, h3, h]; omega
theorem put_or (x : Int) (h0 : 0 ≤ x) (h : x ≤ 4611686018427387903) :
    bits BinOp.or IntKind.u64 x (IntKind.u64.wrap (clsS x * 2 ^ (8 * sizeS x - 2))) = putM x := by
  rcases size_cases x h0 h with ⟨a, b, c, d⟩ | ⟨a, b, c, d⟩ | ⟨a, b, c, d⟩ | ⟨a, b, c, d⟩ <;> rw [a, b, c, IntKind.wrap_u64]
  · rw [show (0 : Int) * 2 ^ (8 * 1 - 2) % 18446744073709551616 = 0 by decide, u64_or _ _ h0 (by omega) (by omega) (by omega)]; simp; omega
  · rw [show (1 : Int) * 2 ^ (8 * 2 - 2) % 18446744073709551616 = 16384 by decide, u64_or _ _ h0 (by omega) (by omega) (by omega), Nat.or_comm, nat_join 14 _ _ (by decide) (by omega)]; omega
  · rw [show (2 : Int) * 2 ^ (8 * 4 - 2) % 18446744073709551616 = 2147483648 by decide, u64_or _ _ h0 (by omega) (by omega) (by omega), Nat.or_comm, nat_join 30 _ _ (by decide) (by omega)]; omega
  · rw [show (3 : Int) * 2 ^ (8 * 8 - 2) % 18446744073709551616 = 13835058055282163712 by decide, u64_or _ _ h0 (by omega) (by omega) (by omega), Nat.or_comm, nat_join 62 _ _ (by decide) (by omega)]; omega
theorem putM_bd (x : Int) (h0 : 0 ≤ x) (h : x ≤ 4611686018427387903) : 0 ≤ putM x ∧ putM x < 18446744073709551616 := by
  rcases size_cases x h0 h with ⟨a, b, c, d⟩ | ⟨a, b, c, d⟩ | ⟨a, b, c, d⟩ | ⟨a, b, c, d⟩ <;> rw [c] <;> omega
theorem byteS_bd (s : Nat) (m : Int) (i : Nat) : 0 ≤ byteS s m i ∧ byteS s m i < 256 := by unfold byteS; omega
theorem beS_len (s : Nat) (m : Int) : (beS s m).length = s := by simp [beS]
theorem beS_byt (s : Nat) (m : Int) : Byt (beS s m) := fun x h => by
  obtain ⟨i, _, rfl⟩ := List.mem_map.1 h
  exact byteS_bd s m i
theorem beS_take (s : Nat) (m : Int) (k : Nat) (hk : k < s) : (beS s m).take (k + 1) = (beS s m).take k ++ [byteS s m k] := by
  have hl : k < (beS s m).length := by rw [beS_len]; exact hk
  rw [List.take_succ_eq_append_getElem hl]
  simp [beS]
theorem putS_byt (x : Int) : Byt (putS x) := beS_byt _ _
theorem putS_len (x : Int) : (putS x).length = sizeS x := beS_len _ _
/-- What the document's own Put makes of the first byte, and of the others. -/
theorem put_first (x : Int) (h0 : 0 ≤ x) (h : x ≤ 4611686018427387903) :
    byteS (sizeS x) (putM x) 0 = x / 2 ^ (8 * (sizeS x - 1)) % 256 + (putM x - x) / 2 ^ (8 * (sizeS x - 1)) ∧ (x / 2 ^ (8 * (sizeS x - 1)) % 256) < 64 := by
  unfold byteS
  rcases size_cases x h0 h with ⟨a, b, c, d⟩ | ⟨a, b, c, d⟩ | ⟨a, b, c, d⟩ | ⟨a, b, c, d⟩ <;> rw [a, c] <;> simp <;> omega
theorem put_later (x : Int) (h0 : 0 ≤ x) (h : x ≤ 4611686018427387903) (i : Nat) (hi : 1 ≤ i) (his : i < sizeS x) :
    byteS (sizeS x) (putM x) i = x / 2 ^ (8 * (sizeS x - 1 - i)) % 256 := by
  unfold byteS
  rcases size_cases x h0 h with ⟨a, b, c, d⟩ | ⟨a, b, c, d⟩ | ⟨a, b, c, d⟩ | ⟨a, b, c, d⟩
  · omega
  · obtain rfl : i = 1 := by omega
    rw [a, c]; simp; omega
  · have : i = 1 ∨ i = 2 ∨ i = 3 := by omega
    rw [a, c]
    rcases this with rfl | rfl | rfl <;> simp <;> omega
  · have : i = 1 ∨ i = 2 ∨ i = 3 ∨ i = 4 ∨ i = 5 ∨ i = 6 ∨ i = 7 := by omega
    rw [a, c]
    rcases this with rfl | rfl | rfl | rfl | rfl | rfl | rfl <;> simp <;> omega
theorem be1 (m : Int) : beS 1 m = [m % 256] := by simp [beS, byteS, List.range, List.range.loop]
theorem be2 (m : Int) : beS 2 m = [m / 256 % 256, m % 256] := by simp [beS, byteS, List.range, List.range.loop]
theorem be4 (m : Int) : beS 4 m = [m / 16777216 % 256, m / 65536 % 256, m / 256 % 256, m % 256] := by simp [beS, byteS, List.range, List.range.loop]
theorem be8 (m : Int) : beS 8 m = [m / 72057594037927936 % 256, m / 281474976710656 % 256, m / 1099511627776 % 256, m / 4294967296 % 256, m / 16777216 % 256, m / 65536 % 256, m / 256 % 256, m % 256] := by
  simp [beS, byteS, List.range, List.range.loop]
theorem getS_of (bs : List Int) (s : Nat) (b0 : Int) (l more : List Int) (hb : bs = b0 :: (l ++ more)) (hs : szS b0 = s) (hl : l.length + 1 = s) : getS bs = (foldS (b0 % 64) l, (s : Int)) := by
  subst hb
  rw [get_full _ (by simp) (by simp [hs]; omega)]
  simp only [List.getD_cons_zero, hs]
  rw [← hl, List.take_succ_cons, List.drop_one, List.tail_cons, List.take_left']
  rfl
/-- What was put is got, whatever stands behind it. -/
theorem get_put (x : Int) (h0 : 0 ≤ x) (h : x ≤ 4611686018427387903) (more : List Int) : getS (putS x ++ more) = (x, (sizeS x : Int)) := by
  unfold putS
  rcases size_cases x h0 h with ⟨a, b, c, d⟩ | ⟨a, b, c, d⟩ | ⟨a, b, c, d⟩ | ⟨a, b, c, d⟩ <;> rw [a, c]
  · rw [be1, getS_of _ 1 _ [] more (by rfl) (by unfold szS; rw [if_pos (by omega)]) (by rfl)]
    simp [foldS]; omega
  · rw [be2, getS_of _ 2 _ [_] more (by rfl) (by unfold szS; rw [if_neg (by omega), if_pos (by omega)]) (by rfl)]
    simp [foldS]; omega
  · rw [be4, getS_of _ 4 _ [_, _, _] more (by rfl) (by unfold szS; rw [if_neg (by omega), if_neg (by omega), if_pos (by omega)]) (by rfl)]
    simp [foldS]; omega
  · rw [be8, getS_of _ 8 _ [_, _, _, _, _, _, _] more (by rfl) (by unfold szS; rw [if_neg (by omega), if_neg (by omega), if_neg (by omega)]) (by rfl)]
    simp [foldS]; omega
/-- No beginning of it is got. -/
theorem get_cut (x : Int) (h0 : 0 ≤ x) (h : x ≤ 4611686018427387903) (k : Nat) (hk : k < sizeS x) : getS ((putS x).take k) = (0, 0) := by
  by_cases hz : k = 0
  · subst hz; simp [getS]
  · have hne : (putS x).take k ≠ [] := by
      intro e; have := congrArg List.length e; rw [List.length_take, putS_len] at this; simp at this; omega
    have h0' : ((putS x).take k).getD 0 0 = (putS x).getD 0 0 := by
      rw [List.getD_eq_getElem?_getD, List.getD_eq_getElem?_getD, List.getElem?_take_of_lt (by omega)]
    rw [get_short _ hne]
    rw [h0', List.length_take, putS_len]
    have : szS ((putS x).getD 0 0) = sizeS x := by
      have g := get_put x h0 h []
      rw [List.append_nil] at g
      have hn2 : putS x ≠ [] := by intro e; rw [e] at hne; simp at hne
      by_cases hl : (putS x).length < szS ((putS x).getD 0 0)
      · rw [get_short _ hn2 hl] at g
        have := congrArg Prod.snd g
        have p := size_pos x h
        simp at this; omega
      · rw [get_full _ hn2 (by omega)] at g
        have e : ((szS ((putS x).getD 0 0) : Nat) : Int) = (sizeS x : Int) := congrArg Prod.snd g
        omega
    rw [this]; omega
end Go.Proofs.Ytkgeeoogmkpjhaa
