/-
  What each function of package bits that turns numbers answers, for every number of its kind: Low, Extend, Rot, Zig, Zag, Clamp; Within of the statements' book.
-/
import Derived.Test.YtehdilgnlhhjdaaProg
import Derived.Test.YtehdilgnlhhjdaaMq0
import Derived.WalkKit
import Derived.ProofKit
import Derived.OpenShut
import Derived.Lib.Hide
import Derived.Outline
import Derived.WalkLawsBesides
import Derived.WalkSpells
import Derived.RegionTactic
import Derived.ChangeAlike
import Derived.Deep.QuietTactic
import Derived.BigQuiet
namespace Go.Proofs.Ytehdilgnlhhjdaa
section
set_option linter.unusedVariables false
open Go.RowKit
theorem low_any (n k : Int) (w : World) (h0 : 0 ≤ n) (h1 : n < 18446744073709551616) (hk : k ≤ 9223372036854775807) (hk0 : -9223372036854775808 ≤ k) :
    Calls Try.prog 61 #[.int .u64 n, .int .i64 k] w fun e w' => e = .returned (.int .u64 (lowS n k)) ∧ w = w' := by
  rcases Int.lt_or_le k 1 with h | h
  · go_enter Try.func61, Try.ntmps61
    go_wp2
    go_ret
    exact ⟨by simp [lowS, h], rfl⟩
  · rcases Int.lt_or_le 63 k with h2 | h2
    · go_enter Try.func61, Try.ntmps61
      go_wp2
      go_ret
      exact ⟨by simp [lowS, Int.not_lt.2 h, h2], rfl⟩
    · have hfin := low_and n k.toNat h0 h1 (by omega)
      have H := Lib.hid hfin; clear hfin
      go_enter Try.func61, Try.ntmps61
      go_wp2
      go_ret
      exact ⟨by simp [lowS, Int.not_lt.2 h, Int.not_lt.2 h2, H.out], rfl⟩
theorem ret_int {k : IntKind} {a b : Int} (h : a = b) : Ending.returned (.int k a) = .returned (.int k b) := by rw [h]
theorem rot_any (n k : Int) (w : World) (h0 : 0 ≤ n) (h1 : n < 18446744073709551616) :
    Calls Try.prog 80 #[.int .u64 n, .int .i64 k] w fun e w' => e = .returned (.int .u64 (rotS n (k % 64).toNat)) ∧ w = w' := by
  obtain ⟨l, hl, hl63, hlk⟩ : ∃ l : Nat, bits BinOp.and IntKind.u64 (IntKind.u64.wrap k) 63 = (l : Int) ∧ (l : Int) ≤ 63 ∧ (k % 64).toNat = l := by
    refine ⟨(k % 64).toNat, ?_, by omega, rfl⟩
    rw [IntKind.wrap_u64, u64_and _ _ (by omega) (by omega) (by omega) (by omega), show (63 : Int).toNat = 63 by decide, nat_mask6]
    omega
  have hfin := rot_or n l h0 h1 (by omega)
  rw [hlk]
  have H := Lib.hid hfin; clear hfin hlk
  go_enter Try.func80, Try.ntmps80
  go_wp2
  go_ret
  exact ⟨by simp [H.out], rfl⟩
end
section
set_option linter.unusedVariables false
open Go.RowKit
def foldS (n : Int) (bs : List Int) : Int := bs.foldl (fun n x => n * 256 + x) n
def szS (b0 : Int) : Nat := if b0 < 64 then 1 else if b0 < 128 then 2 else if b0 < 192 then 4 else 8
/-- The number that bs begins with, and how many bytes it has. -/
def getS (bs : List Int) : Int × Int :=
  if bs = [] then (0, 0) else if bs.length < szS (bs.getD 0 0) then (0, 0)
  else (foldS (bs.getD 0 0 % 64) ((bs.take (szS (bs.getD 0 0))).drop 1), (szS (bs.getD 0 0) : Int))
theorem foldS_snoc (n : Int) (bs : List Int) (x : Int) : foldS n (bs ++ [x]) = foldS n bs * 256 + x := by simp [foldS]
theorem foldS_bd : ∀ (bs : List Int) (n : Int), Byt bs → 0 ≤ n → ∀ M : Int, n < M → 0 ≤ foldS n bs ∧ foldS n bs < M * 256 ^ bs.length
  | [], n, _, h0, M, hM => by simp [foldS]; omega
  | x :: bs, n, hb, h0, M, hM => by
    have hx := hb x (by simp)
    have := foldS_bd bs (n * 256 + x) (fun y hy => hb y (by simp [hy])) (by omega) (M * 256) (by omega)
    rw [List.length_cons, Int.pow_succ, Int.mul_comm (256 ^ bs.length), ← Int.mul_assoc]
    exact this
theorem foldS_small (bs : List Int) (n : Int) (hb : Byt bs) (h0 : 0 ≤ n) (hn : n < 64) (hl : bs.length ≤ 6) : 0 ≤ foldS n bs ∧ foldS n bs < 18014398509481984 := by
  have h := foldS_bd bs n hb h0 64 hn
  have h1 : (256 : Nat) ^ bs.length ≤ 256 ^ 6 := Nat.pow_le_pow_right (by decide) hl
  have h2 : ((256 : Int) ^ bs.length) = ((256 ^ bs.length : Nat) : Int) := by simp
  rw [h2] at h
  omega
theorem or256 (F y : Int) (h0 : 0 ≤ F) (h1 : F < 72057594037927936) (h2 : 0 ≤ y) (h3 : y < 256) : bits BinOp.or IntKind.u64 (F * 256) y = F * 256 + y := by
  rw [u64_or _ _ (by omega) (by omega) h2 (by omega), nat_join 8 _ _ (by omega) (by omega)]; omega
theorem szS_wrap (x : Int) (h0 : 0 ≤ x) (h1 : x < 256) : wrap64 (2 ^ (x / 64).toNat) = (szS x : Int) := by
  have : x / 64 = 0 ∨ x / 64 = 1 ∨ x / 64 = 2 ∨ x / 64 = 3 := by omega
  unfold szS
  rcases this with h | h | h | h <;> rw [h, wrapI]
  · rw [if_pos (by omega)]; rfl
  · rw [if_neg (by omega), if_pos (by omega)]; rfl
  · rw [if_neg (by omega), if_neg (by omega), if_pos (by omega)]; rfl
  · rw [if_neg (by omega), if_neg (by omega), if_neg (by omega)]; rfl
theorem szS_bd (x : Int) : 1 ≤ szS x ∧ szS x ≤ 8 := by unfold szS; (repeat' split) <;> omega
theorem take_drop_snoc (bs : List Int) (s k : Nat) (hk : k + 1 < s) (hs : s ≤ bs.length) :
    ((bs.take s).drop 1).take (k + 1) = ((bs.take s).drop 1).take k ++ [bs.getD (1 + k) 0] := by
  have hl : k < ((bs.take s).drop 1).length := by simp; omega
  rw [List.take_succ_eq_append_getElem hl]
  congr 2
  rw [List.getElem_drop, List.getElem_take, List.getD_eq_getElem?_getD, List.getElem?_eq_getElem (by omega)]
  rfl
theorem get_short (bs : List Int) (hn : bs ≠ []) (h : bs.length < szS (bs.getD 0 0)) : getS bs = (0, 0) := by
  unfold getS; rw [if_neg hn, if_pos h]
theorem get_full (bs : List Int) (hn : bs ≠ []) (h : szS (bs.getD 0 0) ≤ bs.length) :
    getS bs = (foldS (bs.getD 0 0 % 64) ((bs.take (szS (bs.getD 0 0))).drop 1), (szS (bs.getD 0 0) : Int)) := by
  unfold getS; rw [if_neg hn, if_neg (by omega)]
theorem get_any (A : Option Addr) (n c : Nat) (bs : List Int) (w : World) (B : Nat) (hr : Rd w B A n bs) (hn : n ≤ c) (hc : c ≤ maxLen) :
    Calls Try.prog 104 #[.slice A n c] w fun e w' => e = .returned (.tuple #[.int .u64 (getS bs).1, .int .i64 (getS bs).2]) ∧ w = w' := by
  unfold maxLen at hc
  rcases Nat.eq_zero_or_pos n with h0 | h0
  · subst h0
    obtain rfl := hr.zero
    go_enter Try.func104, Try.ntmps104
    go_wp2
    go_ret2
    exact ⟨rfl, rfl⟩
  · obtain ⟨b, off, rfl, hb, hcell⟩ := hr.2.2 h0
    have hby := hr.2.1
    have hlen := hr.1
    have hb0 := hr.2.1.getD 0
    have c0 := hcell 0 h0
    have hne0 : bs ≠ [] := by intro h; rw [h] at hlen; simp at hlen; omega
    have hw := szS_wrap _ hb0.1 hb0.2
    have hsb := szS_bd (bs.getD 0 0)
    have gs := get_short bs hne0
    have gf := get_full bs hne0
    obtain ⟨x0, hx0⟩ : ∃ x0, bs.getD 0 0 = x0 := ⟨_, rfl⟩
    rw [hx0] at hb0 c0 hw hsb gs gf
    clear hx0
    obtain ⟨s, hs⟩ : ∃ s, szS x0 = s := ⟨_, rfl⟩
    rw [hs] at hw hsb gs gf
    clear hs
    rw [Nat.add_zero] at c0
    obtain ⟨hb1, hb2⟩ := hb0
    obtain ⟨hs1, hs2⟩ := hsb
    have hand : bits BinOp.and IntKind.u8 x0 63 = x0 % 64 := u8_and63 _ hb1 hb2
    have hne : ((n : Int) == 0) = false := by simp; omega
    have hp : (0 : Int) < (n : Int) := by omega
    have L := Lib.hid hlen; clear hlen
    rcases Nat.lt_or_ge n s with hlt | hge
    · have G := Lib.hid (gs (by rw [L.out]; omega)); clear gs gf hcell hr
      go_enter Try.func104, Try.ntmps104
      go_wp2
      go_ret2
      exact ⟨by rw [G.out]; rfl, rfl⟩
    · have G := Lib.hid (gf (by rw [L.out]; omega)); clear gs gf
      have HC := Lib.hid hcell; clear hcell hr
      by_cases h1c : c = 1
      · subst h1c
        obtain rfl : n = 1 := by omega
        obtain rfl : s = 1 := by omega
        go_enter Try.func104, Try.ntmps104
        go_wp2
        go_loop [5, 29] (fun m i => i = .int .i64 0 ∧ m = .int .u64 (x0 % 64)) (fun _ i => 0)
        case atStart => exact ⟨rfl, rfl⟩
        case round =>
          obtain ⟨rfl, rfl⟩ := hrel
          go_wp2
          go_ret2
          exact ⟨by rw [G.out]; simp [foldS], rfl⟩
      · obtain ⟨T, hT⟩ : ∃ T, (bs.take s).drop 1 = T := ⟨_, rfl⟩
        have hTl : T.length = s - 1 := by rw [← hT]; simp; rw [L.out]; omega
        have hTb : Byt T := by rw [← hT]; exact (hby.take s).drop 1
        have hTs : ∀ k, k + 1 < s → T.take (k + 1) = T.take k ++ [bs.getD (1 + k) 0] := fun k hk => by
          rw [← hT]; exact take_drop_snoc bs s k hk (by rw [L.out]; omega)
        rw [hT] at G
        clear hT
        have TL := Lib.hid hTl; clear hTl
        have TS := Lib.hid hTs; clear hTs
        go_enter Try.func104, Try.ntmps104
        go_wp2
        go_loop [5, 29] (fun m i => ∃ k : Nat, k ≤ s - 1 ∧ i = .int .i64 k ∧ m = .int .u64 (foldS (x0 % 64) (T.take k))) (fun _ i => s - 1 - (intOf i).toNat)
        case atStart => exact ⟨0, Nat.zero_le _, rfl, by simp [foldS]⟩
        case round =>
          obtain ⟨k, hk, rfl, rfl⟩ := hrel
          by_cases hlt : k < s - 1
          · have c1 := HC.out (1 + k) (by omega)
            rw [show off + (1 + k) = off + 1 + k by omega] at c1
            have hy := hby.getD (1 + k)
            have hts := TS.out k (by omega)
            obtain ⟨y, hy0⟩ : ∃ y, bs.getD (1 + k) 0 = y := ⟨_, rfl⟩
            rw [hy0] at c1 hy hts
            clear hy0
            have hF := foldS_small (T.take k) (x0 % 64) (hTb.take k) (by omega) (by omega) (by have := List.length_take_le k T; omega)
            have hsn := foldS_snoc (x0 % 64) (T.take k) y
            rw [← hts] at hsn
            obtain ⟨F, hF0⟩ : ∃ F, foldS (x0 % 64) (T.take k) = F := ⟨_, rfl⟩
            rw [hF0] at hF hsn
            rw [hF0]
            clear hF0
            obtain ⟨hF1, hF2⟩ := hF
            obtain ⟨hy1, hy2⟩ := hy
            have hor := or256 F y hF1 (by omega) hy1 hy2
            have N := Lib.hid hsn; clear hsn hts
            go_wp2
            go_round
            case rel => exact ⟨k + 1, by omega, by go_num, by rw [N.out]⟩
            case measure => simp [intOf]; omega
          · have hkk : T.take k = T := List.take_of_length_le (by rw [TL.out]; omega)
            rw [hkk]
            clear hkk
            go_wp2
            go_ret2
            exact ⟨by rw [G.out]; rfl, rfl⟩
end
section
set_option linter.unusedVariables false
open Go.RowKit
def clsS (x : Int) : Int := if x < 64 then 0 else if x < 16384 then 1 else if x < 1073741824 then 2 else 3
def sizeS (x : Int) : Nat := if x < 64 then 1 else if x < 16384 then 2 else if x < 1073741824 then 4 else if x ≤ 4611686018427387903 then 8 else 0
/-- x with what its length adds to its highest byte. -/
def putM (x : Int) : Int := x + clsS x * 2 ^ (8 * sizeS x - 2)
/-- The first byte first: byte i of the s bytes of m. -/
def byteS (s : Nat) (m : Int) (i : Nat) : Int := m / 2 ^ (8 * (s - 1 - i)) % 256
def beS (s : Nat) (m : Int) : List Int := (List.range s).map (byteS s m)
/-- The bytes of x. -/
def putS (x : Int) : List Int := beS (sizeS x) (putM x)
theorem clsS_bd (x : Int) : 0 ≤ clsS x ∧ clsS x ≤ 3 := by unfold clsS; (repeat' split) <;> omega
theorem size_pos (x : Int) (h : x ≤ 4611686018427387903) : 1 ≤ sizeS x := by unfold sizeS; (repeat' split) <;> omega
theorem size_le (x : Int) : sizeS x ≤ 8 := by unfold sizeS; (repeat' split) <;> omega
theorem size_big (x : Int) (h : 4611686018427387903 < x) : sizeS x = 0 := by unfold sizeS; (repeat' split) <;> omega
theorem size_cls (x : Int) (h : x ≤ 4611686018427387903) : wrap64 (2 ^ (clsS x).toNat) = (sizeS x : Int) := by
  unfold clsS sizeS
  rw [wrapI]
  by_cases h1 : x < 64
  · rw [if_pos h1, if_pos h1]; rfl
  · rw [if_neg h1, if_neg h1]
    by_cases h2 : x < 16384
    · rw [if_pos h2, if_pos h2]; rfl
    · rw [if_neg h2, if_neg h2]
      by_cases h3 : x < 1073741824
      · rw [if_pos h3, if_pos h3]; rfl
      · rw [if_neg h3, if_neg h3, if_pos h]; rfl
/-- The four lengths. -/
theorem size_cases (x : Int) (h0 : 0 ≤ x) (h : x ≤ 4611686018427387903) :
    (sizeS x = 1 ∧ clsS x = 0 ∧ putM x = x ∧ x < 64) ∨ (sizeS x = 2 ∧ clsS x = 1 ∧ putM x = x + 16384 ∧ x < 16384) ∨
    (sizeS x = 4 ∧ clsS x = 2 ∧ putM x = x + 2147483648 ∧ x < 1073741824) ∨ (sizeS x = 8 ∧ clsS x = 3 ∧ putM x = x + 13835058055282163712 ∧ x < 4611686018427387904) := by
  unfold putM clsS sizeS
  by_cases h1 : x < 64
  · refine .inl ?_; simp [h1]
  · by_cases h2 : x < 16384
    · refine .inr (.inl ?_); simp [h1, h2]
    · by_cases h3 : x < 1073741824
      · refine .inr (.inr (.inl ?_)); simp [h1, h2, h3]
      · refine .inr (.inr (.inr ?_)); simp [h1, h2, h3, h]; omega
theorem put_or (x : Int) (h0 : 0 ≤ x) (h : x ≤ 4611686018427387903) :
    bits BinOp.or IntKind.u64 x (IntKind.u64.wrap (clsS x * 2 ^ (8 * sizeS x - 2))) = putM x := by
  rcases size_cases x h0 h with ⟨a, b, c, d⟩ | ⟨a, b, c, d⟩ | ⟨a, b, c, d⟩ | ⟨a, b, c, d⟩ <;> rw [a, b, c, IntKind.wrap_u64]
  · rw [show (0 : Int) * 2 ^ (8 * 1 - 2) % 18446744073709551616 = 0 by decide, u64_or _ _ h0 (by omega) (by omega) (by omega)]; simp; omega
  · rw [show (1 : Int) * 2 ^ (8 * 2 - 2) % 18446744073709551616 = 16384 by decide, u64_or _ _ h0 (by omega) (by omega) (by omega), Nat.or_comm, nat_join 14 _ _ (by decide) (by omega)]; omega
  · rw [show (2 : Int) * 2 ^ (8 * 4 - 2) % 18446744073709551616 = 2147483648 by decide, u64_or _ _ h0 (by omega) (by omega) (by omega), Nat.or_comm, nat_join 30 _ _ (by decide) (by omega)]; omega
  · rw [show (3 : Int) * 2 ^ (8 * 8 - 2) % 18446744073709551616 = 13835058055282163712 by decide, u64_or _ _ h0 (by omega) (by omega) (by omega), Nat.or_comm, nat_join 62 _ _ (by decide) (by omega)]; omega
theorem putM_bd (x : Int) (h0 : 0 ≤ x) (h : x ≤ 4611686018427387903) : 0 ≤ putM x ∧ putM x < 18446744073709551616 := by
  rcases size_cases x h0 h with ⟨a, b, c, d⟩ | ⟨a, b, c, d⟩ | ⟨a, b, c, d⟩ | ⟨a, b, c, d⟩ <;> rw [c] <;> omega
theorem byteS_bd (s : Nat) (m : Int) (i : Nat) : 0 ≤ byteS s m i ∧ byteS s m i < 256 := by unfold byteS; omega
theorem beS_len (s : Nat) (m : Int) : (beS s m).length = s := by simp [beS]
theorem beS_byt (s : Nat) (m : Int) : Byt (beS s m) := fun x h => by
  obtain ⟨i, _, rfl⟩ := List.mem_map.1 h
  exact byteS_bd s m i
theorem beS_take (s : Nat) (m : Int) (k : Nat) (hk : k < s) : (beS s m).take (k + 1) = (beS s m).take k ++ [byteS s m k] := by
  have hl : k < (beS s m).length := by rw [beS_len]; exact hk
  rw [List.take_succ_eq_append_getElem hl]
  simp [beS]
theorem putS_len (x : Int) : (putS x).length = sizeS x := beS_len _ _
theorem be1 (m : Int) : beS 1 m = [m % 256] := by simp [beS, byteS, List.range, List.range.loop]
theorem be2 (m : Int) : beS 2 m = [m / 256 % 256, m % 256] := by simp [beS, byteS, List.range, List.range.loop]
theorem be4 (m : Int) : beS 4 m = [m / 16777216 % 256, m / 65536 % 256, m / 256 % 256, m % 256] := by simp [beS, byteS, List.range, List.range.loop]
theorem be8 (m : Int) : beS 8 m = [m / 72057594037927936 % 256, m / 281474976710656 % 256, m / 1099511627776 % 256, m / 4294967296 % 256, m / 16777216 % 256, m / 65536 % 256, m / 256 % 256, m % 256] := by
  simp [beS, byteS, List.range, List.range.loop]
theorem getS_of (bs : List Int) (s : Nat) (b0 : Int) (l more : List Int) (hb : bs = b0 :: (l ++ more)) (hs : szS b0 = s) (hl : l.length + 1 = s) : getS bs = (foldS (b0 % 64) l, (s : Int)) := by
  subst hb
  rw [get_full _ (by simp) (by simp [hs]; omega)]
  simp only [List.getD_cons_zero, hs]
  rw [← hl, List.take_succ_cons, List.drop_one, List.tail_cons, List.take_left']
  rfl
/-- What was put is got, whatever stands behind it. -/
theorem get_put (x : Int) (h0 : 0 ≤ x) (h : x ≤ 4611686018427387903) (more : List Int) : getS (putS x ++ more) = (x, (sizeS x : Int)) := by
  unfold putS
  rcases size_cases x h0 h with ⟨a, b, c, d⟩ | ⟨a, b, c, d⟩ | ⟨a, b, c, d⟩ | ⟨a, b, c, d⟩ <;> rw [a, c]
  · rw [be1, getS_of _ 1 _ [] more (by rfl) (by unfold szS; rw [if_pos (by omega)]) (by rfl)]
    simp [foldS]; omega
  · rw [be2, getS_of _ 2 _ [_] more (by rfl) (by unfold szS; rw [if_neg (by omega), if_pos (by omega)]) (by rfl)]
    simp [foldS]; omega
  · rw [be4, getS_of _ 4 _ [_, _, _] more (by rfl) (by unfold szS; rw [if_neg (by omega), if_neg (by omega), if_pos (by omega)]) (by rfl)]
    simp [foldS]; omega
  · rw [be8, getS_of _ 8 _ [_, _, _, _, _, _, _] more (by rfl) (by unfold szS; rw [if_neg (by omega), if_neg (by omega), if_neg (by omega)]) (by rfl)]
    simp [foldS]; omega
end
section
set_option linter.unusedVariables false
open Go.RowKit
theorem class_any (x : Int) (w : World) : Calls Try.prog 106 #[.int .u64 x] w fun e w' => e = .returned (.int .u64 (clsS x)) ∧ w = w' := by
  have hfin : clsS x = if x < 64 then 0 else if x < 16384 then 1 else if x < 1073741824 then 2 else 3 := rfl
  have H := Lib.hid hfin; clear hfin
  go_enter Try.func106, Try.ntmps106
  go_wp2
  all_goals
    go_ret
    exact ⟨ret_int (by rw [H.out]; (repeat' split) <;> omega), rfl⟩
theorem size_any (x : Int) (w : World) : Calls Try.prog 105 #[.int .u64 x] w fun e w' => e = .returned (.int .i64 (sizeS x)) ∧ w = w' := by
  rcases Int.lt_or_le 4611686018427387903 x with h | h
  · have H := Lib.hid (size_big x h)
    go_enter Try.func105, Try.ntmps105
    go_wp2
    go_ret
    exact ⟨by rw [H.out]; rfl, rfl⟩
  · have H := Lib.hid (size_cls x h)
    obtain ⟨hc0, hc1⟩ := clsS_bd x
    go_enter Try.func105, Try.ntmps105
    go_wp2_with (go_at_call 106; refine (class_any _ _).mono ?_; rintro e w' ⟨rfl, rfl⟩)
    go_ret
    exact ⟨ret_int (by rw [← H.out]), rfl⟩
theorem u8_info : (Try.prog.info? 5).map (fun i => (i.zero, i.size, i.bytes)) = some (some (.int .u8 0), 1, 1) := by kernel_rfl
theorem splice_take (Z X : List Value) (h : X.length ≤ Z.length) : ((splice Z 0 X).toArray).toList.take X.length = X := by
  simp [splice]
set_option maxRecDepth 100000 in
theorem putvar_yes (A : Option Addr) (n c : Nat) (bs : List Int) (x : Int) (w : World) (hr : Rd w w.heap.size A n bs) (hc : n ≤ 140737488355000) (h0 : 0 ≤ x) (h1 : x ≤ 4611686018427387903) :
    Calls Try.prog 102 #[.slice A n c, .int .u64 x] w fun e w' => ∃ v, e = .returned (.tuple #[v, .bool true]) ∧
      Own w' w.heap.size 5 v (bs ++ putS x) ∧ Below w.heap.size w w' := by
  obtain ⟨i0, hi, hz0, hz1, hz2⟩ := info_parts u8_info
  have hb0 := Below.refl w.heap.size w
  obtain ⟨hcl0, hcl1⟩ := clsS_bd x
  have hor := put_or x h0 h1
  have hM := putM_bd x h0 h1
  have hps : putS x = beS (sizeS x) (putM x) := rfl
  have hs8 := size_le x
  have hs1 := size_pos x h1
  obtain ⟨s, hs⟩ : ∃ s, sizeS x = s := ⟨_, rfl⟩
  obtain ⟨M, hMM⟩ : ∃ M, putM x = M := ⟨_, rfl⟩
  obtain ⟨cl, hcl⟩ : ∃ cl, clsS x = cl := ⟨_, rfl⟩
  have S := Lib.hid hs
  have CL := Lib.hid hcl
  rw [hs] at hor hps hs8 hs1
  rw [hMM] at hor hM hps
  rw [hcl] at hor hcl0 hcl1
  clear hs hMM hcl
  obtain ⟨hM0, hM1⟩ := hM
  have PS := Lib.hid hps; clear hps
  have hsz : ((s : Int) == 0) = false := by simp; omega
  go_enter Try.func102, Try.ntmps102
  go_wp2_with (first
    | (go_at_call 105; refine (size_any _ _).mono ?_; rintro e w' ⟨rfl, rfl⟩; rw [S.out])
    | (go_at_call 106; refine (class_any _ _).mono ?_; rintro e w' ⟨rfl, rfl⟩; rw [CL.out])
    | (at_make; refine wpList_make_lc rfl (.tmp 12) (.tmp 16) 28 rfl 5 i0 (.int .u8 0) Try.underlying28 hi hz0 hz1 .i64 .i64 _ _ n (n + s) rfl rfl rfl (by simp) (by omega) (by rw [hz2]; omega) (by unfold maxLen; omega) w.heap.size w hb0 (Nat.le_refl _) ?_; intro w1 g G1 GE hg hb1 hbw1)
    | (refine wpList_copy_rd rfl (.tmp 18) (.tmp 19) 28 28 rfl 5 Try.underlying28 (by rw [hi]; exact congrArg some hz1) n (n + s) n c A rfl rfl _ _ G1.out bs _ (hr.below hb1) (Nat.le_refl _) (by rw [madeL_len]; omega) w.heap.size w hb1 hg ?_; intro w2 G2 hb2))
  have hown2 : Own w2 w.heap.size 5 (.slice (some ⟨g, 0, none⟩) n (n + s)) bs := by
    refine Own.of_block hr.2.1 hr.1 G2.out hg (by omega) (by unfold maxLen; omega) ?_ ?_
    · simp [splice, madeL_len, hr.1]
    · have := splice_take (madeL (.int .u8 0) (n + s)) (bs.map (Value.int .u8)) (by rw [madeL_len]; simp [hr.1])
      simpa [hr.1] using this
  have hlen := hr.1
  have HL := Lib.hid hlen
  clear hr hb0 hb1 hbw1 G1 G2 GE hlen hor
  go_loopw [7, 8] (fun v sh wr => ∃ k : Nat, k ≤ s ∧ sh = .int .i64 (8 * ((s : Int) - 1) - 8 * (k : Int)) ∧ Own wr w.heap.size 5 v (bs ++ (beS s M).take k) ∧ Below w.heap.size w wr) (fun _ sh _ => (intOf sh + 8).toNat)
  case atStart => exact ⟨0, Nat.zero_le _, by simp, by simpa using hown2, hb2⟩
  case round =>
    obtain ⟨k, hk, rfl, hown, hbr⟩ := hrel
    have hbs := hbr.size
    by_cases hlt : k < s
    · obtain ⟨j, hj⟩ : ∃ j : Nat, 8 * ((s : Int) - 1) - 8 * (k : Int) = (j : Int) := ⟨(8 * ((s : Int) - 1) - 8 * (k : Int)).toNat, by omega⟩
      have hjb : (j : Int) ≤ 56 := by omega
      have hbyte : IntKind.u8.wrap (M / 2 ^ j) = byteS s M k := by
        unfold byteS; rw [IntKind.wrap_u8, show 8 * (s - 1 - k) = j by omega]
      have hj8 : (j : Int) - 8 = 8 * ((s : Int) - 1) - 8 * ((k + 1 : Nat) : Int) := by omega
      have htk := beS_take s M k hlt
      have hll : ((beS s M).take k).length ≤ 8 := by have := List.length_take_le k (beS s M); omega
      rw [hj]
      have BY := Lib.hid hbyte
      have J8 := Lib.hid hj8
      have TK := Lib.hid htk
      clear hj hbyte hj8 htk
      go_wp2_with (at_builtin; refine wpList_append_rd rfl (.tmp 39) (.tmp 44) 28 rfl w.heap.size 5 i0 Try.underlying28 hi hz0 hz1 hz2 _ _ rfl (hown.alloc _) _ _ 1 1 [IntKind.u8.wrap (M / 2 ^ j)] rfl (Rd.lit wr 5 [IntKind.u8.wrap (M / 2 ^ j)] (fun y hy => by simp at hy; subst hy; rw [IntKind.wrap_u8]; omega) _ rfl) (by rw [List.length_append, HL.out]; omega) w (hbr.alloc hbs _) (by simp; omega) ?_; intro v' w3 hown3 hb3 hgr3)
      go_roundw
      case rel => exact ⟨k + 1, by omega, by rw [← J8.out], by rw [TK.out, ← List.append_assoc, ← BY.out]; exact hown3, hb3⟩
      case measure => simp [intOf]; omega
    · obtain rfl : k = s := by omega
      have hfin : (beS k M).take k = beS k M := List.take_of_length_le (by rw [beS_len]; omega)
      rw [hfin] at hown
      have hneg : 8 * ((k : Int) - 1) - 8 * (k : Int) = -8 := by omega
      rw [hneg]
      clear hfin hneg
      go_wp2
      go_ret2
      exact ⟨_, rfl, by rw [PS.out]; exact hown, hbr⟩
end
end Go.Proofs.Ytehdilgnlhhjdaa
