/-
  What GetVar of package bits answers, for every row of bytes.
-/
import Derived.Test.YtkgeeoogmkpjhaaProg
import Derived.Test.YtkgeeoogmkpjhaaInts
import Derived.Test.YtkgeeoogmkpjhaaBytes
namespace Go.Proofs.Ytkgeeoogmkpjhaa
set_option linter.unusedVariables false
open Go.RowKit
def foldS (n : Int) (bs : List Int) : Int := bs.foldl (fun n x => n * 256 + x) n
def szS (b0 : Int) : Nat := if b0 < 64 then 1 else if b0 < 128 then 2 else if b0 < 192 then 4 else 8
/-- The number that bs begins with, and how many bytes it has. -/
def getS (bs : List Int) : Int × Int :=
  if bs = [] then (0, 0) else if bs.length < szS (bs.getD 0 0) then (0, 0)
  else (foldS (bs.getD 0 0 % 64) ((bs.take (szS (bs.getD 0 0))).drop 1), (szS (bs.getD 0 0) : Int))
theorem foldS_snoc (n : Int) (bs : List Int) (x : Int) : foldS n (bs ++ [x]) = foldS n bs * 256 + x := by simp [foldS]
theorem foldS_bd : ∀ (bs : List Int) (n : Int), Byt bs → 0 ≤ n → ∀ M : Int, n < M → 0 ≤ foldS n bs ∧ foldS n bs < M * 256 ^ bs.length
  | [], n, _, h0, M, hM => by simp [foldS]; omega
  | x :: bs, n, hb, h0, M, hM => by
    have hx := hb x (by simp)
    have := foldS_bd bs (n * 256 + x) (fun y hy => hb y (by simp [hy])) (by omega) (M * 256) (by omega)
    rw [List.length_cons, Int.pow_succ, Int.mul_comm (256 ^ bs.length), ← Int.mul_assoc]
    exact this
theorem foldS_small (bs : List Int) (n : Int) (hb : Byt bs) (h0 : 0 ≤ n) (hn : n < 64) (hl : bs.length ≤ 6) : 0 ≤ foldS n bs ∧ foldS n bs < 18014398509481984 := by
  have h := foldS_bd bs n hb h0 64 hn
  have h1 : (256 : Nat) ^ bs.length ≤ 256 ^ 6 := Nat.pow_le_pow_right (by decide) hl
  have h2 : ((256 : Int) ^ bs.length) = ((256 ^ bs.length : Nat) : Int) := by simp
  rw [h2] at h
  omega
theorem or256 (F y : Int) (h0 : 0 ≤ F) (h1 : F < 72057594037927936) (h2 : 0 ≤ y) (h3 : y < 256) : bits BinOp.or IntKind.u64 (F * 256) y = F * 256 + y := by
  rw [u64_or _ _ (by omega) (by omega) h2 (by omega), nat_join 8 _ _ (by omega) (by omega)]; omega
theorem szS_wrap (x : Int) (h0 : 0 ≤ x) (h1 : x < 256) : wrap64 (2 ^ (x / 64).toNat) = (szS x : Int) := by
  have : x / 64 = 0 ∨ x / 64 = 1 ∨ x / 64 = 2 ∨ x / 64 = 3 := by omega
  unfold szS
  rcases this with h | h | h | h <;> rw [h, wrapI]
  · rw [if_pos (by omega)]; rfl
  · rw [if_neg (by omega), if_pos (by omega)]; rfl
  · rw [if_neg (by omega), if_neg (by omega), if_pos (by omega)]; rfl
  · rw [if_neg (by omega), if_neg (by omega), if_neg (by omega)]; rfl
theorem szS_bd (x : Int) : 1 ≤ szS x ∧ szS x ≤ 8 := by unfold szS; (repeat' split) <;> omega
theorem take_drop_snoc (bs : List Int) (s k : Nat) (hk : k + 1 < s) (hs : s ≤ bs.length) :
    ((bs.take s).drop 1).take (k + 1) = ((bs.take s).drop 1).take k ++ [bs.getD (1 + k) 0] := by
  have hl : k < ((bs.take s).drop 1).length := by simp; omega
  rw [List.take_succ_eq_append_getElem hl]
  congr 2
  rw [List.getElem_drop, List.getElem_take, List.getD_eq_getElem?_getD, List.getElem?_eq_getElem (by omega)]
  rfl
theorem get_short (bs : List Int) (hn : bs ≠ []) (h : bs.length < szS (bs.getD 0 0)) : getS bs = (0, 0) := by
  unfold getS; rw [if_neg hn, if_pos h]
theorem get_full (bs : List Int) (hn : bs ≠ []) (h : szS (bs.getD 0 0) ≤ bs.length) :
    getS bs = (foldS (bs.getD 0 0 % 64) ((bs.take (szS (bs.getD 0 0))).drop 1), (szS (bs.getD 0 0) : Int)) := by
  unfold getS; rw [if_neg hn, if_neg (by omega)]
end Go.Proofs.Ytkgeeoogmkpjhaa
