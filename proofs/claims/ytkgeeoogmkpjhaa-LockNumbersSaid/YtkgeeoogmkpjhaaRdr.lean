/-
  Package octet's Reader: what each call answers of whatever bytes are left, and what is left behind it.
-/
import Derived.Test.YtkgeeoogmkpjhaaProg
import Derived.Test.YtkgeeoogmkpjhaaObj
import Derived.Test.YtkgeeoogmkpjhaaInts
import Derived.Test.YtkgeeoogmkpjhaaGet
import Derived.Test.YtkgeeoogmkpjhaaPut
import Derived.Deep.QuietTactic
import Derived.BigQuiet
import Derived.WalkSpells
namespace Go.Proofs.Ytkgeeoogmkpjhaa
set_option linter.unusedVariables false
open Go.RowKit
/-- What is left, and whether bytes lacked. -/
abbrev St := List Int × Bool
def takeR (s : St) (n : Int) : List Int := if 0 ≤ n ∧ n ≤ s.1.length then s.1.take n.toNat else []
def takeN (s : St) (n : Int) : St := if 0 ≤ n ∧ n ≤ s.1.length then (s.1.drop n.toNat, s.2) else ([], true)
def Rdr (w : World) (p : Nat) (T : TypeId) (P : Nat → Prop) (s : St) : Prop :=
  ∃ A n c, At w p T [.slice A n c, .bool s.2] ∧ n ≤ c ∧ c ≤ maxLen ∧ (A = none → c = 0) ∧ RdP w P A n s.1 ∧ (s.2 = true → s.1 = [])
theorem Rdr.kept {S : Nat → Prop} {w w' : World} {p : Nat} {T : TypeId} {P : Nat → Prop} {s : St} (h : Rdr w p T P s) (k : Kept S w w') (hp : ¬ S p) (hs : ∀ b, P b → ¬ S b) : Rdr w' p T P s := by
  obtain ⟨A, n, c, h1, h2, h3, h4, h5, h6⟩ := h
  exact ⟨A, n, c, h1.kept k hp, h2, h3, h4, h5.kept k hs, h6⟩
theorem Rdr.of_spoil {w : World} {p : Nat} {T : TypeId} {P : Nat → Prop} (h : At w p T [.slice none 0 0, .bool true]) : Rdr w p T P ([], true) :=
  ⟨none, 0, 0, h, Nat.le_refl _, by unfold maxLen; omega, fun _ => rfl, RdP.none_ _ _ _, fun _ => rfl⟩
def TakePost (w : World) (p : Nat) (T : TypeId) (P : Nat → Prop) (s : St) (n : Int) (e : Ending) (w' : World) : Prop :=
  ∃ A k c, e = .returned (.slice A k c) ∧ k ≤ c ∧ c ≤ maxLen ∧ (A = none → c = 0) ∧ RdP w' P A k (takeR s n) ∧ Rdr w' p T P (takeN s n) ∧ Kept (· = p) w w'
def RawPost (w : World) (p : Nat) (T : TypeId) (P : Nat → Prop) (bs : List Int) (s' : St) (e : Ending) (w' : World) : Prop :=
  ∃ v, e = .returned v ∧ Own w' w.heap.size 5 v bs ∧ Rdr w' p T P s' ∧ Kept (· = p) w w'
def NumPost (k : IntKind) (w : World) (p : Nat) (T : TypeId) (P : Nat → Prop) (x : Int) (s' : St) (e : Ending) (w' : World) : Prop :=
  e = .returned (.int k x) ∧ Rdr w' p T P s' ∧ Kept (· = p) w w'
theorem takeR_le (s : St) (n : Int) : (takeR s n).length ≤ s.1.length := by
  unfold takeR
  split
  · exact List.length_take_le' _ _
  · simp
def varR (s : St) : Int := if (getS s.1).2 = 0 then 0 else (getS s.1).1
def varN (s : St) : St := if (getS s.1).2 = 0 then ([], true) else takeN s (getS s.1).2
def byteR (s : St) : Int := (takeR s 1).getD 0 0
def twoR (s : St) : Int := (takeR s 2).getD 0 0 * 256 + (takeR s 2).getD 1 0
def textR (s : St) : List Int := takeR (varN s) (varR s)
def textN (s : St) : St := takeN (varN s) (varR s)
theorem getS_cases (bs : List Int) (hb : Byt bs) : ((getS bs).2 = 0 ∧ (getS bs).1 = 0) ∨ (1 ≤ (getS bs).2 ∧ (getS bs).2 ≤ 8 ∧ (getS bs).2 ≤ bs.length ∧ 0 ≤ (getS bs).1 ∧ (getS bs).1 ≤ 4611686018427387903) := by
  by_cases hn : bs = []
  · left; subst hn; simp [getS]
  · rcases Nat.lt_or_ge bs.length (szS (bs.getD 0 0)) with h | h
    · left; rw [get_short bs hn h]; simp
    · right
      have hs := szS_bd (bs.getD 0 0)
      rw [get_full bs hn h]
      have h0 := hb.getD 0
      have hl : ((bs.take (szS (bs.getD 0 0))).drop 1).length ≤ 7 := by rw [List.length_drop, List.length_take]; omega
      have hf := foldS_bd ((bs.take (szS (bs.getD 0 0))).drop 1) (bs.getD 0 0 % 64) ((hb.take _).drop 1) (by omega) 64 (by omega)
      have h1 : (256 : Nat) ^ ((bs.take (szS (bs.getD 0 0))).drop 1).length ≤ 256 ^ 7 := Nat.pow_le_pow_right (by decide) hl
      have h2 : ((256 : Int) ^ ((bs.take (szS (bs.getD 0 0))).drop 1).length) = ((256 ^ ((bs.take (szS (bs.getD 0 0))).drop 1).length : Nat) : Int) := by simp
      rw [h2] at hf
      refine ⟨?_, ?_, ?_, hf.1, ?_⟩
      · show (1 : Int) ≤ ((szS (bs.getD 0 0) : Nat) : Int); omega
      · show ((szS (bs.getD 0 0) : Nat) : Int) ≤ 8; omega
      · show ((szS (bs.getD 0 0) : Nat) : Int) ≤ _; omega
      · show foldS _ _ ≤ _
        have h3 : (((256 : Nat) ^ ((bs.take (szS (bs.getD 0 0))).drop 1).length : Nat) : Int) ≤ 72057594037927936 := by omega
        omega
theorem varR_bd (s : St) (hb : Byt s.1) : 0 ≤ varR s ∧ varR s ≤ 4611686018427387903 := by
  unfold varR
  rcases getS_cases s.1 hb with ⟨h, h'⟩ | ⟨h1, h2, h3, h4, h5⟩
  · rw [if_pos h]; omega
  · rw [if_neg (by omega)]; exact ⟨h4, h5⟩
theorem Rdr.byt {w : World} {p : Nat} {T : TypeId} {P : Nat → Prop} {s : St} (h : Rdr w p T P s) : Byt s.1 := by
  obtain ⟨A, n, c, h1, h2, h3, h4, h5, h6⟩ := h; exact h5.byt
end Go.Proofs.Ytkgeeoogmkpjhaa
