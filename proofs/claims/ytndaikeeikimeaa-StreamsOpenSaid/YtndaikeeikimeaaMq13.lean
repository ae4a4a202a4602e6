/-
  What each function of package bits that turns numbers answers, for every number of its kind: Low, Extend, Rot, Zig, Zag, Clamp; Within of the statements' book.
-/
import Derived.Test.YtndaikeeikimeaaProg
import Derived.Test.YtndaikeeikimeaaMq12
import Derived.WalkKit
import Derived.ProofKit
import Derived.OpenShut
import Derived.Lib.Hide
import Derived.Outline
import Derived.WalkLawsBesides
import Derived.WalkSpells
import Derived.RegionTactic
import Derived.ChangeAlike
import Derived.Deep.QuietTactic
import Derived.BigQuiet
import Derived.SizedLaws
namespace Go.Proofs.Ytndaikeeikimeaa
section
set_option linter.unusedVariables false
open Go.RowKit
theorem ret_int {k : IntKind} {a b : Int} (h : a = b) : Ending.returned (.int k a) = .returned (.int k b) := by rw [h]
end
section
set_option linter.unusedVariables false
open Go.RowKit
theorem tmod_bd (k m : Int) (hm : 0 < m) : -(m - 1) ≤ k.tmod m ∧ k.tmod m ≤ m - 1 := by
  rcases Int.lt_or_le k 0 with h | h
  · rw [show k = -(-k) by omega, Int.neg_tmod, Int.tmod_eq_emod_of_nonneg (by omega)]
    have := Int.emod_nonneg (-k) (b := m) (by omega)
    have := Int.emod_lt_of_pos (-k) hm
    omega
  · rw [Int.tmod_eq_emod_of_nonneg h]
    have := Int.emod_nonneg k (b := m) (by omega)
    have := Int.emod_lt_of_pos k hm
    omega
theorem tmod_emod (k m : Int) (hm : 0 < m) : k % m = if k.tmod m < 0 then k.tmod m + m else k.tmod m := by
  have hb := tmod_bd k m hm
  have e : k.tmod m % m = k % m := by
    rw [Int.tmod_def, Int.sub_mul_emod_self_left]
  rw [← e]
  split
  · rw [← Int.add_emod_right, Int.emod_eq_of_lt (by omega) (by omega)]
  · exact Int.emod_eq_of_lt (by omega) (by omega)
def withinS (n lo hi : Int) : Int := if lo ≤ n ∧ n ≤ hi then n else lo + n % (hi - lo + 1)
theorem withinS_bd (n lo hi : Int) (h : lo ≤ hi) : lo ≤ withinS n lo hi ∧ withinS n lo hi ≤ hi := by
  unfold withinS
  have a := Int.emod_nonneg n (b := hi - lo + 1) (by omega)
  have b := Int.emod_lt_of_pos n (b := hi - lo + 1) (by omega)
  split <;> omega
theorem within_any (n lo hi : Int) (w : World) (hn0 : -9223372036854775808 ≤ n) (hn1 : n ≤ 9223372036854775807) (hlo : -4611686018427387904 ≤ lo) (hlh : lo ≤ hi) (hhi : hi ≤ 4611686018427387902) :
    Calls Try.prog 15 #[.int .i64 n, .int .i64 lo, .int .i64 hi] w fun e w' => e = .returned (.int .i64 (withinS n lo hi)) ∧ w = w' := by
  by_cases hin : lo ≤ n ∧ n ≤ hi
  · have hfin : withinS n lo hi = n := by unfold withinS; rw [if_pos hin]
    have H := Lib.hid hfin; clear hfin
    obtain ⟨h1, h2⟩ := hin
    go_enter Try.func15, Try.ntmps15
    go_wp2
    go_ret
    exact ⟨ret_int (by rw [H.out]), rfl⟩
  · have hfin : withinS n lo hi = lo + if n.tmod (hi - lo + 1) < 0 then n.tmod (hi - lo + 1) + (hi - lo + 1) else n.tmod (hi - lo + 1) := by
      unfold withinS; rw [if_neg hin, tmod_emod _ _ (by omega)]
    have H := Lib.hid hfin; clear hfin
    have hb := tmod_bd n (hi - lo + 1) (by omega)
    obtain ⟨hb0, hb1⟩ := hb
    rcases Int.lt_or_le n 0 with hneg | hneg
    · rcases Int.lt_or_le n lo with h1 | h1
      · go_enter Try.func15, Try.ntmps15
        go_wp2
        all_goals
          go_ret
          exact ⟨ret_int (by rw [H.out]; split <;> omega), rfl⟩
      · have h2 : hi < n := by omega
        go_enter Try.func15, Try.ntmps15
        go_wp2
        all_goals
          go_ret
          exact ⟨ret_int (by rw [H.out]; split <;> omega), rfl⟩
    · rw [Int.tmod_eq_emod_of_nonneg hneg] at H hb0 hb1
      rcases Int.lt_or_le n lo with h1 | h1
      · go_enter Try.func15, Try.ntmps15
        go_wp2
        all_goals
          go_ret
          exact ⟨ret_int (by rw [H.out]; split <;> omega), rfl⟩
      · have h2 : hi < n := by omega
        go_enter Try.func15, Try.ntmps15
        go_wp2
        all_goals
          go_ret
          exact ⟨ret_int (by rw [H.out]; split <;> omega), rfl⟩
end
section
set_option linter.unusedVariables false
open Go.RowKit Go.ChangeShapes Go.WideShapes Go.Deep
end
section
set_option linter.unusedVariables false
set_option linter.unusedSimpArgs false
open Go.RowKit
/-- Where all is acknowledged nothing waits. -/
theorem waits_all {S : OS} (h : S.ok) {limit : Nat} (ha : ∀ j, j < S.bs.length → S.ak j = true) (he : S.ea = true) : waitsO S limit = false := by
  obtain ⟨k1, _, k3, k4, k5⟩ := nextR_in h 1 limit
  unfold waitsO
  cases hy : (nextR S 1 limit).yes with
  | false => rfl
  | true =>
    rcases Nat.eq_zero_or_pos (nextR S 1 limit).n with e | e
    · have := (k3 (k5 hy e)).2.1
      unfold endO at this
      rw [he] at this
      simp at this
    · have := nextR_new h 1 limit (nextR S 1 limit).off (Nat.le_refl _) (by omega)
      rw [ha _ (by omega)] at this
      cases this
section
variable {w0 W W' : World} {p : Nat} {S : OS} {F : Nat → Prop}
/-- A change of a block that it has nothing to do with. -/
theorem Oz.other (h : Oz w0 W p S F) {g : Nat} (hF : F g) (hg : w0.heap.size ≤ g) (k : Kept (· = g) W W') : Oz w0 W' p S F := by
  obtain ⟨O, h1, h2⟩ := h.bf
  refine ⟨h.ok, ⟨O, h1.kept k fun b hb e => ?_, fun b hb => ⟨(h2 b hb).1, Nat.lt_of_lt_of_le (h2 b hb).2 k.size⟩⟩, k.below h.bl h.bl.size fun j hj => by omega⟩
  subst e
  exact (h2 b hF).1 hb
end
/-- The law's state: what it has of flags, behind i rounds. -/
structure Cq (w0 W : World) (p g : Nat) (D : List Int) (S : OS) (f : Nat → Bool) (i : Nat) (en : Bool) : Prop where
  oz : Oz w0 W p S (fun b => b = g)
  cv : Cv S
  bs : S.bs = D
  lk : (i : Int) + lackO S ≤ 201 + (min i 300 : Nat)
  fl : At W g 4 ((tabB f D.length).map Value.bool)
  fa : ∀ j, j < D.length → S.ak j = true → f j = true
  ee : S.ea = true → en = true
  ge : w0.heap.size ≤ g
section
variable {w0 W W' : World} {p g : Nat} {D : List Int} {S : OS} {f : Nat → Bool} {i : Nat} {en : Bool}
theorem Cq.below (h : Cq w0 W p g D S f i en) (k : Below W.heap.size W W') : Cq w0 W' p g D S f i en := { h with oz := h.oz.below k, fl := h.fl.below k h.fl.lt }
theorem Cq.lost (h : Cq w0 W p g D S f i en) (k : Nat) (hi : i < 300) {W1 : World} (hz : Oz w0 W1 p (lostO (nextO S k 1000) (nextR S k 1000).off (nextR S k 1000).n (nextR S k 1000).fin) (fun b => b = g)) (hg : W1.heap[g]? = W.heap[g]?) :
    Cq w0 W1 p g D (lostO (nextO S k 1000) (nextR S k 1000).off (nextR S k 1000).n (nextR S k 1000).fin) f (i + 1) en :=
  ⟨hz, h.cv.lost, h.bs, by rw [lack_lost]; have := h.lk; omega, hg.trans h.fl, h.fa, h.ee, h.ge⟩
/-- All went. -/
theorem Cq.all (h : Cq w0 W p g D S f i en) (k : Nat) (hk : 0 < k) (hD : D.length ≤ 200) (hn : (nextR S k 1000).yes = false) : (∀ j, j < D.length → f j = true) ∧ en = true ∧ wholeO S = true ∧ waitsO S 1000 = false := by
  obtain ⟨k1, k2, k3⟩ := h.cv.all hk (by rw [h.bs]; omega) hn
  exact ⟨fun j hj => h.fa j hj (k1 j (by rw [h.bs]; exact hj)), h.ee k2, k3, waits_all h.cv.ok k1 k2⟩
end
end
end Go.Proofs.Ytndaikeeikimeaa
