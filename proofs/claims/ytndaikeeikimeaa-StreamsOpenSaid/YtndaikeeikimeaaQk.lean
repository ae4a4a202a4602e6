/-
  Set's Cut.
-/
import Derived.Test.YtndaikeeikimeaaQi
import Derived.OwnWalk
namespace Go.Proofs.Ytndaikeeikimeaa
set_option linter.unusedVariables false
set_option linter.unusedSimpArgs false
open Go.RowKit
/-- What Add makes of ranges, and what it says. -/
def addV (l : RL) (lo hi most : Int) : RL := if lo < hi ∧ hi ≤ 4611686018427387904 then addL l lo hi most else l
def addB (l : RL) (lo hi most : Int) : Bool := if lo < hi ∧ hi ≤ 4611686018427387904 then hasL (addL l lo hi most) lo else false
theorem addGo_len2 : ∀ (l : RL) (x : Int × Int), (addGo l x true).length ≤ l.length
  | [], x => by simp [addGo]
  | r :: t, x => by
    unfold addGo
    split
    · have := addGo_len2 t x; simp; omega
    · split
      · rw [if_pos rfl]
        have := addGo_len2 t x; simp; omega
      · have := addGo_len2 t (min x.1 r.1, max x.2 r.2); simp; omega
theorem addGo_len : ∀ (l : RL) (x : Int × Int) (d : Bool), (addGo l x d).length ≤ l.length + 1
  | [], x, d => by unfold addGo; split <;> simp
  | r :: t, x, d => by
    unfold addGo
    split
    · have := addGo_len t x d; simp; omega
    · split
      · split
        · have := addGo_len t x true; simp; omega
        · rename_i h1 h2 h3
          have := addGo_len2 t x
          simp; omega
      · have := addGo_len t (min x.1 r.1, max x.2 r.2) d; simp; omega
theorem lst_le (l : RL) (most : Int) : (lst most l).length ≤ l.length := by unfold lst; rw [List.length_drop]; omega
theorem addL_len (l : RL) (lo hi most : Int) : (addL l lo hi most).length ≤ l.length + 1 := Nat.le_trans (lst_le _ _) (addGo_len l (lo, hi) false)
theorem addV_gd {l : RL} (h : Gd l) (lo hi most : Int) (h0 : 0 ≤ lo) : Gd (addV l lo hi most) := by
  unfold addV
  split
  · rename_i hc
    exact addL_gd h most h0 hc.1 hc.2
  · exact h
theorem add_any' (base p : Nat) (most : Int) (v : Value) (l : RL) (w : World) (hs : SetV w base p most v l) (hn : l.length ≤ 500000) (hg : Gd l) (hb : base ≤ w.heap.size) (hm : 1 ≤ most ∧ most < 9223372036854775808) (lo hi : Int) (h0 : 0 ≤ lo) :
    Calls Try.prog 62 #[.pointer (some ⟨p, 0, none⟩), .int .u64 lo, .int .u64 hi] w (SetPost (.bool (addB l lo hi most)) base p most v (addV l lo hi most) w) := by
  unfold addB addV
  split
  · rename_i hc
    exact add_yes base p most v l w hs (by omega) hg hb hm lo hi h0 hc.1 hc.2 (by have := addL_len l lo hi most; omega)
  · rename_i hc
    exact add_no base p most v l w hs lo hi hc
end Go.Proofs.Ytndaikeeikimeaa
