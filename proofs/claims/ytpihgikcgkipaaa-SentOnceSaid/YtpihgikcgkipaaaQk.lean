/-
  Set's Cut.
-/
import Derived.Test.YtpihgikcgkipaaaQi
import Derived.OwnWalk
namespace Go.Proofs.Ytpihgikcgkipaaa
set_option linter.unusedVariables false
set_option linter.unusedSimpArgs false
open Go.RowKit
theorem new_cells (W0 : World) (g : Nat) (hg : g = W0.heap.size) (x y : Value) (T : TypeId) : ∀ j u, [x, y][j]? = some u → (W0.alloc (.cells #[x, y] T)).cell? ((⟨g, 0, none⟩ : Addr).add j) = some u := by
  subst hg
  intro j u hj
  rw [Addr.add_lit, cell_of_row _ _ _ _ _ _ (heap_alloc_new W0 _), Nat.zero_add]
  simpa using hj
theorem two_one (x y : Int) : ∀ u ∈ [Value.int .u64 x, Value.int .u64 y], u.oneCell' = true := fun u hu => by
  simp at hu
  rcases hu with rfl | rfl <;> rfl
theorem cutB_len (lo hi : Int) (r : Int × Int) : (cutB lo hi r).length ≤ 2 := by
  unfold cutB
  split <;> split <;> simp
theorem flat_len (lo hi : Int) : ∀ B : RL, (B.flatMap (cutB lo hi)).length ≤ 2 * B.length
  | [] => Nat.zero_le _
  | r :: t => by
    have h1 := cutB_len lo hi r
    have h2 := flat_len lo hi t
    rw [List.flatMap_cons, List.length_append, List.length_cons]
    omega
theorem cutB_wd (lo hi : Int) (h0 : 0 ≤ lo) (h1 : lo < 18446744073709551616) (h2 : 0 ≤ hi) (h3 : hi < 18446744073709551616) (r : Int × Int) (hr : 0 ≤ r.1 ∧ r.1 < 18446744073709551616 ∧ 0 ≤ r.2 ∧ r.2 < 18446744073709551616) : WdL (cutB lo hi r) := by
  unfold cutB
  refine WdL.app ?_ ?_
  · split
    · exact WdL.one hr.1 hr.2.1 h0 h1
    · exact WdL.nil_
  · split
    · exact WdL.one h2 h3 hr.2.2.1 hr.2.2.2
    · exact WdL.nil_
/-- What the loop keeps: the parts that are left of the first k ranges. -/
structure Left (w1 : World) (lo hi : Int) (B : RL) (k : Nat) (v8 : Value) (W : World) : Prop where
  bw : Below w1.heap.size w1 W
  own : OwnL W w1.heap.size v8 ((B.take k).flatMap (cutB lo hi))
theorem left_next {w1 : World} {lo hi : Int} {B : RL} {k : Nat} {v8 : Value} {W : World} {r : Int × Int} (hr : B[k]? = some r) (bw : Below w1.heap.size w1 W) {X : RL} (hX : X = cutB lo hi r) (h : OwnL W w1.heap.size v8 ((B.take k).flatMap (cutB lo hi) ++ X)) : Left w1 lo hi B (k + 1) v8 W := by
  refine ⟨bw, ?_⟩
  rw [List.take_add_one, hr, List.flatMap_append]
  subst hX
  simpa using h
theorem ownL_of {W : World} {base : Nat} {v : Value} {l X : RL} {n m : Nat} {xs ys : List Value} (h : OwnF W base v (n + m) (xs ++ ys)) (hn : n = l.length) (hm : m = X.length) (hx : xs = rlC l) (hy : ys = rlC X) (wl : WdL l) (wx : WdL X) : OwnL W base v (l ++ X) :=
  ⟨by rw [List.length_append, rlC_app, ← hn, ← hm, ← hx, ← hy]; exact h, wl.app wx⟩
theorem stp {w1 wr : World} {v8 : Value} {L : RL} {a b : Int} (hO : OwnL wr w1.heap.size v8 L) (hB : Below w1.heap.size w1 wr) (x y : Int) :
    OwnF ((wr.alloc (.cells #[.int .u64 a, .int .u64 b] 38)).alloc (.cells #[.int .u64 x, .int .u64 y] 38)) w1.heap.size v8 L.length (rlC L) ∧ w1.heap.size ≤ ((wr.alloc (.cells #[.int .u64 a, .int .u64 b] 38)).alloc (.cells #[.int .u64 x, .int .u64 y] 38)).heap.size :=
  ⟨(hO.below (((Below.refl _ _).alloc (Nat.le_refl _) _).alloc (by simp) _)).own, by have := hB.size; simp; omega⟩
theorem aft {w w1 wr w2 : World} {v8 v2 : Value} {L : RL} {a b hi x y : Int} (hsz : w1.heap.size = w.heap.size + 1) (hc5 : w1.cell? ⟨w.heap.size, 0, none⟩ = some (.int .u64 hi)) (hO : OwnL wr w1.heap.size v8 L) (hB : Below w1.heap.size w1 wr)
    (hx : WdL [(x, y)]) (h2 : OwnF w2 w1.heap.size v2 (L.length + 1) (rlC L ++ [.int .u64 x, .int .u64 y])) (hg : ((wr.alloc (.cells #[.int .u64 a, .int .u64 b] 38)).alloc (.cells #[.int .u64 x, .int .u64 y] 38)).grownBy w2 v8.ownBlock) :
    OwnL w2 w1.heap.size v2 (L ++ [(x, y)]) ∧ Below w1.heap.size w1 w2 ∧ w2.cell? ⟨wr.heap.size, 0, none⟩ = some (.int .u64 a) ∧ w2.cell? ⟨wr.heap.size, 1, none⟩ = some (.int .u64 b) ∧ w2.cell? ⟨w.heap.size, 0, none⟩ = some (.int .u64 hi) := by
  have hk := kept_grown hg
  have hb0 : Below w1.heap.size w1 ((wr.alloc (.cells #[.int .u64 a, .int .u64 b] 38)).alloc (.cells #[.int .u64 x, .int .u64 y] 38)) := (hB.alloc hB.size _).alloc (by have := hB.size; simp; omega) _
  have hb2 : Below w1.heap.size w1 w2 := hb0.grown hg hb0.size (fun k hk => (hO.lt k hk).1)
  have hA : At ((wr.alloc (.cells #[.int .u64 a, .int .u64 b] 38)).alloc (.cells #[.int .u64 x, .int .u64 y] 38)) wr.heap.size 38 [.int .u64 a, .int .u64 b] := (At.new wr _ _).alloc _
  have hA2 := hA.kept hk (fun h => by have := (hO.lt _ h).2; omega)
  exact ⟨ownL_of h2 rfl rfl rfl rfl hO.wd hx, hb2, hA2.cell 0, hA2.cell 1, (hb2.cell (p := ⟨w.heap.size, 0, none⟩) (show w.heap.size < w1.heap.size by omega)).trans hc5⟩
theorem stp2 {w1 w2 : World} {v2 : Value} {L : RL} (hO : OwnL w2 w1.heap.size v2 L) (hB : Below w1.heap.size w1 w2) (x y : Int) :
    OwnF (w2.alloc (.cells #[.int .u64 x, .int .u64 y] 38)) w1.heap.size v2 L.length (rlC L) ∧ w1.heap.size ≤ (w2.alloc (.cells #[.int .u64 x, .int .u64 y] 38)).heap.size :=
  ⟨(hO.below ((Below.refl _ _).alloc (Nat.le_refl _) _)).own, by have := hB.size; simp; omega⟩
theorem aft2 {w1 w2 w3 : World} {v2 v3 : Value} {L : RL} {x y : Int} (hO : OwnL w2 w1.heap.size v2 L) (hB : Below w1.heap.size w1 w2)
    (hx : WdL [(x, y)]) (h2 : OwnF w3 w1.heap.size v3 (L.length + 1) (rlC L ++ [.int .u64 x, .int .u64 y])) (hg : (w2.alloc (.cells #[.int .u64 x, .int .u64 y] 38)).grownBy w3 v2.ownBlock) :
    OwnL w3 w1.heap.size v3 (L ++ [(x, y)]) ∧ Below w1.heap.size w1 w3 := by
  have hb0 : Below w1.heap.size w1 (w2.alloc (.cells #[.int .u64 x, .int .u64 y] 38)) := hB.alloc hB.size _
  exact ⟨ownL_of h2 rfl rfl rfl rfl hO.wd hx, hb0.grown hg hb0.size (fun k hk => (hO.lt k hk).1)⟩
/-- What Add makes of ranges, and what it says. -/
def addV (l : RL) (lo hi most : Int) : RL := if lo < hi ∧ hi ≤ 4611686018427387904 then addL l lo hi most else l
def addB (l : RL) (lo hi most : Int) : Bool := if lo < hi ∧ hi ≤ 4611686018427387904 then hasL (addL l lo hi most) lo else false
theorem addGo_len2 : ∀ (l : RL) (x : Int × Int), (addGo l x true).length ≤ l.length
  | [], x => by simp [addGo]
  | r :: t, x => by
    unfold addGo
    split
    · have := addGo_len2 t x; simp; omega
    · split
      · rw [if_pos rfl]
        have := addGo_len2 t x; simp; omega
      · have := addGo_len2 t (min x.1 r.1, max x.2 r.2); simp; omega
theorem addGo_len : ∀ (l : RL) (x : Int × Int) (d : Bool), (addGo l x d).length ≤ l.length + 1
  | [], x, d => by unfold addGo; split <;> simp
  | r :: t, x, d => by
    unfold addGo
    split
    · have := addGo_len t x d; simp; omega
    · split
      · split
        · have := addGo_len t x true; simp; omega
        · rename_i h1 h2 h3
          have := addGo_len2 t x
          simp; omega
      · have := addGo_len t (min x.1 r.1, max x.2 r.2) d; simp; omega
theorem lst_le (l : RL) (most : Int) : (lst most l).length ≤ l.length := by unfold lst; rw [List.length_drop]; omega
theorem addL_len (l : RL) (lo hi most : Int) : (addL l lo hi most).length ≤ l.length + 1 := Nat.le_trans (lst_le _ _) (addGo_len l (lo, hi) false)
theorem addV_len (l : RL) (lo hi most : Int) : (addV l lo hi most).length ≤ l.length + 1 := by
  unfold addV
  split
  · exact addL_len l lo hi most
  · omega
theorem addV_gd {l : RL} (h : Gd l) (lo hi most : Int) (h0 : 0 ≤ lo) : Gd (addV l lo hi most) := by
  unfold addV
  split
  · rename_i hc
    exact addL_gd h most h0 hc.1 hc.2
  · exact h
theorem add_any' (base p : Nat) (most : Int) (v : Value) (l : RL) (w : World) (hs : SetV w base p most v l) (hn : l.length ≤ 500000) (hg : Gd l) (hb : base ≤ w.heap.size) (hm : 1 ≤ most ∧ most < 9223372036854775808) (lo hi : Int) (h0 : 0 ≤ lo) :
    Calls Try.prog 43 #[.pointer (some ⟨p, 0, none⟩), .int .u64 lo, .int .u64 hi] w (SetPost (.bool (addB l lo hi most)) base p most v (addV l lo hi most) w) := by
  unfold addB addV
  split
  · rename_i hc
    exact add_yes base p most v l w hs (by omega) hg hb hm lo hi h0 hc.1 hc.2 (by have := addL_len l lo hi most; omega)
  · rename_i hc
    exact add_no base p most v l w hs lo hi hc
end Go.Proofs.Ytpihgikcgkipaaa
