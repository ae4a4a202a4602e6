/-
  Set's Cut.
-/
import Derived.Test.YtbejpafephofaaaGreatQi
import Derived.OwnWalk
namespace Go.Proofs.YtbejpafephofaaaGreat
set_option linter.unusedVariables false
set_option linter.unusedSimpArgs false
open Go.RowKit
theorem new_cells (W0 : World) (g : Nat) (hg : g = W0.heap.size) (x y : Value) (T : TypeId) : ∀ j u, [x, y][j]? = some u → (W0.alloc (.cells #[x, y] T)).cell? ((⟨g, 0, none⟩ : Addr).add j) = some u := by
  subst hg
  intro j u hj
  rw [Addr.add_lit, cell_of_row _ _ _ _ _ _ (heap_alloc_new W0 _), Nat.zero_add]
  simpa using hj
theorem two_one (x y : Int) : ∀ u ∈ [Value.int .u64 x, Value.int .u64 y], u.oneCell' = true := fun u hu => by
  simp at hu
  rcases hu with rfl | rfl <;> rfl
theorem cutB_len (lo hi : Int) (r : Int × Int) : (cutB lo hi r).length ≤ 2 := by
  unfold cutB
  split <;> split <;> simp
theorem flat_len (lo hi : Int) : ∀ B : RL, (B.flatMap (cutB lo hi)).length ≤ 2 * B.length
  | [] => Nat.zero_le _
  | r :: t => by
    have h1 := cutB_len lo hi r
    have h2 := flat_len lo hi t
    rw [List.flatMap_cons, List.length_append, List.length_cons]
    omega
/-- What the loop keeps: the parts that are left of the first k ranges. -/
structure Left (w1 : World) (lo hi : Int) (B : RL) (k : Nat) (v8 : Value) (W : World) : Prop where
  bw : Below w1.heap.size w1 W
  own : OwnL W w1.heap.size v8 ((B.take k).flatMap (cutB lo hi))
theorem left_next {w1 : World} {lo hi : Int} {B : RL} {k : Nat} {v8 : Value} {W : World} {r : Int × Int} (hr : B[k]? = some r) (bw : Below w1.heap.size w1 W) {X : RL} (hX : X = cutB lo hi r) (h : OwnL W w1.heap.size v8 ((B.take k).flatMap (cutB lo hi) ++ X)) : Left w1 lo hi B (k + 1) v8 W := by
  refine ⟨bw, ?_⟩
  rw [List.take_add_one, hr, List.flatMap_append]
  subst hX
  simpa using h
theorem ownL_of {W : World} {base : Nat} {v : Value} {l X : RL} {n m : Nat} {xs ys : List Value} (h : OwnF W base v (n + m) (xs ++ ys)) (hn : n = l.length) (hm : m = X.length) (hx : xs = rlC l) (hy : ys = rlC X) (wl : WdL l) (wx : WdL X) : OwnL W base v (l ++ X) :=
  ⟨by rw [List.length_append, rlC_app, ← hn, ← hm, ← hx, ← hy]; exact h, wl.app wx⟩
theorem stp {w1 wr : World} {v8 : Value} {L : RL} {a b : Int} (hO : OwnL wr w1.heap.size v8 L) (hB : Below w1.heap.size w1 wr) (x y : Int) :
    OwnF ((wr.alloc (.cells #[.int .u64 a, .int .u64 b] 89)).alloc (.cells #[.int .u64 x, .int .u64 y] 89)) w1.heap.size v8 L.length (rlC L) ∧ w1.heap.size ≤ ((wr.alloc (.cells #[.int .u64 a, .int .u64 b] 89)).alloc (.cells #[.int .u64 x, .int .u64 y] 89)).heap.size :=
  ⟨(hO.below (((Below.refl _ _).alloc (Nat.le_refl _) _).alloc (by simp) _)).own, by have := hB.size; simp; omega⟩
theorem aft {w w1 wr w2 : World} {v8 v2 : Value} {L : RL} {a b hi x y : Int} (hsz : w1.heap.size = w.heap.size + 1) (hc5 : w1.cell? ⟨w.heap.size, 0, none⟩ = some (.int .u64 hi)) (hO : OwnL wr w1.heap.size v8 L) (hB : Below w1.heap.size w1 wr)
    (hx : WdL [(x, y)]) (h2 : OwnF w2 w1.heap.size v2 (L.length + 1) (rlC L ++ [.int .u64 x, .int .u64 y])) (hg : ((wr.alloc (.cells #[.int .u64 a, .int .u64 b] 89)).alloc (.cells #[.int .u64 x, .int .u64 y] 89)).grownBy w2 v8.ownBlock) :
    OwnL w2 w1.heap.size v2 (L ++ [(x, y)]) ∧ Below w1.heap.size w1 w2 ∧ w2.cell? ⟨wr.heap.size, 0, none⟩ = some (.int .u64 a) ∧ w2.cell? ⟨wr.heap.size, 1, none⟩ = some (.int .u64 b) ∧ w2.cell? ⟨w.heap.size, 0, none⟩ = some (.int .u64 hi) := by
  have hk := kept_grown hg
  have hb0 : Below w1.heap.size w1 ((wr.alloc (.cells #[.int .u64 a, .int .u64 b] 89)).alloc (.cells #[.int .u64 x, .int .u64 y] 89)) := (hB.alloc hB.size _).alloc (by have := hB.size; simp; omega) _
  have hb2 : Below w1.heap.size w1 w2 := hb0.grown hg hb0.size (fun k hk => (hO.lt k hk).1)
  have hA : At ((wr.alloc (.cells #[.int .u64 a, .int .u64 b] 89)).alloc (.cells #[.int .u64 x, .int .u64 y] 89)) wr.heap.size 89 [.int .u64 a, .int .u64 b] := (At.new wr _ _).alloc _
  have hA2 := hA.kept hk (fun h => by have := (hO.lt _ h).2; omega)
  exact ⟨ownL_of h2 rfl rfl rfl rfl hO.wd hx, hb2, hA2.cell 0, hA2.cell 1, (hb2.cell (p := ⟨w.heap.size, 0, none⟩) (show w.heap.size < w1.heap.size by omega)).trans hc5⟩
theorem stp2 {w1 w2 : World} {v2 : Value} {L : RL} (hO : OwnL w2 w1.heap.size v2 L) (hB : Below w1.heap.size w1 w2) (x y : Int) :
    OwnF (w2.alloc (.cells #[.int .u64 x, .int .u64 y] 89)) w1.heap.size v2 L.length (rlC L) ∧ w1.heap.size ≤ (w2.alloc (.cells #[.int .u64 x, .int .u64 y] 89)).heap.size :=
  ⟨(hO.below ((Below.refl _ _).alloc (Nat.le_refl _) _)).own, by have := hB.size; simp; omega⟩
theorem aft2 {w1 w2 w3 : World} {v2 v3 : Value} {L : RL} {x y : Int} (hO : OwnL w2 w1.heap.size v2 L) (hB : Below w1.heap.size w1 w2)
    (hx : WdL [(x, y)]) (h2 : OwnF w3 w1.heap.size v3 (L.length + 1) (rlC L ++ [.int .u64 x, .int .u64 y])) (hg : (w2.alloc (.cells #[.int .u64 x, .int .u64 y] 89)).grownBy w3 v2.ownBlock) :
    OwnL w3 w1.heap.size v3 (L ++ [(x, y)]) ∧ Below w1.heap.size w1 w3 := by
  have hb0 : Below w1.heap.size w1 (w2.alloc (.cells #[.int .u64 x, .int .u64 y] 89)) := hB.alloc hB.size _
  exact ⟨ownL_of h2 rfl rfl rfl rfl hO.wd hx, hb0.grown hg hb0.size (fun k hk => (hO.lt k hk).1)⟩
theorem cut_no (base p : Nat) (most : Int) (v : Value) (l : RL) (w : World) (hs : SetV w base p most v l) (lo hi : Int) (h : hi ≤ lo) :
    Calls Tryz.prog 53 #[.pointer (some ⟨p, 0, none⟩), .int .u64 lo, .int .u64 hi] w (SetPost (.tuple #[]) base p most v (cutL l lo hi most) w) := by
  have e : cutL l lo hi most = l := by unfold cutL; rw [if_pos h]
  rw [e]
  have HP := Lib.hid (fun w' hB => setpost_same (w' := w') hs hB (.tuple #[]))
  clear hs e
  go_enter Tryz.func53, Tryz.ntmps53
  go_wp2
  go_end0
  exact HP.out _ ((Below.refl _ _).alloc (Nat.le_refl _) _)
set_option maxHeartbeats 4000000 in
set_option maxRecDepth 100000 in
theorem cut_yes0 (base p : Nat) (most : Int) (Av : Option Addr) (c : Nat) (l : RL) (w : World) (hs : SetV w base p most (.slice Av l.length c) l) (hn : l.length ≤ 500000) (hb : base ≤ w.heap.size) (hm : 1 ≤ most ∧ most < 9223372036854775808)
    (lo hi : Int) (h0 : 0 ≤ lo) (hlt : lo < hi) (hh : hi < 18446744073709551616) (A B C : RL) (he : l = A ++ (B ++ C)) (HEI : Hid (∀ W, Below w.heap.size w W → Calls Tryz.prog 68 #[.pointer (some ⟨p, 0, none⟩), .int .u64 lo] W fun e w' => e = .returned (.int .i64 (A.length : Nat)) ∧ Below W.heap.size W w'))
    (HFI : Hid (∀ W, Below w.heap.size w W → w.heap.size < W.heap.size → W.cell? ⟨w.heap.size, 0, none⟩ = some (.int .u64 hi) → Calls Tryz.prog 63 #[.pointer (some ⟨p, 0, none⟩), .func (.func 69) #[] #[.pointer (some ⟨w.heap.size, 0, none⟩)]] W fun e w' => e = .returned (.int .i64 (A.length + B.length : Nat)) ∧ Below W.heap.size W w'))
    (hcond : c = A.length ∧ Av = none) :
    Calls Tryz.prog 53 #[.pointer (some ⟨p, 0, none⟩), .int .u64 lo, .int .u64 hi] w (SetPost (.tuple #[]) base p most (.slice Av l.length c) (lst most (A ++ (B.flatMap (cutB lo hi) ++ C))) w) := by
  obtain ⟨w1, hw1⟩ : ∃ w1, w1 = w.alloc (.cells #[.int .u64 hi] 26) := ⟨_, rfl⟩
  have hB1 : Below w.heap.size w w1 := by rw [hw1]; exact (Below.refl _ w).alloc (Nat.le_refl _) _
  have hsz : w1.heap.size = w.heap.size + 1 := by rw [hw1]; simp
  have c5 : w1.cell? ⟨w.heap.size, 0, none⟩ = some (.int .u64 hi) := by
    rw [hw1, cell_of_row _ _ _ _ _ _ (heap_alloc_new w _)]
    rfl
  obtain ⟨A1, c1', e1, hnc, hcm⟩ := hs.own.shape
  injection e1 with e1 _ e3
  subst e1; subst e3
  have hcm' : c ≤ 9223372036854775807 := by unfold maxLen at hcm; omega
  have hil : A.length + B.length ≤ l.length := by rw [he]; simp
  have htk : l.take A.length = A := by rw [he]; exact List.take_left
  have hdr : l.drop (A.length + B.length) = C := by rw [he, ← List.append_assoc]; exact List.drop_left' (by simp)
  have hel : ∀ k r, B[k]? = some r → l[A.length + k]? = some r := fun k r hk => by
    rw [he, List.getElem?_append_right (by omega), show A.length + k - A.length = k by omega, List.getElem?_append_left (List.getElem?_eq_some_iff.1 hk).1]
    exact hk
  have hwdB : WdL B := fun r hr => hs.own.wd r (by rw [he]; exact List.mem_append_right _ (List.mem_append_left _ hr))
  have hfl := flat_len lo hi B
  have HREP := Lib.hid (fun W v8 (hB : Below w1.heap.size w1 W) (hO : OwnL W w1.heap.size v8 (B.flatMap (cutB lo hi))) => replace_any base w1.heap.size p most (.slice Av l.length c) v8 l (B.flatMap (cutB lo hi)) A.length (A.length + B.length) W (hs.below (hB1.trans (hB.mono hB1.size))) hO
    (fun k hk e => by have h1 := (hs.own.lt k hk).2; have h2 := (hO.lt k e).1; omega) (by omega) hil (by omega) (Nat.le_trans hb (hB1.trans (hB.mono hB1.size)).size) hm)
  rw [htk, hdr] at HREP
  rw [List.append_assoc] at HREP
  have HEL := Lib.hid hel
  have HS := Lib.hid hs
  have HW1 := Lib.hid hw1
  have HB1 := Lib.hid hB1
  have HSZ := Lib.hid hsz
  have HC5 := Lib.hid c5
  have HWB := Lib.hid hwdB
  have HFL := Lib.hid hfl
  have hBt : B.take B.length = B := List.take_length
  have HBT := Lib.hid hBt
  clear hs hw1 hB1 hsz c5 htk hdr hel hwdB hfl he hBt
  generalize hiA : A.length = i at *
  generalize hdB : B.length = d at *
  have HDB := Lib.hid hdB
  clear hdB hiA
  generalize hL' : lst most (A ++ (B.flatMap (cutB lo hi) ++ C)) = L' at *
  clear hL'
  generalize l.length = n at *
  obtain ⟨j, hj⟩ : ∃ j, j = i + d := ⟨_, rfl⟩
  rw [← hj] at HFI HREP
  have hjn : j ≤ n := by omega
  have hijz : (i : Int) ≤ (j : Int) := by omega
  have hjcz : (j : Int) ≤ (c : Int) := by omega
  have hdj : j - i = d := by omega
  have HJ := Lib.hid hj
  have HDJ := Lib.hid hdj
  clear hj hdj
  obtain ⟨hci, rfl⟩ := hcond
  have hc00 : c = 0 := by
    obtain ⟨A', c', e, _, _, _, h⟩ := ownF_open HS.out.own.own
    injection e with e1 e2 e3
    subst e1; subst e3
    rcases h with ⟨_, h1, h2, _⟩ | ⟨g, cur, h1, _⟩
    · exact h2
    · cases h1
  obtain rfl : n = c := by omega
  have hd0 : d = 0 := by have := HJ.out; omega
  subst hd0
  obtain rfl : j = n := by omega
  have HREP2 := Lib.hid (fun W (hB : Below w1.heap.size w1 W) => HREP.out W (.slice none 0 0) hB (by
    have e : B = [] := List.eq_nil_of_length_eq_zero HDB.out
    subst e
    exact OwnL.nil_ _ _))
  obtain rfl : j = i := by omega
  subst hc00
  clear HREP HEL HFL HBT HDB HWB HJ HDJ
  go_enter Tryz.func53, Tryz.ntmps53
  go_wp2_with (first
    | (go_at_call 68; rw [← HW1.out]; refine (HEI.out w1 HB1.out).mono ?_; rintro e w2 ⟨rfl, hB2⟩; have HB2 := Lib.hid hB2; clear hB2)
    | (go_at_call 63; refine (HFI.out _ (HB1.out.trans (HB2.out.mono HB1.out.size)) (show w.heap.size < w2.heap.size by have h1 := HB2.out.size; have h2 := HSZ.out; omega) ((HB2.out.cell (p := ⟨w.heap.size, 0, none⟩) (show w.heap.size < w1.heap.size by have h2 := HSZ.out; omega)).trans HC5.out)).mono ?_; rintro e w3 ⟨rfl, hB3⟩; have hB3' := HB2.out.trans (hB3.mono HB2.out.size); have hcv := (HS.out.below (HB1.out.trans (hB3'.mono HB1.out.size))).c1; have HB3 := Lib.hid hB3'; clear hB3 hB3'))
  go_loopg [8, 28] 0 (fun kx s8 s28 wr => s8 = .slice none 0 0 ∧ s28 = .int .i64 0 ∧ Below w1.heap.size w1 wr)
  case atStart => exact ⟨rfl, rfl, HB3.out⟩
  case round =>
    obtain ⟨rfl, rfl, hL⟩ := hrel
    have hRP := HREP2.out wr hL
    have HRP := Lib.hid hRP
    have HBW := Lib.hid hL
    clear hRP hL
    go_wp2_with (go_at_call 66; refine HRP.out.mono ?_; rintro e w4 ⟨rfl, v4, hs4, hk4, hv4⟩; have HS4 := Lib.hid hs4; clear hs4; have HK4 := Lib.hid hk4; clear hk4; have HV4 := Lib.hid hv4; clear hv4)
    go_end0
    exact add_post (HB1.out.trans (HBW.out.mono HB1.out.size)) HS4.out HK4.out HV4.out (Below.refl _ _) _
set_option maxHeartbeats 4000000 in
set_option maxRecDepth 100000 in
theorem cut_yes1 (base p : Nat) (most : Int) (Av : Option Addr) (c : Nat) (l : RL) (w : World) (hs : SetV w base p most (.slice Av l.length c) l) (hn : l.length ≤ 500000) (hb : base ≤ w.heap.size) (hm : 1 ≤ most ∧ most < 9223372036854775808)
    (lo hi : Int) (h0 : 0 ≤ lo) (hlt : lo < hi) (hh : hi < 18446744073709551616) (A B C : RL) (he : l = A ++ (B ++ C)) (HEI : Hid (∀ W, Below w.heap.size w W → Calls Tryz.prog 68 #[.pointer (some ⟨p, 0, none⟩), .int .u64 lo] W fun e w' => e = .returned (.int .i64 (A.length : Nat)) ∧ Below W.heap.size W w'))
    (HFI : Hid (∀ W, Below w.heap.size w W → w.heap.size < W.heap.size → W.cell? ⟨w.heap.size, 0, none⟩ = some (.int .u64 hi) → Calls Tryz.prog 63 #[.pointer (some ⟨p, 0, none⟩), .func (.func 69) #[] #[.pointer (some ⟨w.heap.size, 0, none⟩)]] W fun e w' => e = .returned (.int .i64 (A.length + B.length : Nat)) ∧ Below W.heap.size W w'))
    (ad : Addr) (hcond : c = A.length ∧ Av = some ad) :
    Calls Tryz.prog 53 #[.pointer (some ⟨p, 0, none⟩), .int .u64 lo, .int .u64 hi] w (SetPost (.tuple #[]) base p most (.slice Av l.length c) (lst most (A ++ (B.flatMap (cutB lo hi) ++ C))) w) := by
  obtain ⟨w1, hw1⟩ : ∃ w1, w1 = w.alloc (.cells #[.int .u64 hi] 26) := ⟨_, rfl⟩
  have hB1 : Below w.heap.size w w1 := by rw [hw1]; exact (Below.refl _ w).alloc (Nat.le_refl _) _
  have hsz : w1.heap.size = w.heap.size + 1 := by rw [hw1]; simp
  have c5 : w1.cell? ⟨w.heap.size, 0, none⟩ = some (.int .u64 hi) := by
    rw [hw1, cell_of_row _ _ _ _ _ _ (heap_alloc_new w _)]
    rfl
  obtain ⟨A1, c1', e1, hnc, hcm⟩ := hs.own.shape
  injection e1 with e1 _ e3
  subst e1; subst e3
  have hcm' : c ≤ 9223372036854775807 := by unfold maxLen at hcm; omega
  have hil : A.length + B.length ≤ l.length := by rw [he]; simp
  have htk : l.take A.length = A := by rw [he]; exact List.take_left
  have hdr : l.drop (A.length + B.length) = C := by rw [he, ← List.append_assoc]; exact List.drop_left' (by simp)
  have hel : ∀ k r, B[k]? = some r → l[A.length + k]? = some r := fun k r hk => by
    rw [he, List.getElem?_append_right (by omega), show A.length + k - A.length = k by omega, List.getElem?_append_left (List.getElem?_eq_some_iff.1 hk).1]
    exact hk
  have hwdB : WdL B := fun r hr => hs.own.wd r (by rw [he]; exact List.mem_append_right _ (List.mem_append_left _ hr))
  have hfl := flat_len lo hi B
  have HREP := Lib.hid (fun W v8 (hB : Below w1.heap.size w1 W) (hO : OwnL W w1.heap.size v8 (B.flatMap (cutB lo hi))) => replace_any base w1.heap.size p most (.slice Av l.length c) v8 l (B.flatMap (cutB lo hi)) A.length (A.length + B.length) W (hs.below (hB1.trans (hB.mono hB1.size))) hO
    (fun k hk e => by have h1 := (hs.own.lt k hk).2; have h2 := (hO.lt k e).1; omega) (by omega) hil (by omega) (Nat.le_trans hb (hB1.trans (hB.mono hB1.size)).size) hm)
  rw [htk, hdr] at HREP
  rw [List.append_assoc] at HREP
  have HEL := Lib.hid hel
  have HS := Lib.hid hs
  have HW1 := Lib.hid hw1
  have HB1 := Lib.hid hB1
  have HSZ := Lib.hid hsz
  have HC5 := Lib.hid c5
  have HWB := Lib.hid hwdB
  have HFL := Lib.hid hfl
  have hBt : B.take B.length = B := List.take_length
  have HBT := Lib.hid hBt
  clear hs hw1 hB1 hsz c5 htk hdr hel hwdB hfl he hBt
  generalize hiA : A.length = i at *
  generalize hdB : B.length = d at *
  have HDB := Lib.hid hdB
  clear hdB hiA
  generalize hL' : lst most (A ++ (B.flatMap (cutB lo hi) ++ C)) = L' at *
  clear hL'
  generalize l.length = n at *
  obtain ⟨j, hj⟩ : ∃ j, j = i + d := ⟨_, rfl⟩
  rw [← hj] at HFI HREP
  have hjn : j ≤ n := by omega
  have hijz : (i : Int) ≤ (j : Int) := by omega
  have hjcz : (j : Int) ≤ (c : Int) := by omega
  have hdj : j - i = d := by omega
  have HJ := Lib.hid hj
  have HDJ := Lib.hid hdj
  clear hj hdj
  obtain ⟨hci, rfl⟩ := hcond
  obtain rfl : n = c := by omega
  have hd0 : d = 0 := by have := HJ.out; omega
  subst hd0
  obtain rfl : j = n := by omega
  have HREP2 := Lib.hid (fun W (hB : Below w1.heap.size w1 W) => HREP.out W (.slice none 0 0) hB (by
    have e : B = [] := List.eq_nil_of_length_eq_zero HDB.out
    subst e
    exact OwnL.nil_ _ _))
  obtain rfl : j = i := by omega
  clear HREP HEL HFL HBT HDB HWB HJ HDJ
  go_enter Tryz.func53, Tryz.ntmps53
  go_wp2_with (first
    | (go_at_call 68; rw [← HW1.out]; refine (HEI.out w1 HB1.out).mono ?_; rintro e w2 ⟨rfl, hB2⟩; have HB2 := Lib.hid hB2; clear hB2)
    | (go_at_call 63; refine (HFI.out _ (HB1.out.trans (HB2.out.mono HB1.out.size)) (show w.heap.size < w2.heap.size by have h1 := HB2.out.size; have h2 := HSZ.out; omega) ((HB2.out.cell (p := ⟨w.heap.size, 0, none⟩) (show w.heap.size < w1.heap.size by have h2 := HSZ.out; omega)).trans HC5.out)).mono ?_; rintro e w3 ⟨rfl, hB3⟩; have hB3' := HB2.out.trans (hB3.mono HB2.out.size); have hcv := (HS.out.below (HB1.out.trans (hB3'.mono HB1.out.size))).c1; have HB3 := Lib.hid hB3'; clear hB3 hB3'))
  go_loopg [8, 28] 0 (fun kx s8 s28 wr => s8 = .slice none 0 0 ∧ s28 = .int .i64 0 ∧ Below w1.heap.size w1 wr)
  case atStart => exact ⟨rfl, rfl, HB3.out⟩
  case round =>
    obtain ⟨rfl, rfl, hL⟩ := hrel
    have hRP := HREP2.out wr hL
    have HRP := Lib.hid hRP
    have HBW := Lib.hid hL
    clear hRP hL
    go_wp2_with (go_at_call 66; refine HRP.out.mono ?_; rintro e w4 ⟨rfl, v4, hs4, hk4, hv4⟩; have HS4 := Lib.hid hs4; clear hs4; have HK4 := Lib.hid hk4; clear hk4; have HV4 := Lib.hid hv4; clear hv4)
    go_end0
    exact add_post (HB1.out.trans (HBW.out.mono HB1.out.size)) HS4.out HK4.out HV4.out (Below.refl _ _) _
set_option maxHeartbeats 4000000 in
set_option maxRecDepth 100000 in
theorem cut_yes2 (base p : Nat) (most : Int) (Av : Option Addr) (c : Nat) (l : RL) (w : World) (hs : SetV w base p most (.slice Av l.length c) l) (hn : l.length ≤ 500000) (hb : base ≤ w.heap.size) (hm : 1 ≤ most ∧ most < 9223372036854775808)
    (lo hi : Int) (h0 : 0 ≤ lo) (hlt : lo < hi) (hh : hi < 18446744073709551616) (A B C : RL) (he : l = A ++ (B ++ C)) (HEI : Hid (∀ W, Below w.heap.size w W → Calls Tryz.prog 68 #[.pointer (some ⟨p, 0, none⟩), .int .u64 lo] W fun e w' => e = .returned (.int .i64 (A.length : Nat)) ∧ Below W.heap.size W w'))
    (HFI : Hid (∀ W, Below w.heap.size w W → w.heap.size < W.heap.size → W.cell? ⟨w.heap.size, 0, none⟩ = some (.int .u64 hi) → Calls Tryz.prog 63 #[.pointer (some ⟨p, 0, none⟩), .func (.func 69) #[] #[.pointer (some ⟨w.heap.size, 0, none⟩)]] W fun e w' => e = .returned (.int .i64 (A.length + B.length : Nat)) ∧ Below W.heap.size W w'))
    (g : Nat) (hcond : c ≠ A.length ∧ Av = some ⟨g, 0, none⟩) :
    Calls Tryz.prog 53 #[.pointer (some ⟨p, 0, none⟩), .int .u64 lo, .int .u64 hi] w (SetPost (.tuple #[]) base p most (.slice Av l.length c) (lst most (A ++ (B.flatMap (cutB lo hi) ++ C))) w) := by
  obtain ⟨w1, hw1⟩ : ∃ w1, w1 = w.alloc (.cells #[.int .u64 hi] 26) := ⟨_, rfl⟩
  have hB1 : Below w.heap.size w w1 := by rw [hw1]; exact (Below.refl _ w).alloc (Nat.le_refl _) _
  have hsz : w1.heap.size = w.heap.size + 1 := by rw [hw1]; simp
  have c5 : w1.cell? ⟨w.heap.size, 0, none⟩ = some (.int .u64 hi) := by
    rw [hw1, cell_of_row _ _ _ _ _ _ (heap_alloc_new w _)]
    rfl
  obtain ⟨A1, c1', e1, hnc, hcm⟩ := hs.own.shape
  injection e1 with e1 _ e3
  subst e1; subst e3
  have hcm' : c ≤ 9223372036854775807 := by unfold maxLen at hcm; omega
  have hil : A.length + B.length ≤ l.length := by rw [he]; simp
  have htk : l.take A.length = A := by rw [he]; exact List.take_left
  have hdr : l.drop (A.length + B.length) = C := by rw [he, ← List.append_assoc]; exact List.drop_left' (by simp)
  have hel : ∀ k r, B[k]? = some r → l[A.length + k]? = some r := fun k r hk => by
    rw [he, List.getElem?_append_right (by omega), show A.length + k - A.length = k by omega, List.getElem?_append_left (List.getElem?_eq_some_iff.1 hk).1]
    exact hk
  have hwdB : WdL B := fun r hr => hs.own.wd r (by rw [he]; exact List.mem_append_right _ (List.mem_append_left _ hr))
  have hfl := flat_len lo hi B
  have HREP := Lib.hid (fun W v8 (hB : Below w1.heap.size w1 W) (hO : OwnL W w1.heap.size v8 (B.flatMap (cutB lo hi))) => replace_any base w1.heap.size p most (.slice Av l.length c) v8 l (B.flatMap (cutB lo hi)) A.length (A.length + B.length) W (hs.below (hB1.trans (hB.mono hB1.size))) hO
    (fun k hk e => by have h1 := (hs.own.lt k hk).2; have h2 := (hO.lt k e).1; omega) (by omega) hil (by omega) (Nat.le_trans hb (hB1.trans (hB.mono hB1.size)).size) hm)
  rw [htk, hdr] at HREP
  rw [List.append_assoc] at HREP
  have HEL := Lib.hid hel
  have HS := Lib.hid hs
  have HW1 := Lib.hid hw1
  have HB1 := Lib.hid hB1
  have HSZ := Lib.hid hsz
  have HC5 := Lib.hid c5
  have HWB := Lib.hid hwdB
  have HFL := Lib.hid hfl
  have hBt : B.take B.length = B := List.take_length
  have HBT := Lib.hid hBt
  clear hs hw1 hB1 hsz c5 htk hdr hel hwdB hfl he hBt
  generalize hiA : A.length = i at *
  generalize hdB : B.length = d at *
  have HDB := Lib.hid hdB
  clear hdB hiA
  generalize hL' : lst most (A ++ (B.flatMap (cutB lo hi) ++ C)) = L' at *
  clear hL'
  generalize l.length = n at *
  obtain ⟨j, hj⟩ : ∃ j, j = i + d := ⟨_, rfl⟩
  rw [← hj] at HFI HREP
  have hjn : j ≤ n := by omega
  have hijz : (i : Int) ≤ (j : Int) := by omega
  have hjcz : (j : Int) ≤ (c : Int) := by omega
  have hdj : j - i = d := by omega
  have HJ := Lib.hid hj
  have HDJ := Lib.hid hdj
  clear hj hdj
  obtain ⟨hci, rfl⟩ := hcond
  go_enter Tryz.func53, Tryz.ntmps53
  go_wp2_with (first
    | (go_at_call 68; rw [← HW1.out]; refine (HEI.out w1 HB1.out).mono ?_; rintro e w2 ⟨rfl, hB2⟩; have HB2 := Lib.hid hB2; clear hB2)
    | (go_at_call 63; refine (HFI.out _ (HB1.out.trans (HB2.out.mono HB1.out.size)) (show w.heap.size < w2.heap.size by have h1 := HB2.out.size; have h2 := HSZ.out; omega) ((HB2.out.cell (p := ⟨w.heap.size, 0, none⟩) (show w.heap.size < w1.heap.size by have h2 := HSZ.out; omega)).trans HC5.out)).mono ?_; rintro e w3 ⟨rfl, hB3⟩; have hB3' := HB2.out.trans (hB3.mono HB2.out.size); have hcv := (HS.out.below (HB1.out.trans (hB3'.mono HB1.out.size))).c1; have HB3 := Lib.hid hB3'; clear hB3 hB3'))
  rw [HDJ.out]
  go_loopg [8, 28] d (fun kx s8 s28 wr => ∃ (k : Nat) (v8 : Value), s8 = v8 ∧ s28 = .int .i64 k ∧ k ≤ d ∧ d - k ≤ kx ∧ Left w1 lo hi B k v8 wr)
  case atStart => exact ⟨0, _, rfl, rfl, Nat.zero_le _, by omega, ⟨HB3.out, OwnL.nil_ _ _⟩⟩
  case round =>
    obtain ⟨k, v8, rfl, rfl, hkd, hk, hL⟩ := hrel
    by_cases hkl : k < d
    · obtain ⟨r, hr⟩ : ∃ r, B[k]? = some r := ⟨_, List.getElem?_eq_getElem (by rw [HDB.out]; exact hkl)⟩
      have hs2 := HS.out.below (HB1.out.trans (hL.bw.mono HB1.out.size))
      have hcel := hs2.el (HEL.out k r hr)
      have hlk := (List.getElem?_eq_some_iff.1 (HEL.out k r hr)).1
      have he1 := hcel.1
      have he2 := hcel.2
      have hc5 := (hL.bw.cell (p := ⟨w.heap.size, 0, none⟩) (show w.heap.size < w1.heap.size by have h2 := HSZ.out; omega)).trans HC5.out
      have hc5a : (wr.alloc (.cells #[.int .u64 r.1, .int .u64 r.2] 89)).cell? ⟨w.heap.size, 0, none⟩ = some (.int .u64 hi) := (World.cell?_of_block (Below.heap_alloc wr _ w.heap.size (by have h1 := hL.bw.size; have h2 := HSZ.out; omega))).trans hc5
      have hwr := HWB.out r (List.mem_of_getElem? hr)
      have hLlen : ((B.take k).flatMap (cutB lo hi)).length ≤ 1000000 := by
        have h1 := flat_len lo hi (B.take k)
        have h2 : (B.take k).length ≤ k := by rw [List.length_take]; omega
        omega
      have hO := hL.own
      have hnx := fun v2 W (bw : Below w1.heap.size w1 W) X (hX : X = cutB lo hi r) h => left_next (v8 := v2) (W := W) hr bw hX h
      have hbw := hL.bw
      have hba : Below w1.heap.size w1 (wr.alloc (.cells #[.int .u64 r.1, .int .u64 r.2] 89)) := hbw.alloc hbw.size _
      have hOa := hO.below ((Below.refl wr.heap.size wr).alloc (Nat.le_refl _) (.cells #[.int .u64 r.1, .int .u64 r.2] 89))
      clear hL hs2 hcel hr
      generalize (B.take k).flatMap (cutB lo hi) = L at *
      obtain ⟨a, b⟩ := r
      simp only at *
      have hkz : (k : Int) < (d : Int) := by omega
      have HNX := Lib.hid hnx
      have HO := Lib.hid hO
      have HBW := Lib.hid hbw
      have HBA := Lib.hid hba
      have HOA := Lib.hid hOa
      have HLEN := Lib.hid hLlen
      have haddr : i * 2 + k * 2 = (i + k) * 2 := by omega
      clear hnx hO hbw hba hOa hLlen
      by_cases hal : a < lo
      · have S1 := Lib.hid (stp (a := a) (b := b) HO.out HBW.out a lo)
        by_cases hhb : hi < b
        · have hX : cutB lo hi (a, b) = [(a, lo), (hi, b)] := by unfold cutB; simp [hal, hhb]
          have HX := Lib.hid hX.symm
          clear hX
          go_wp2_with (first
            | (at_builtin; refine wpList_append2 rfl (.tmp 36) (.tmp 41) rfl w1.heap.size _ L.length (rlC L) rfl S1.out.1 (some ⟨_, 0, none⟩) 1 1 rfl [.int .u64 a, .int .u64 lo] rfl (fun _ => ⟨_, rfl, new_cells _ _ (by simp) _ _ _⟩) (two_one _ _) (by have := HLEN.out; omega) S1.out.2 ?_; intro v2 w2 hown2 hg2 hv2 _; obtain ⟨hO2, hB2, d0, d1, d5⟩ := aft HSZ.out HC5.out HO.out HBW.out (WdL.one hwr.1 hwr.2.1 h0 (by omega)) hown2 hg2; have HO2 := Lib.hid hO2; have HB2x := Lib.hid hB2; have S2 := Lib.hid (stp2 hO2 hB2 hi b); clear hO2 hB2 hown2 hg2 hv2)
            | (at_builtin; refine wpList_append2 rfl (.tmp 47) (.tmp 52) rfl w1.heap.size _ (L ++ [(a, lo)]).length (rlC (L ++ [(a, lo)])) rfl S2.out.1 (some ⟨_, 0, none⟩) 1 1 rfl [.int .u64 hi, .int .u64 b] rfl (fun _ => ⟨_, rfl, new_cells _ _ (by simp) _ _ _⟩) (two_one _ _) (by have := HLEN.out; rw [List.length_append, List.length_singleton]; omega) S2.out.2 ?_; intro v3 w3' hown3 hg3 hv3 _; obtain ⟨hO3, hB3⟩ := aft2 HO2.out HB2x.out (WdL.one (by omega) hh hwr.2.2.1 hwr.2.2.2) hown3 hg3; have HO3 := Lib.hid hO3; have HB3x := Lib.hid hB3; clear hO3 hB3 hown3 hg3 hv3))
          go_roundg (d - (k + 1))
          case measure => omega
          case rel => exact ⟨k + 1, _, rfl, by simp, by omega, by omega, HNX.out _ _ HB3x.out _ HX.out (by rw [show L ++ [(a, lo), (hi, b)] = L ++ [(a, lo)] ++ [(hi, b)] by simp]; exact HO3.out)⟩
        · have hX : cutB lo hi (a, b) = [(a, lo)] := by unfold cutB; simp [hal, hhb]
          have HX := Lib.hid hX.symm
          clear hX
          go_wp2_with (first
            | (at_builtin; refine wpList_append2 rfl (.tmp 36) (.tmp 41) rfl w1.heap.size _ L.length (rlC L) rfl S1.out.1 (some ⟨_, 0, none⟩) 1 1 rfl [.int .u64 a, .int .u64 lo] rfl (fun _ => ⟨_, rfl, new_cells _ _ (by simp) _ _ _⟩) (two_one _ _) (by have := HLEN.out; omega) S1.out.2 ?_; intro v2 w2 hown2 hg2 hv2 _; obtain ⟨hO2, hB2, d0, d1, d5⟩ := aft HSZ.out HC5.out HO.out HBW.out (WdL.one hwr.1 hwr.2.1 h0 (by omega)) hown2 hg2; have HO2 := Lib.hid hO2; have HB2x := Lib.hid hB2; have S2 := Lib.hid (stp2 hO2 hB2 hi b); clear hO2 hB2 hown2 hg2 hv2)
            | fail)
          go_roundg (d - (k + 1))
          case measure => omega
          case rel => exact ⟨k + 1, _, rfl, by simp, by omega, by omega, HNX.out _ _ HB2x.out _ HX.out HO2.out⟩
      · have S1 := Lib.hid (stp (a := a) (b := b) HO.out HBW.out hi b)
        by_cases hhb : hi < b
        · have hX : cutB lo hi (a, b) = [(hi, b)] := by unfold cutB; simp [hal, hhb]
          have HX := Lib.hid hX.symm
          clear hX
          go_wp2_with (first
            | (at_builtin; refine wpList_append2 rfl (.tmp 47) (.tmp 52) rfl w1.heap.size _ L.length (rlC L) rfl S1.out.1 (some ⟨_, 0, none⟩) 1 1 rfl [.int .u64 hi, .int .u64 b] rfl (fun _ => ⟨_, rfl, new_cells _ _ (by simp) _ _ _⟩) (two_one _ _) (by have := HLEN.out; omega) S1.out.2 ?_; intro v2 w2 hown2 hg2 hv2 _; obtain ⟨hO2, hB2, d0, d1, d5⟩ := aft HSZ.out HC5.out HO.out HBW.out (WdL.one (by omega) hh hwr.2.2.1 hwr.2.2.2) hown2 hg2; have HO2 := Lib.hid hO2; have HB2x := Lib.hid hB2; have S2 := Lib.hid (stp2 hO2 hB2 hi b); clear hO2 hB2 hown2 hg2 hv2)
            | fail)
          go_roundg (d - (k + 1))
          case measure => omega
          case rel => exact ⟨k + 1, _, rfl, by simp, by omega, by omega, HNX.out _ _ HB2x.out _ HX.out HO2.out⟩
        · have hX : cutB lo hi (a, b) = [] := by unfold cutB; simp [hal, hhb]
          have HX := Lib.hid hX.symm
          clear hX
          go_wp2
          go_roundg (d - (k + 1))
          case measure => omega
          case rel => exact ⟨k + 1, _, rfl, by simp, by omega, by omega, HNX.out _ _ HBA.out _ HX.out (by rw [List.append_nil]; exact HOA.out)⟩
    · have hO := hL.own
      rw [show k = d by omega, HBT.out] at hO
      have hRP := HREP.out wr _ hL.bw hO
      have HRP := Lib.hid hRP
      have HBW := Lib.hid hL.bw
      clear hRP hL hO
      have hkz : ¬ (k : Int) < (d : Int) := by omega
      go_wp2_with (go_at_call 66; refine HRP.out.mono ?_; rintro e w4 ⟨rfl, v4, hs4, hk4, hv4⟩; have HS4 := Lib.hid hs4; clear hs4; have HK4 := Lib.hid hk4; clear hk4; have HV4 := Lib.hid hv4; clear hv4)
      go_end0
      exact add_post (HB1.out.trans (HBW.out.mono HB1.out.size)) HS4.out HK4.out HV4.out (Below.refl _ _) _
theorem cut_any' (base p : Nat) (most : Int) (v : Value) (l : RL) (w : World) (hs : SetV w base p most v l) (hn : l.length ≤ 500000) (hg : Gd l) (hb : base ≤ w.heap.size) (hm : 1 ≤ most ∧ most < 9223372036854775808) (lo hi : Int) (h0 : 0 ≤ lo) (hh : hi < 18446744073709551616) :
    Calls Tryz.prog 53 #[.pointer (some ⟨p, 0, none⟩), .int .u64 lo, .int .u64 hi] w (SetPost (.tuple #[]) base p most v (cutL l lo hi most) w) := by
  rcases Int.lt_or_le lo hi with hlt | hle
  · obtain ⟨A, B, C, s⟩ := cut_split hg hlt
    have e : cutL l lo hi most = lst most (A ++ (B.flatMap (cutB lo hi) ++ C)) := by
      unfold cutL
      rw [if_neg (by omega), s.eq hg hlt]
    rw [e]
    have e2 : l = (A ++ B) ++ C := by rw [s.e, List.append_assoc]
    have q2 : ∀ t r, A.length ≤ t → l[t]? = some r → lo < r.2 := fun t r ht hr => by
      have hm := idx_right (s.e ▸ hr) ht
      have hok := hg.1 r (List.mem_of_getElem? hr)
      unfold OkR at hok
      rcases List.mem_append.1 hm with h | h
      · exact (s.b r h).1
      · have := s.c r h
        omega
    have HEI : Hid (∀ W, Below w.heap.size w W → Calls Tryz.prog 68 #[.pointer (some ⟨p, 0, none⟩), .int .u64 lo] W fun e w' => e = .returned (.int .i64 (A.length : Nat)) ∧ Below W.heap.size W w') :=
      Lib.hid fun W hB => ends_any p base most v l lo A.length W (hs.below hB) (by omega) (by rw [s.e]; simp) (fun t r ht hr => s.a r (idx_left (s.e ▸ hr) ht)) q2
    have q3 : ∀ t r, t < A.length + B.length → l[t]? = some r → r.1 < hi := fun t r ht hr => by
      have hm := idx_left (e2 ▸ hr) (by simpa using ht)
      have hok := hg.1 r (List.mem_of_getElem? hr)
      unfold OkR at hok
      rcases List.mem_append.1 hm with h | h
      · have := s.a r h
        omega
      · exact (s.b r h).2
    have eg : ∀ args w, (callFunc 69 args).run Tryz.prog w = .ok (.enter 69 args) w := enters_of Tryz.func69 (by kernel_rfl) rfl
    have HFI : Hid (∀ W, Below w.heap.size w W → w.heap.size < W.heap.size → W.cell? ⟨w.heap.size, 0, none⟩ = some (.int .u64 hi) → Calls Tryz.prog 63 #[.pointer (some ⟨p, 0, none⟩), .func (.func 69) #[] #[.pointer (some ⟨w.heap.size, 0, none⟩)]] W fun e w' => e = .returned (.int .i64 (A.length + B.length : Nat)) ∧ Below W.heap.size W w') :=
      Lib.hid fun W hB hlw hc => first_any p base most v l 69 #[.pointer (some ⟨w.heap.size, 0, none⟩)] (fun r => decide (hi ≤ r.1)) (A.length + B.length) W (hs.below hB) (by omega) eg
        (fun W' hW r _ => cl_cut w.heap.size hi r.1 r.2 W' (by have := hW.size; omega) ((hW.cell (p := ⟨w.heap.size, 0, none⟩) hlw).trans hc))
        (by rw [s.e]; simp) (fun t r ht hr => by have := q3 t r ht hr; simp; omega) (fun t r ht hr => by have := s.c r (idx_right (e2 ▸ hr) (by simpa using ht)); simp; omega)
    have hsh := hs.own
    obtain ⟨Av, c, rfl, hnc, hcm, _, ho⟩ := ownF_open hsh.own
    have hAl : A.length ≤ l.length := by rw [s.e]; simp
    rcases ho with ⟨rfl, hl0, hc0, _⟩ | ⟨g, cur, rfl, _⟩
    · exact cut_yes0 base p most none c l w hs hn hb hm lo hi h0 hlt hh A B C s.e HEI HFI ⟨by omega, rfl⟩
    · by_cases hci : c = A.length
      · exact cut_yes1 base p most _ c l w hs hn hb hm lo hi h0 hlt hh A B C s.e HEI HFI _ ⟨hci, rfl⟩
      · exact cut_yes2 base p most _ c l w hs hn hb hm lo hi h0 hlt hh A B C s.e HEI HFI g ⟨hci, rfl⟩
  · exact cut_no base p most v l w hs lo hi hle
/-- What Add makes of ranges, and what it says. -/
def addV (l : RL) (lo hi most : Int) : RL := if lo < hi ∧ hi ≤ 4611686018427387904 then addL l lo hi most else l
def addB (l : RL) (lo hi most : Int) : Bool := if lo < hi ∧ hi ≤ 4611686018427387904 then hasL (addL l lo hi most) lo else false
theorem addGo_len2 : ∀ (l : RL) (x : Int × Int), (addGo l x true).length ≤ l.length
  | [], x => by simp [addGo]
  | r :: t, x => by
    unfold addGo
    split
    · have := addGo_len2 t x; simp; omega
    · split
      · rw [if_pos rfl]
        have := addGo_len2 t x; simp; omega
      · have := addGo_len2 t (min x.1 r.1, max x.2 r.2); simp; omega
theorem addGo_len : ∀ (l : RL) (x : Int × Int) (d : Bool), (addGo l x d).length ≤ l.length + 1
  | [], x, d => by unfold addGo; split <;> simp
  | r :: t, x, d => by
    unfold addGo
    split
    · have := addGo_len t x d; simp; omega
    · split
      · split
        · have := addGo_len t x true; simp; omega
        · rename_i h1 h2 h3
          have := addGo_len2 t x
          simp; omega
      · have := addGo_len t (min x.1 r.1, max x.2 r.2) d; simp; omega
theorem lst_le (l : RL) (most : Int) : (lst most l).length ≤ l.length := by unfold lst; rw [List.length_drop]; omega
theorem addL_len (l : RL) (lo hi most : Int) : (addL l lo hi most).length ≤ l.length + 1 := Nat.le_trans (lst_le _ _) (addGo_len l (lo, hi) false)
theorem addV_len (l : RL) (lo hi most : Int) : (addV l lo hi most).length ≤ l.length + 1 := by
  unfold addV
  split
  · exact addL_len l lo hi most
  · omega
theorem addV_gd {l : RL} (h : Gd l) (lo hi most : Int) (h0 : 0 ≤ lo) : Gd (addV l lo hi most) := by
  unfold addV
  split
  · rename_i hc
    exact addL_gd h most h0 hc.1 hc.2
  · exact h
theorem add_any' (base p : Nat) (most : Int) (v : Value) (l : RL) (w : World) (hs : SetV w base p most v l) (hn : l.length ≤ 500000) (hg : Gd l) (hb : base ≤ w.heap.size) (hm : 1 ≤ most ∧ most < 9223372036854775808) (lo hi : Int) (h0 : 0 ≤ lo) :
    Calls Tryz.prog 52 #[.pointer (some ⟨p, 0, none⟩), .int .u64 lo, .int .u64 hi] w (SetPost (.bool (addB l lo hi most)) base p most v (addV l lo hi most) w) := by
  unfold addB addV
  split
  · rename_i hc
    exact add_yes base p most v l w hs (by omega) hg hb hm lo hi h0 hc.1 hc.2 (by have := addL_len l lo hi most; omega)
  · rename_i hc
    exact add_no base p most v l w hs lo hi hc
end Go.Proofs.YtbejpafephofaaaGreat
