/-
  sort.Search with a closure that leaves all that was there as it was; the closures of Set; Set.first, endsBehind.
-/
import Derived.Test.YtohahkjikhpamaaQa
import Derived.WalkKit
import Derived.Deep.LoopGhost
import Derived.Shelf.Abstract
import Derived.BigQuiet
namespace Go.Proofs.Ytohahkjikhpamaa
set_option linter.unusedVariables false
set_option linter.unusedSimpArgs false
open Go.RowKit
/-- A call that leaves all that was there, and answers b. -/
abbrev SaysB (b : Bool) (W : World) (e : Ending) (W' : World) : Prop := e = .returned (.bool b) ∧ Below W.heap.size W W'
set_option maxHeartbeats 1000000 in
set_option maxRecDepth 100000 in
theorem search_any (cb : Array Value) (n k : Nat) (p : Nat → Bool) (w : World) (hsz : n < 1000000000)
    (hf : ∀ W, Below w.heap.size w W → ∀ i : Nat, i < n → Calls Try.prog 70 (#[.int .i64 i] ++ cb) W (SaysB (p i) W))
    (hk : k ≤ n) (hlo : ∀ t, t < k → p t = false) (hhi : ∀ t, k ≤ t → t < n → p t = true) :
    Calls Try.prog 69 #[.int .i64 n, .func (.func 70) #[] cb] w fun e w' => e = .returned (.int .i64 k) ∧ Below w.heap.size w w' := by
  have HF := Lib.hid hf
  have H0 := Lib.hid hlo
  have H1 := Lib.hid hhi
  clear hf hlo hhi
  go_enter Try.func69, Try.ntmps69
  go_wp2
  go_loopg [5, 6] n (fun kx s5 s6 wr => ∃ (lo hi : Nat), s5 = .int .i64 lo ∧ s6 = .int .i64 hi ∧ lo ≤ k ∧ k ≤ hi ∧ hi ≤ n ∧ hi - lo ≤ kx ∧ Below w.heap.size w wr)
  case atStart => exact ⟨0, n, rfl, rfl, Nat.zero_le _, hk, Nat.le_refl _, by omega, Below.refl _ _⟩
  case round =>
    obtain ⟨lo, hi, rfl, rfl, hlk, hkh, hin, hg, hB⟩ := hrel
    by_cases hlt : lo < hi
    · have hc := HF.out _ hB ((lo + hi) / 2) (by omega)
      rw [show (((lo + hi) / 2 : Nat) : Int) = ((lo : Int) + (hi : Int)) / 2 by omega] at hc
      by_cases hm : (lo + hi) / 2 < k
      · rw [H0.out _ hm] at hc
        go_wp2_with (go_at_call 70; refine hc.mono ?_; rintro e w' ⟨rfl, hB2⟩)
        go_roundg (hi - ((lo + hi) / 2 + 1))
        case measure => omega
        case rel => exact ⟨(lo + hi) / 2 + 1, hi, by rw [show ((lo : Int) + (hi : Int)) / 2 + 1 = (((lo + hi) / 2 + 1 : Nat) : Int) by omega], rfl, by omega, by omega, by omega, by omega, hB.trans (hB2.mono hB.size)⟩
      · rw [H1.out _ (by omega) (by omega)] at hc
        go_wp2_with (go_at_call 70; refine hc.mono ?_; rintro e w' ⟨rfl, hB2⟩)
        go_roundg ((lo + hi) / 2 - lo)
        case measure => omega
        case rel => exact ⟨lo, (lo + hi) / 2, rfl, by rw [show ((lo : Int) + (hi : Int)) / 2 = (((lo + hi) / 2 : Nat) : Int) by omega], by omega, by omega, by omega, by omega, hB.trans (hB2.mono hB.size)⟩
    · obtain rfl : lo = hi := by omega
      obtain rfl : lo = k := by omega
      go_wp2
      go_ret
      exact ⟨rfl, hB⟩
/-- A set: at p its bound and its ranges, which the call made itself. -/
structure SetV (w : World) (base p : Nat) (most : Int) (v : Value) (l : RL) : Prop where
  at_ : At w p 81 [.int .i64 most, v]
  own : OwnL w base v l
  ne : v.ownBlock ≠ some p
  bp : base ≤ p
section
variable {w w' : World} {base p : Nat} {most : Int} {v : Value} {l : RL}
theorem SetV.kept {S : Nat → Prop} (h : SetV w base p most v l) (k : Kept S w w') (hp : ¬ S p) (hv : ∀ j, v.ownBlock = some j → ¬ S j) : SetV w' base p most v l :=
  ⟨h.at_.kept k hp, h.own.kept k hv, h.ne, h.bp⟩
theorem SetV.below (h : SetV w base p most v l) (k : Below w.heap.size w w') : SetV w' base p most v l := h.kept (Kept.of_below k (fun _ => False)) (fun h => h) (fun _ _ h => h)
theorem SetV.base_ {base' : Nat} (h : SetV w base p most v l) (hb : base' ≤ base) : SetV w base' p most v l := ⟨h.at_, h.own.base_ hb, h.ne, Nat.le_trans hb h.bp⟩
end
theorem cl_add1 (b : Nat) (x lo hi : Int) (W : World) (hb : b < W.heap.size) (hc : W.cell? ⟨b, 0, none⟩ = some (.int .u64 x)) : Calls Try.prog 49 (#[.agg #[.int .u64 lo, .int .u64 hi]] ++ #[.pointer (some ⟨b, 0, none⟩)]) W (SaysB (decide (x ≤ hi)) W) := by
  have hc2 : (W.alloc (.cells #[.int .u64 lo, .int .u64 hi] 62)).cell? ⟨b, 0, none⟩ = some (.int .u64 x) := by rw [← hc]; exact World.cell?_of_block (Below.heap_alloc W _ b hb)
  go_enter Try.func49, Try.ntmps49
  go_wp2
  go_ret
  exact ⟨by first | rfl | simp, (Below.refl _ _).alloc (Nat.le_refl _) _⟩
theorem cl_add2 (b : Nat) (x lo hi : Int) (W : World) (hb : b < W.heap.size) (hc : W.cell? ⟨b, 0, none⟩ = some (.int .u64 x)) : Calls Try.prog 50 (#[.agg #[.int .u64 lo, .int .u64 hi]] ++ #[.pointer (some ⟨b, 0, none⟩)]) W (SaysB (decide (x < lo)) W) := by
  have hc2 : (W.alloc (.cells #[.int .u64 lo, .int .u64 hi] 62)).cell? ⟨b, 0, none⟩ = some (.int .u64 x) := by rw [← hc]; exact World.cell?_of_block (Below.heap_alloc W _ b hb)
  go_enter Try.func50, Try.ntmps50
  go_wp2
  go_ret
  exact ⟨by first | rfl | simp, (Below.refl _ _).alloc (Nat.le_refl _) _⟩
theorem cl_cut (b : Nat) (x lo hi : Int) (W : World) (hb : b < W.heap.size) (hc : W.cell? ⟨b, 0, none⟩ = some (.int .u64 x)) : Calls Try.prog 53 (#[.agg #[.int .u64 lo, .int .u64 hi]] ++ #[.pointer (some ⟨b, 0, none⟩)]) W (SaysB (decide (x ≤ lo)) W) := by
  have hc2 : (W.alloc (.cells #[.int .u64 lo, .int .u64 hi] 62)).cell? ⟨b, 0, none⟩ = some (.int .u64 x) := by rw [← hc]; exact World.cell?_of_block (Below.heap_alloc W _ b hb)
  go_enter Try.func53, Try.ntmps53
  go_wp2
  go_ret
  exact ⟨by first | rfl | simp, (Below.refl _ _).alloc (Nat.le_refl _) _⟩
theorem cl_ends (b : Nat) (x lo hi : Int) (W : World) (hb : b < W.heap.size) (hc : W.cell? ⟨b, 0, none⟩ = some (.int .u64 x)) : Calls Try.prog 68 (#[.agg #[.int .u64 lo, .int .u64 hi]] ++ #[.pointer (some ⟨b, 0, none⟩)]) W (SaysB (decide (x < hi)) W) := by
  have hc2 : (W.alloc (.cells #[.int .u64 lo, .int .u64 hi] 62)).cell? ⟨b, 0, none⟩ = some (.int .u64 x) := by rw [← hc]; exact World.cell?_of_block (Below.heap_alloc W _ b hb)
  go_enter Try.func68, Try.ntmps68
  go_wp2
  go_ret
  exact ⟨by first | rfl | simp, (Below.refl _ _).alloc (Nat.le_refl _) _⟩
set_option maxRecDepth 100000 in
theorem first1_any (b1 b2 p base : Nat) (most : Int) (v : Value) (l : RL) (i : Nat) (r : Int × Int) (gf : Nat) (cf : Array Value) (q : Bool) (W : World) (hi : l[i]? = some r) (hs : SetV W base p most v l) (h1 : W.cell? ⟨b1, 0, none⟩ = some (.func (.func gf) #[] cf)) (h2 : W.cell? ⟨b2, 0, none⟩ = some (.pointer (some ⟨p, 0, none⟩)))
    (eg : ∀ args w, (callFunc gf args).run Try.prog w = .ok (.enter gf args) w)
    (hc : ∀ n, Calls Try.prog gf (#[.agg #[.int .u64 r.1, .int .u64 r.2]] ++ cf) (W.drewN n) (SaysB q (W.drewN n))) :
    Calls Try.prog 70 (#[.int .i64 i] ++ #[.pointer (some ⟨b1, 0, none⟩), .pointer (some ⟨b2, 0, none⟩)]) W (SaysB q W) := by
  have hlt := (List.getElem?_eq_some_iff.1 hi).1
  obtain ⟨g, c, rfl, hbg, hg, hc0, hc1⟩ := hs.own.cell hi
  have hcv : W.cell? ⟨p, 1, none⟩ = some (.slice (some ⟨g, 0, none⟩) l.length c) := by rw [hs.at_.cell]; rfl
  have hiz : (i : Int) < ((l.length : Nat) : Int) := by omega
  have HC := Lib.hid hc
  obtain ⟨a, b⟩ := r
  simp only at hc0 hc1
  clear hs hi hc
  generalize l.length = n at *
  go_enter Try.func70, Try.ntmps70
  go_wp2
  go_region_with (go_at_fn gf; refine (HC.out 1).mono ?_; rintro e w' ⟨rfl, hB⟩)
  all_goals go_wp2
  all_goals go_ret
  all_goals exact ⟨rfl, ⟨hB.os, hB.tape, hB.output, hB.size, hB.block⟩⟩
def atP (l : RL) (q : Int × Int → Bool) (t : Nat) : Bool := match l[t]? with | some r => q r | none => true
set_option maxRecDepth 100000 in
theorem first_any (p base : Nat) (most : Int) (v : Value) (l : RL) (gf : Nat) (cf : Array Value) (q : Int × Int → Bool) (k : Nat) (w : World) (hs : SetV w base p most v l) (hn : l.length < 1000000000)
    (eg : ∀ args w, (callFunc gf args).run Try.prog w = .ok (.enter gf args) w)
    (hq : ∀ W, Below w.heap.size w W → ∀ r ∈ l, Calls Try.prog gf (#[.agg #[.int .u64 r.1, .int .u64 r.2]] ++ cf) W (SaysB (q r) W))
    (hk : k ≤ l.length) (hlo : ∀ t r, t < k → l[t]? = some r → q r = false) (hhi : ∀ t r, k ≤ t → l[t]? = some r → q r = true) :
    Calls Try.prog 48 #[.pointer (some ⟨p, 0, none⟩), .func (.func gf) #[] cf] w fun e w' => e = .returned (.int .i64 k) ∧ Below w.heap.size w w' := by
  obtain ⟨w2, hw2⟩ : ∃ w2, w2 = (w.alloc (.cells #[.pointer (some ⟨p, 0, none⟩)] 65)).alloc (.cells #[.func (.func gf) #[] cf] 91) := ⟨_, rfl⟩
  have hB0 : Below w.heap.size w w2 := by rw [hw2]; exact ((Below.refl _ w).alloc (Nat.le_refl _) _).alloc (by simp) _
  have hsz : w2.heap.size = w.heap.size + 1 + 1 := by rw [hw2]; simp
  have c2 : w2.cell? ⟨w.heap.size, 0, none⟩ = some (.pointer (some ⟨p, 0, none⟩)) := by
    rw [hw2, World.cell?_of_block (Below.heap_alloc _ _ _ (by simp)), cell_of_row _ _ _ _ _ _ (heap_alloc_new w _)]
    rfl
  have c1 : w2.cell? ⟨w.heap.size + 1, 0, none⟩ = some (.func (.func gf) #[] cf) := by
    rw [hw2]
    have := heap_alloc_new (w.alloc (.cells #[.pointer (some ⟨p, 0, none⟩)] 65)) (.cells #[.func (.func gf) #[] cf] 91)
    rw [World.size_alloc] at this
    rw [cell_of_row _ _ _ _ _ _ this]
    rfl
  have hS := search_any #[.pointer (some ⟨w.heap.size + 1, 0, none⟩), .pointer (some ⟨w.heap.size, 0, none⟩)] l.length k (atP l q) w2 hn
    (fun W hW i hi => by
      have hr : l[i]? = some l[i] := List.getElem?_eq_getElem hi
      have hB1 : Below w.heap.size w W := hB0.trans (hW.mono hB0.size)
      have hP : atP l q i = q l[i] := by unfold atP; rw [hr]
      rw [hP]
      exact first1_any (w.heap.size + 1) w.heap.size p base most v l i l[i] gf cf _ W hr (hs.below hB1) ((hW.cell (p := ⟨w.heap.size + 1, 0, none⟩) (by rw [hsz]; exact Nat.lt_succ_self _)).trans c1) ((hW.cell (p := ⟨w.heap.size, 0, none⟩) (show w.heap.size < w2.heap.size by omega)).trans c2) eg
        (fun n => hq (W.drewN n) ⟨hB1.os, hB1.tape, hB1.output, hB1.size, hB1.block⟩ _ (List.getElem_mem hi)))
    hk (fun t ht => by
      have hr : l[t]? = some l[t] := List.getElem?_eq_getElem (by omega)
      unfold atP
      rw [hr]
      exact hlo t _ ht hr) (fun t h1 h2 => by
      have hr : l[t]? = some l[t] := List.getElem?_eq_getElem h2
      unfold atP
      rw [hr]
      exact hhi t _ h1 hr)
  have HS := Lib.hid hS
  obtain ⟨A, c, rfl, hnc, _⟩ := hs.own.shape
  have hcv : World.cell? ((w.alloc (.cells #[.pointer (some ⟨p, 0, none⟩)] 65)).alloc (.cells #[.func (.func gf) #[] cf] 91)) ⟨p, 1, none⟩ = some (.slice A l.length c) := by
    have h2 := hs.below hB0
    rw [← hw2, h2.at_.cell]; rfl
  have HW := Lib.hid hw2
  have HB0 := Lib.hid hB0
  clear hw2 hB0 hsz c1 c2 hS hs hq hlo hhi
  generalize l.length = n at *
  go_enter Try.func48, Try.ntmps48
  go_wp2_with (go_at_call 69; rw [← HW.out]; refine HS.out.mono ?_; rintro e w' ⟨rfl, hB⟩)
  go_ret
  exact ⟨rfl, HB0.out.trans (hB.mono HB0.out.size)⟩
set_option maxRecDepth 100000 in
theorem ends_any (p base : Nat) (most : Int) (v : Value) (l : RL) (x : Int) (k : Nat) (w : World) (hs : SetV w base p most v l) (hn : l.length < 1000000000)
    (hk : k ≤ l.length) (hlo : ∀ t r, t < k → l[t]? = some r → r.2 ≤ x) (hhi : ∀ t r, k ≤ t → l[t]? = some r → x < r.2) :
    Calls Try.prog 47 #[.pointer (some ⟨p, 0, none⟩), .int .u64 x] w fun e w' => e = .returned (.int .i64 k) ∧ Below w.heap.size w w' := by
  obtain ⟨w2, hw2⟩ : ∃ w2, w2 = w.alloc (.cells #[.int .u64 x] 25) := ⟨_, rfl⟩
  have hB0 : Below w.heap.size w w2 := by rw [hw2]; exact (Below.refl _ w).alloc (Nat.le_refl _) _
  have hsz : w2.heap.size = w.heap.size + 1 := by rw [hw2]; simp
  have c2 : w2.cell? ⟨w.heap.size, 0, none⟩ = some (.int .u64 x) := by
    rw [hw2, cell_of_row _ _ _ _ _ _ (heap_alloc_new w _)]
    rfl
  have eg : ∀ args w, (callFunc 68 args).run Try.prog w = .ok (.enter 68 args) w := enters_of Try.func68 (by kernel_rfl) rfl
  have HS := Lib.hid (first_any p base most v l 68 #[.pointer (some ⟨w.heap.size, 0, none⟩)] (fun r => decide (x < r.2)) k w2 (hs.below hB0) hn eg
    (fun W hW r _ => cl_ends w.heap.size x r.1 r.2 W (by have := hW.size; omega) ((hW.cell (p := ⟨w.heap.size, 0, none⟩) (by rw [hsz]; exact Nat.lt_succ_self _)).trans c2))
    hk (fun t r ht hr => by have := hlo t r ht hr; simp; omega) (fun t r ht hr => by have := hhi t r ht hr; simp; omega))
  have HW := Lib.hid hw2
  have HB0 := Lib.hid hB0
  clear hw2 hB0 hsz c2 hs hlo hhi eg
  go_enter Try.func47, Try.ntmps47
  go_wp2_with (go_at_call 48; rw [← HW.out]; refine HS.out.mono ?_; rintro e w' ⟨rfl, hB⟩)
  go_ret
  exact ⟨rfl, HB0.out.trans (hB.mono HB0.out.size)⟩
end Go.Proofs.Ytohahkjikhpamaa
