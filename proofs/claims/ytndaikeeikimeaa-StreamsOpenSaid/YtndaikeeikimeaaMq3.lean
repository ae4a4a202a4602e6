/-
  sort.Search with a closure that leaves all that was there as it was; the closures of Set; Set.first, endsBehind.
-/
import Derived.Test.YtndaikeeikimeaaQa
import Derived.WalkKit
import Derived.Deep.LoopGhost
import Derived.Shelf.Abstract
import Derived.BigQuiet
import Derived.Test.YtndaikeeikimeaaMq2
import Derived.Test.YtndaikeeikimeaaMq1
namespace Go.Proofs.Ytndaikeeikimeaa
section
set_option linter.unusedVariables false
set_option linter.unusedSimpArgs false
open Go.RowKit
/-- A call that leaves all that was there, and answers b. -/
abbrev SaysB (b : Bool) (W : World) (e : Ending) (W' : World) : Prop := e = .returned (.bool b) ∧ Below W.heap.size W W'
set_option maxHeartbeats 1000000 in
set_option maxRecDepth 100000 in
theorem search_any (cb : Array Value) (n k : Nat) (p : Nat → Bool) (w : World) (hsz : n < 1000000000)
    (hf : ∀ W, Below w.heap.size w W → ∀ i : Nat, i < n → Calls Try.prog 70 (#[.int .i64 i] ++ cb) W (SaysB (p i) W))
    (hk : k ≤ n) (hlo : ∀ t, t < k → p t = false) (hhi : ∀ t, k ≤ t → t < n → p t = true) :
    Calls Try.prog 69 #[.int .i64 n, .func (.func 70) #[] cb] w fun e w' => e = .returned (.int .i64 k) ∧ Below w.heap.size w w' := by
  have HF := Lib.hid hf
  have H0 := Lib.hid hlo
  have H1 := Lib.hid hhi
  clear hf hlo hhi
  go_enter Try.func69, Try.ntmps69
  go_wp2
  go_loopg [5, 6] n (fun kx s5 s6 wr => ∃ (lo hi : Nat), s5 = .int .i64 lo ∧ s6 = .int .i64 hi ∧ lo ≤ k ∧ k ≤ hi ∧ hi ≤ n ∧ hi - lo ≤ kx ∧ Below w.heap.size w wr)
  case atStart => exact ⟨0, n, rfl, rfl, Nat.zero_le _, hk, Nat.le_refl _, by omega, Below.refl _ _⟩
  case round =>
    obtain ⟨lo, hi, rfl, rfl, hlk, hkh, hin, hg, hB⟩ := hrel
    by_cases hlt : lo < hi
    · have hc := HF.out _ hB ((lo + hi) / 2) (by omega)
      rw [show (((lo + hi) / 2 : Nat) : Int) = ((lo : Int) + (hi : Int)) / 2 by omega] at hc
      by_cases hm : (lo + hi) / 2 < k
      · rw [H0.out _ hm] at hc
        go_wp2_with (go_at_call 70; refine hc.mono ?_; rintro e w' ⟨rfl, hB2⟩)
        go_roundg (hi - ((lo + hi) / 2 + 1))
        case measure => omega
        case rel => exact ⟨(lo + hi) / 2 + 1, hi, by rw [show ((lo : Int) + (hi : Int)) / 2 + 1 = (((lo + hi) / 2 + 1 : Nat) : Int) by omega], rfl, by omega, by omega, by omega, by omega, hB.trans (hB2.mono hB.size)⟩
      · rw [H1.out _ (by omega) (by omega)] at hc
        go_wp2_with (go_at_call 70; refine hc.mono ?_; rintro e w' ⟨rfl, hB2⟩)
        go_roundg ((lo + hi) / 2 - lo)
        case measure => omega
        case rel => exact ⟨lo, (lo + hi) / 2, rfl, by rw [show ((lo : Int) + (hi : Int)) / 2 = (((lo + hi) / 2 : Nat) : Int) by omega], by omega, by omega, by omega, by omega, hB.trans (hB2.mono hB.size)⟩
    · obtain rfl : lo = hi := by omega
      obtain rfl : lo = k := by omega
      go_wp2
      go_ret
      exact ⟨rfl, hB⟩
/-- A set: at p its bound and its ranges, which the call made itself. -/
structure SetV (w : World) (base p : Nat) (most : Int) (v : Value) (l : RL) : Prop where
  at_ : At w p 98 [.int .i64 most, v]
  own : OwnL w base v l
  ne : v.ownBlock ≠ some p
  bp : base ≤ p
section
variable {w w' : World} {base p : Nat} {most : Int} {v : Value} {l : RL}
theorem SetV.kept {S : Nat → Prop} (h : SetV w base p most v l) (k : Kept S w w') (hp : ¬ S p) (hv : ∀ j, v.ownBlock = some j → ¬ S j) : SetV w' base p most v l :=
  ⟨h.at_.kept k hp, h.own.kept k hv, h.ne, h.bp⟩
theorem SetV.below (h : SetV w base p most v l) (k : Below w.heap.size w w') : SetV w' base p most v l := h.kept (Kept.of_below k (fun _ => False)) (fun h => h) (fun _ _ h => h)
theorem SetV.base_ {base' : Nat} (h : SetV w base p most v l) (hb : base' ≤ base) : SetV w base' p most v l := ⟨h.at_, h.own.base_ hb, h.ne, Nat.le_trans hb h.bp⟩
end
theorem cl_add1 (b : Nat) (x lo hi : Int) (W : World) (hb : b < W.heap.size) (hc : W.cell? ⟨b, 0, none⟩ = some (.int .u64 x)) : Calls Try.prog 65 (#[.agg #[.int .u64 lo, .int .u64 hi]] ++ #[.pointer (some ⟨b, 0, none⟩)]) W (SaysB (decide (x ≤ hi)) W) := by
  have hc2 : (W.alloc (.cells #[.int .u64 lo, .int .u64 hi] 105)).cell? ⟨b, 0, none⟩ = some (.int .u64 x) := by rw [← hc]; exact World.cell?_of_block (Below.heap_alloc W _ b hb)
  go_enter Try.func65, Try.ntmps65
  go_wp2
  go_ret
  exact ⟨by first | rfl | simp, (Below.refl _ _).alloc (Nat.le_refl _) _⟩
theorem cl_add2 (b : Nat) (x lo hi : Int) (W : World) (hb : b < W.heap.size) (hc : W.cell? ⟨b, 0, none⟩ = some (.int .u64 x)) : Calls Try.prog 66 (#[.agg #[.int .u64 lo, .int .u64 hi]] ++ #[.pointer (some ⟨b, 0, none⟩)]) W (SaysB (decide (x < lo)) W) := by
  have hc2 : (W.alloc (.cells #[.int .u64 lo, .int .u64 hi] 105)).cell? ⟨b, 0, none⟩ = some (.int .u64 x) := by rw [← hc]; exact World.cell?_of_block (Below.heap_alloc W _ b hb)
  go_enter Try.func66, Try.ntmps66
  go_wp2
  go_ret
  exact ⟨by first | rfl | simp, (Below.refl _ _).alloc (Nat.le_refl _) _⟩
theorem cl_ends (b : Nat) (x lo hi : Int) (W : World) (hb : b < W.heap.size) (hc : W.cell? ⟨b, 0, none⟩ = some (.int .u64 x)) : Calls Try.prog 64 (#[.agg #[.int .u64 lo, .int .u64 hi]] ++ #[.pointer (some ⟨b, 0, none⟩)]) W (SaysB (decide (x < hi)) W) := by
  have hc2 : (W.alloc (.cells #[.int .u64 lo, .int .u64 hi] 105)).cell? ⟨b, 0, none⟩ = some (.int .u64 x) := by rw [← hc]; exact World.cell?_of_block (Below.heap_alloc W _ b hb)
  go_enter Try.func64, Try.ntmps64
  go_wp2
  go_ret
  exact ⟨by first | rfl | simp, (Below.refl _ _).alloc (Nat.le_refl _) _⟩
set_option maxRecDepth 100000 in
theorem first1_any (b1 b2 p base : Nat) (most : Int) (v : Value) (l : RL) (i : Nat) (r : Int × Int) (gf : Nat) (cf : Array Value) (q : Bool) (W : World) (hi : l[i]? = some r) (hs : SetV W base p most v l) (h1 : W.cell? ⟨b1, 0, none⟩ = some (.func (.func gf) #[] cf)) (h2 : W.cell? ⟨b2, 0, none⟩ = some (.pointer (some ⟨p, 0, none⟩)))
    (eg : ∀ args w, (callFunc gf args).run Try.prog w = .ok (.enter gf args) w)
    (hc : ∀ n, Calls Try.prog gf (#[.agg #[.int .u64 r.1, .int .u64 r.2]] ++ cf) (W.drewN n) (SaysB q (W.drewN n))) :
    Calls Try.prog 70 (#[.int .i64 i] ++ #[.pointer (some ⟨b1, 0, none⟩), .pointer (some ⟨b2, 0, none⟩)]) W (SaysB q W) := by
  have hlt := (List.getElem?_eq_some_iff.1 hi).1
  obtain ⟨g, c, rfl, hbg, hg, hc0, hc1⟩ := hs.own.cell hi
  have hcv : W.cell? ⟨p, 1, none⟩ = some (.slice (some ⟨g, 0, none⟩) l.length c) := by rw [hs.at_.cell]; rfl
  have hiz : (i : Int) < ((l.length : Nat) : Int) := by omega
  have HC := Lib.hid hc
  obtain ⟨a, b⟩ := r
  simp only at hc0 hc1
  clear hs hi hc
  generalize l.length = n at *
  go_enter Try.func70, Try.ntmps70
  go_wp2
  go_region_with (go_at_fn gf; refine (HC.out 1).mono ?_; rintro e w' ⟨rfl, hB⟩)
  all_goals go_wp2
  all_goals go_ret
  all_goals exact ⟨rfl, ⟨hB.os, hB.tape, hB.output, hB.size, hB.block⟩⟩
def atP (l : RL) (q : Int × Int → Bool) (t : Nat) : Bool := match l[t]? with | some r => q r | none => true
set_option maxRecDepth 100000 in
theorem first_any (p base : Nat) (most : Int) (v : Value) (l : RL) (gf : Nat) (cf : Array Value) (q : Int × Int → Bool) (k : Nat) (w : World) (hs : SetV w base p most v l) (hn : l.length < 1000000000)
    (eg : ∀ args w, (callFunc gf args).run Try.prog w = .ok (.enter gf args) w)
    (hq : ∀ W, Below w.heap.size w W → ∀ r ∈ l, Calls Try.prog gf (#[.agg #[.int .u64 r.1, .int .u64 r.2]] ++ cf) W (SaysB (q r) W))
    (hk : k ≤ l.length) (hlo : ∀ t r, t < k → l[t]? = some r → q r = false) (hhi : ∀ t r, k ≤ t → l[t]? = some r → q r = true) :
    Calls Try.prog 63 #[.pointer (some ⟨p, 0, none⟩), .func (.func gf) #[] cf] w fun e w' => e = .returned (.int .i64 k) ∧ Below w.heap.size w w' := by
  obtain ⟨w2, hw2⟩ : ∃ w2, w2 = (w.alloc (.cells #[.pointer (some ⟨p, 0, none⟩)] 81)).alloc (.cells #[.func (.func gf) #[] cf] 111) := ⟨_, rfl⟩
  have hB0 : Below w.heap.size w w2 := by rw [hw2]; exact ((Below.refl _ w).alloc (Nat.le_refl _) _).alloc (by simp) _
  have hsz : w2.heap.size = w.heap.size + 1 + 1 := by rw [hw2]; simp
  have c2 : w2.cell? ⟨w.heap.size, 0, none⟩ = some (.pointer (some ⟨p, 0, none⟩)) := by
    rw [hw2, World.cell?_of_block (Below.heap_alloc _ _ _ (by simp)), cell_of_row _ _ _ _ _ _ (heap_alloc_new w _)]
    rfl
  have c1 : w2.cell? ⟨w.heap.size + 1, 0, none⟩ = some (.func (.func gf) #[] cf) := by
    rw [hw2]
    have := heap_alloc_new (w.alloc (.cells #[.pointer (some ⟨p, 0, none⟩)] 81)) (.cells #[.func (.func gf) #[] cf] 111)
    rw [World.size_alloc] at this
    rw [cell_of_row _ _ _ _ _ _ this]
    rfl
  have hS := search_any #[.pointer (some ⟨w.heap.size + 1, 0, none⟩), .pointer (some ⟨w.heap.size, 0, none⟩)] l.length k (atP l q) w2 hn
    (fun W hW i hi => by
      have hr : l[i]? = some l[i] := List.getElem?_eq_getElem hi
      have hB1 : Below w.heap.size w W := hB0.trans (hW.mono hB0.size)
      have hP : atP l q i = q l[i] := by unfold atP; rw [hr]
      rw [hP]
      exact first1_any (w.heap.size + 1) w.heap.size p base most v l i l[i] gf cf _ W hr (hs.below hB1) ((hW.cell (p := ⟨w.heap.size + 1, 0, none⟩) (by rw [hsz]; exact Nat.lt_succ_self _)).trans c1) ((hW.cell (p := ⟨w.heap.size, 0, none⟩) (show w.heap.size < w2.heap.size by omega)).trans c2) eg
        (fun n => hq (W.drewN n) ⟨hB1.os, hB1.tape, hB1.output, hB1.size, hB1.block⟩ _ (List.getElem_mem hi)))
    hk (fun t ht => by
      have hr : l[t]? = some l[t] := List.getElem?_eq_getElem (by omega)
      unfold atP
      rw [hr]
      exact hlo t _ ht hr) (fun t h1 h2 => by
      have hr : l[t]? = some l[t] := List.getElem?_eq_getElem h2
      unfold atP
      rw [hr]
      exact hhi t _ h1 hr)
  have HS := Lib.hid hS
  obtain ⟨A, c, rfl, hnc, _⟩ := hs.own.shape
  have hcv : World.cell? ((w.alloc (.cells #[.pointer (some ⟨p, 0, none⟩)] 81)).alloc (.cells #[.func (.func gf) #[] cf] 111)) ⟨p, 1, none⟩ = some (.slice A l.length c) := by
    have h2 := hs.below hB0
    rw [← hw2, h2.at_.cell]; rfl
  have HW := Lib.hid hw2
  have HB0 := Lib.hid hB0
  clear hw2 hB0 hsz c1 c2 hS hs hq hlo hhi
  generalize l.length = n at *
  go_enter Try.func63, Try.ntmps63
  go_wp2_with (go_at_call 69; rw [← HW.out]; refine HS.out.mono ?_; rintro e w' ⟨rfl, hB⟩)
  go_ret
  exact ⟨rfl, HB0.out.trans (hB.mono HB0.out.size)⟩
set_option maxRecDepth 100000 in
theorem ends_any (p base : Nat) (most : Int) (v : Value) (l : RL) (x : Int) (k : Nat) (w : World) (hs : SetV w base p most v l) (hn : l.length < 1000000000)
    (hk : k ≤ l.length) (hlo : ∀ t r, t < k → l[t]? = some r → r.2 ≤ x) (hhi : ∀ t r, k ≤ t → l[t]? = some r → x < r.2) :
    Calls Try.prog 61 #[.pointer (some ⟨p, 0, none⟩), .int .u64 x] w fun e w' => e = .returned (.int .i64 k) ∧ Below w.heap.size w w' := by
  obtain ⟨w2, hw2⟩ : ∃ w2, w2 = w.alloc (.cells #[.int .u64 x] 22) := ⟨_, rfl⟩
  have hB0 : Below w.heap.size w w2 := by rw [hw2]; exact (Below.refl _ w).alloc (Nat.le_refl _) _
  have hsz : w2.heap.size = w.heap.size + 1 := by rw [hw2]; simp
  have c2 : w2.cell? ⟨w.heap.size, 0, none⟩ = some (.int .u64 x) := by
    rw [hw2, cell_of_row _ _ _ _ _ _ (heap_alloc_new w _)]
    rfl
  have eg : ∀ args w, (callFunc 64 args).run Try.prog w = .ok (.enter 64 args) w := enters_of Try.func64 (by kernel_rfl) rfl
  have HS := Lib.hid (first_any p base most v l 64 #[.pointer (some ⟨w.heap.size, 0, none⟩)] (fun r => decide (x < r.2)) k w2 (hs.below hB0) hn eg
    (fun W hW r _ => cl_ends w.heap.size x r.1 r.2 W (by have := hW.size; omega) ((hW.cell (p := ⟨w.heap.size, 0, none⟩) (by rw [hsz]; exact Nat.lt_succ_self _)).trans c2))
    hk (fun t r ht hr => by have := hlo t r ht hr; simp; omega) (fun t r ht hr => by have := hhi t r ht hr; simp; omega))
  have HW := Lib.hid hw2
  have HB0 := Lib.hid hB0
  clear hw2 hB0 hsz c2 hs hlo hhi eg
  go_enter Try.func61, Try.ntmps61
  go_wp2_with (go_at_call 63; rw [← HW.out]; refine HS.out.mono ?_; rintro e w' ⟨rfl, hB⟩)
  go_ret
  exact ⟨rfl, HB0.out.trans (hB.mono HB0.out.size)⟩
end
section
set_option linter.unusedVariables false
set_option linter.unusedSimpArgs false
open Go.RowKit
theorem new_any (m : Int) (w : World) (hm : -9223372036854775808 ≤ m ∧ m < 9223372036854775808) :
    Calls Try.prog 45 #[.int .i64 m] w fun e w' => e = .returned (.pointer (some ⟨w.heap.size, 0, none⟩)) ∧ SetV w' w.heap.size w.heap.size (max m 1) (.slice none 0 0) [] ∧ Below w.heap.size w w' := by
  have hA := fun x : Int => At.new w 98 [.int .i64 x, .slice none 0 0]
  have key : ∀ x : Int, SetV (w.alloc (.cells #[.int .i64 x, .slice none 0 0] 98)) w.heap.size w.heap.size x (.slice none 0 0) [] ∧ Below w.heap.size w (w.alloc (.cells #[.int .i64 x, .slice none 0 0] 98)) :=
    fun x => ⟨⟨hA x, OwnL.nil_ _ _, (by intro h; cases h), Nat.le_refl _⟩, (Below.refl _ _).alloc (Nat.le_refl _) _⟩
  clear hA
  rcases Int.lt_or_le m 1 with h | h
  · rw [Int.max_eq_right (Int.le_of_lt h)]
    have HK := Lib.hid (key 1)
    clear key
    go_enter Try.func45, Try.ntmps45
    go_wp2
    all_goals go_ret
    all_goals exact ⟨rfl, HK.out⟩
  · rw [Int.max_eq_left h]
    have HK := Lib.hid (key m)
    clear key
    go_enter Try.func45, Try.ntmps45
    go_wp2
    all_goals go_ret
    all_goals exact ⟨rfl, HK.out⟩
/-- What a call that changes a set leaves. -/
def SetPost (r : Value) (base p : Nat) (most : Int) (v : Value) (l' : RL) (w : World) (e : Ending) (w' : World) : Prop :=
  e = .returned r ∧ ∃ v', SetV w' base p most v' l' ∧ Kept (fun b => b = p ∨ v.ownBlock = some b) w w' ∧ ∀ k, v'.ownBlock = some k → v.ownBlock = some k ∨ w.heap.size ≤ k
theorem SetV.store {w w' : World} {base p : Nat} {most : Int} {v v' : Value} {l l' : RL} (h : SetV w base p most v l) (hl : OwnL w' base v' l') (hk : Kept (fun b => v.ownBlock = some b) w w') (hv : ∀ k, v'.ownBlock = some k → v.ownBlock = some k ∨ w.heap.size ≤ k) :
    SetV (w'.setCell ⟨p, 1, none⟩ v') base p most v' l' := by
  have hne : v'.ownBlock ≠ some p := fun e => by
    rcases hv p e with h1 | h1
    · exact h.ne h1
    · have := h.at_.lt
      omega
  refine ⟨(h.at_.kept hk h.ne).set 1 v', hl.keep fun k hk => Below.heap_setCell _ _ _ _ ?_, hne, h.bp⟩
  rintro rfl
  exact hne hk
set_option maxHeartbeats 1000000 in
set_option maxRecDepth 100000 in
theorem replace_any (base basev p : Nat) (most : Int) (v vv : Value) (l rs : RL) (i j : Nat) (w : World) (hs : SetV w base p most v l) (hr : OwnL w basev vv rs) (hne : ∀ k, v.ownBlock = some k → vv.ownBlock ≠ some k)
    (hij : i ≤ j) (hj : j ≤ l.length) (hN : l.length + rs.length ≤ 2000000) (hb : base ≤ w.heap.size) (hm : 1 ≤ most ∧ most < 9223372036854775808) :
    Calls Try.prog 67 #[.pointer (some ⟨p, 0, none⟩), .int .i64 i, .int .i64 j, vv] w (SetPost (.tuple #[]) base p most v (lst most (l.take i ++ rs ++ l.drop j)) w) := by
  have HR := Lib.hid (lreplace_any base basev v vv l rs i j w hs.own hr hne hij hj hN hb)
  have HS := Lib.hid hs
  have hcv : w.cell? ⟨p, 1, none⟩ = some v := by rw [hs.at_.cell]; rfl
  have hpl := hs.at_.lt
  have hL : (l.take i ++ rs ++ l.drop j).length ≤ 2000000 := by simp; omega
  have HL := Lib.hid hL
  clear hs hr hne hL
  generalize hX : l.take i ++ rs ++ l.drop j = X at *
  clear hX
  go_enter Try.func67, Try.ntmps67
  go_wp2_with (go_at_call 71; refine HR.out.mono ?_; rintro e w2 ⟨v2, rfl, hO2, hK2, hv2⟩; obtain ⟨A2, c2, rfl, hn2, hcm2⟩ := hO2.shape; have hs2 := HS.out.store hO2 hK2 hv2; have hp2 := HS.out.at_.kept hK2 HS.out.ne; have hc2 : w2.cell? ⟨p, 1, none⟩ = some v := (by rw [hp2.cell]; rfl); have hf2 := hp2.frozen 1; have HP2 := Lib.hid hp2; clear hp2)
  have hK3 := (hK2.mono (S' := fun b => b = p ∨ v.ownBlock = some b) fun b h => .inl (.inr h)).setCell (p := ⟨p, 1, none⟩) (.inl (.inl rfl)) (.slice A2 X.length c2)
  generalize World.setCell w2 _ _ = W at *
  have hcs := hs2.at_.cell 1
  have hcm := hs2.at_.cell 0
  simp at hcs hcm
  have HL2 := HL.out
  have HK3 := Lib.hid hK3
  have HS2 := Lib.hid hs2
  have HV2 := Lib.hid hv2
  clear hK3 hs2 hv2 hO2 hK2 hc2 hf2
  generalize hXl : X.length = n at *
  have HXL := Lib.hid hXl
  clear hXl
  have hov : IntKind.i64.wrap ((n : Int) - most) = (n : Int) - most := by rw [IntKind.wrap_i64]; omega
  go_quiet (fail)
  generalize hW : World.drewN W _ = W3
  have hs3 : SetV W3 base p most (.slice A2 n c2) X := by subst hW; exact HS2.out.kept ((Kept.refl (fun _ => False) _).drewN _) (fun h => h) (fun _ _ h => h)
  have hk3 : Kept (fun b => b = p ∨ v.ownBlock = some b) w W3 := by subst hW; exact HK3.out.drewN _
  clear hW hcs hcm HS2 HK3
  have hcs := hs3.at_.cell 1
  have hcm := hs3.at_.cell 0
  simp at hcs hcm
  have HS2 := Lib.hid hs3
  have HK3 := Lib.hid hk3
  have hb3 : base ≤ W3.heap.size := Nat.le_trans hb hk3.size
  clear hs3 hk3
  by_cases hlt : (most : Int) < (n : Int)
  · obtain ⟨k, hk⟩ : ∃ k : Nat, (n : Int) - most = (k : Int) := ⟨((n : Int) - most).toNat, by omega⟩
    rw [hk] at hov ⊢
    have HD := Lib.hid (ldel_any base (.slice A2 n c2) X k W3 HS2.out.own (by omega) (by rw [HXL.out]; omega) (by rw [HXL.out]; omega) hb3)
    have hkp : (0 : Int) < (k : Int) := by omega
    have HK := Lib.hid hk
    clear hk hov
    go_wp2_with (go_at_call 72; refine HD.out.mono ?_; rintro e w4 ⟨v4, rfl, hO4, hK4, hv4⟩; obtain ⟨A4, c4, rfl, hn4, hcm4⟩ := hO4.shape; have hs4 := HS2.out.store hO4 hK4 hv4; rw [List.length_drop] at hs4 hv4; have hp4 := HS2.out.at_.kept hK4 HS2.out.ne; have hc4 : w4.cell? ⟨p, 1, none⟩ = some (.slice A2 n c2) := (by rw [hp4.cell]; rfl); have hf4 := hp4.frozen 1; clear hp4; have HS4 := Lib.hid hs4; clear hs4; have HK4 := Lib.hid hK4; clear hK4; have HV4 := Lib.hid hv4; clear hv4; have HO4 := Lib.hid hO4; clear hO4)
    go_end0
    have e : lst most X = X.drop k := by
      unfold lst
      rw [HXL.out, show n - (max most 1).toNat = k by have := HK.out; omega]
    rw [e]
    refine ⟨rfl, _, HS4.out, (HK3.out.trans' HK4.out fun j hj => ?_).setCell (.inl (.inl rfl)) _, fun j hj => ?_⟩
    · rcases HV2.out j hj with h | h
      · exact .inl (.inr h)
      · exact .inr h
    · rcases HV4.out j hj with h | h
      · exact HV2.out j h
      · exact .inr (Nat.le_trans HK3.out.size h)
  · have hpos : ¬ (0 : Int) < (n : Int) - most := by omega
    go_wp2
    go_end0
    have e : lst most X = X := lst_small (by rw [HXL.out]; omega)
    rw [e]
    exact ⟨rfl, _, HS2.out, HK3.out, HV2.out⟩
end
section
set_option linter.unusedVariables false
set_option linter.unusedSimpArgs false
open Go.RowKit
section
variable {w : World} {base p : Nat} {most : Int} {v : Value} {l : RL}
theorem SetV.c1 (h : SetV w base p most v l) : w.cell? ⟨p, 1, none⟩ = some v := by rw [h.at_.cell]; rfl
theorem SetV.c0 (h : SetV w base p most v l) : w.cell? ⟨p, 0, none⟩ = some (.int .i64 most) := by rw [h.at_.cell]; rfl
theorem SetV.el {g n c : Nat} (h : SetV w base p most (.slice (some ⟨g, 0, none⟩) n c) l) {i : Nat} {r : Int × Int} (hi : l[i]? = some r) : w.cell? ⟨g, i * 2, none⟩ = some (.int .u64 r.1) ∧ w.cell? ⟨g, i * 2 + 1, none⟩ = some (.int .u64 r.2) := by
  obtain ⟨g', c', e, _, _, h1, h2⟩ := h.own.cell hi
  injection e with e _ _
  injection e with e
  injection e with e
  subst e
  exact ⟨h1, h2⟩
theorem SetV.some_ (h : SetV w base p most v l) (h0 : 0 < l.length) : ∃ g c, v = .slice (some ⟨g, 0, none⟩) l.length c ∧ l.length ≤ c ∧ c ≤ maxLen := by
  obtain ⟨A, c, rfl, h1, h2⟩ := h.own.shape
  obtain ⟨g, c', e, _⟩ := h.own.cell (List.getElem?_eq_getElem h0)
  injection e with e1 _ e3
  subst e1; subst e3
  exact ⟨g, c, rfl, h1, h2⟩
end
set_option maxRecDepth 100000 in
theorem has_any' (base p : Nat) (most : Int) (v : Value) (l : RL) (w : World) (hs : SetV w base p most v l) (hn : l.length ≤ 2000000) (hg : Gd l) (x : Int) : Calls Try.prog 68 #[.pointer (some ⟨p, 0, none⟩), .int .u64 x] w (SaysB (hasL l x) w) := by
  obtain ⟨A, B, e, ha, hb⟩ := split_at (fun r => decide (x < r.2)) l (hg.mono _ fun a b h1 h2 h3 h4 => by unfold OkR at *; simp at *; omega)
  have ha' : ∀ r ∈ A, r.2 ≤ x := fun r hr => by have := ha r hr; simp at this; exact this
  have hb' : ∀ r ∈ B, x < r.2 := fun r hr => by have := hb r hr; simpa using this
  have HE := Lib.hid (ends_any p base most v l x A.length w hs (by omega) (by rw [e]; simp) (fun t r ht hr => ha' r (idx_left (e ▸ hr) ht)) (fun t r ht hr => hb' r (idx_right (e ▸ hr) ht)))
  have HH := Lib.hid (has_at hg e ha' hb')
  clear ha hb ha' hb'
  have HS := Lib.hid hs
  cases B with
  | nil =>
    obtain ⟨Av, c, rfl, _, _⟩ := hs.own.shape
    clear hs
    have hk : A.length = l.length := by rw [e]; simp
    rw [hk] at HE
    clear hk
    rw [HH.out]
    clear HH e
    unfold headLe
    simp only
    generalize l.length = n at *
    go_enter Try.func68, Try.ntmps68
    go_wp2_with (go_at_call 61; refine HE.out.mono ?_; rintro e w2 ⟨rfl, hB⟩; have hc := (HS.out.below hB).c1)
    go_ret
    exact ⟨by first | rfl | simp, hB⟩
  | cons r t =>
    have hi : l[A.length]? = some r := by rw [e, List.getElem?_append_right (Nat.le_refl _), Nat.sub_self]; rfl
    have hlt := (List.getElem?_eq_some_iff.1 hi).1
    obtain ⟨g, c, rfl, hnc, _⟩ := hs.some_ (by omega)
    clear hs
    have HI := Lib.hid hi
    clear hi
    rw [HH.out]
    clear HH e
    unfold headLe
    simp only
    generalize A.length = k at *
    have hkz : (k : Int) < (l.length : Nat) := by omega
    generalize l.length = n at *
    go_enter Try.func68, Try.ntmps68
    go_wp2_with (go_at_call 61; refine HE.out.mono ?_; rintro e w2 ⟨rfl, hB⟩; have hs2 := HS.out.below hB; have hc := hs2.c1; have he := (hs2.el HI.out).1; clear hs2)
    go_ret
    exact ⟨by first | rfl | simp, hB⟩
end
end Go.Proofs.Ytndaikeeikimeaa
