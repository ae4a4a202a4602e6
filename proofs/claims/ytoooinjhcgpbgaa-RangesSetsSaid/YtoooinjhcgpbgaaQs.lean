/-
  The document's sets: least, Add, Cut.
-/
import Derived.Test.YtoooinjhcgpbgaaQr
import Derived.Test.YtoooinjhcgpbgaaQk
import Derived.BigQuiet
namespace Go.Proofs.Ytoooinjhcgpbgaa
set_option linter.unusedVariables false
set_option linter.unusedSimpArgs false
open Go.RowKit
/-- A new row of ranges, or the old one; nothing else has changed. -/
def LPost (base : Nat) (v : Value) (l' : RL) (w : World) (e : Ending) (w' : World) : Prop :=
  ∃ v', e = .returned v' ∧ OwnL w' base v' l' ∧ Below w.heap.size w w' ∧ ∀ k, v'.ownBlock = some k → v.ownBlock = some k ∨ w.heap.size ≤ k
theorem new2 (W0 : World) (g : Nat) (hg : g = W0.heap.size) (x y : Value) (T : TypeId) : ∀ j u, [x, y][j]? = some u → (W0.alloc (.cells #[x, y] T)).cell? ((⟨g, 0, none⟩ : Addr).add j) = some u := by
  subst hg
  intro j u hj
  rw [Addr.add_lit, cell_of_row _ _ _ _ _ _ (heap_alloc_new W0 _), Nat.zero_add]
  simpa using hj
theorem one2 (x y : Int) : ∀ u ∈ [Value.int .u64 x, Value.int .u64 y], u.oneCell' = true := fun u hu => by
  simp at hu
  rcases hu with rfl | rfl <;> rfl
set_option maxHeartbeats 1000000 in
set_option maxRecDepth 100000 in
theorem least_any (base : Nat) (v : Value) (l : RL) (w : World) (hl : OwnL w base v l) (hn : l.length ≤ 2000000) (hb : base ≤ w.heap.size) (most : Int) (hm : -9223372036854775808 ≤ most ∧ most < 9223372036854775808) :
    Calls Try.prog 31 #[v, .int .i64 most] w (LPost base v (lst most l) w) := by
  obtain ⟨m, hmm⟩ : ∃ m, m = max most 1 := ⟨_, rfl⟩
  by_cases hlt : m < (l.length : Nat)
  · obtain ⟨d, hd⟩ : ∃ d : Nat, (l.length : Int) - m = (d : Int) := ⟨((l.length : Int) - m).toNat, by omega⟩
    have e : lst most l = l.drop d := by unfold lst; rw [← hmm, show l.length - m.toNat = d by omega]
    rw [e]
    obtain ⟨A, c, rfl, hnc, hcm⟩ := hl.shape
    have hl0 : l[0]? = some l[0] := List.getElem?_eq_getElem (by omega)
    obtain ⟨g, rfl⟩ := hl.at_ hl0
    clear hl0
    have hsrc0 : ∀ j u, (rlC l)[j]? = some u → w.cell? ⟨g, j, none⟩ = some u := fun j u hj => by
      obtain ⟨g', c', e, h⟩ := ownF_flat hl.own j u hj
      injection e with e _ _
      injection e with e
      injection e with e
      subst e
      exact h
    have hglt : g < w.heap.size := (hl.lt g rfl).2
    have hsrc : 0 < l.length - d → ∃ ad, some (⟨g, d * 2, none⟩ : Addr) = some ad ∧ ∀ j u, ((rlC l).drop (d * 2))[j]? = some u → (w.alloc (.cells #[] 41)).cell? (ad.add j) = some u := fun _ => ⟨_, rfl, fun j u hj => by
      rw [List.getElem?_drop] at hj
      rw [Addr.add_lit]
      exact (World.cell?_of_block (Below.heap_alloc w _ g hglt)).trans (hsrc0 _ _ hj)⟩
    have hown : OwnF (w.alloc (.cells #[] 41)) w.heap.size (.slice (some ⟨w.heap.size, 0, none⟩) 0 0) 0 [] := ⟨rfl, .inr ⟨_, 0, _, rfl, Nat.le_refl _, heap_alloc_new w _, Nat.le_refl _, by unfold maxLen; omega, rfl, rfl⟩⟩
    have hs1 : w.heap.size ≤ (w.alloc (.cells #[] 41)).heap.size := by simp
    have hb1 : Below w.heap.size w (w.alloc (.cells #[] 41)) := (Below.refl _ _).alloc (Nat.le_refl _) _
    have hlen : ((rlC l).drop (d * 2)).length = (l.length - d) * 2 := by rw [List.length_drop, rlC_len]; omega
    have hone : ∀ u ∈ (rlC l).drop (d * 2), u.oneCell' = true := fun u hu => rlC_one l u (List.mem_of_mem_drop hu)
    have HX := Lib.hid (rlC_drop l d)
    have HLL := Lib.hid (show (l.drop d).length = l.length - d from List.length_drop)
    have HW := Lib.hid (hl.wd.drop d)
    have hcm' : c ≤ 9223372036854775807 := by unfold maxLen at hcm; omega
    clear hl hsrc0 e
    generalize (rlC l).drop (d * 2) = xs at *
    generalize l.length = n at *
    have hw1 : IntKind.i64.wrap ((n : Int) - m) = (d : Int) := by rw [IntKind.wrap_i64]; omega
    have hdn : d ≤ n := by omega
    have hdz : (d : Int) ≤ (n : Int) := by omega
    have hcd : ¬ c = d := by omega
    have HD := Lib.hid hd
    clear hd
    rcases Int.lt_or_le most 1 with h1 | h1
    · obtain rfl : m = 1 := by omega
      clear hmm
      have hw1' : (n : Int) - 1 = (d : Int) := HD.out
      go_enter Try.func31, Try.ntmps31
      go_wp2_with (at_builtin; refine wpList_append2 rfl (.tmp 11) (.tmp 17) rfl w.heap.size _ 0 [] rfl hown (some ⟨g, d * 2, none⟩) (n - d) (c - d) rfl xs hlen hsrc hone (by omega) hs1 ?_; intro v2 w2 hown2 hg2 hv2 _; have hb2 := hb1.grown hg2 hs1 (fun k hk => (ownF_lt hown k hk).1))
      go_ret
      refine ⟨v2, rfl, ⟨?_, HW.out⟩, hb2, fun k hk => .inr ?_⟩
      · rw [HX.out, HLL.out]
        have h2 := hown2
        rw [Nat.zero_add, List.nil_append] at h2
        refine ⟨h2.1, ?_⟩
        rcases h2.2 with h0 | ⟨g', cap, cur, e, hb', hr⟩
        · exact .inl h0
        · exact .inr ⟨g', cap, cur, e, Nat.le_trans hb hb', hr⟩
      · rcases hv2 with h | h
        · rw [h] at hk
          have : w.heap.size = k := Option.some.inj hk
          omega
        · rw [h] at hk
          have := Option.some.inj hk
          simp at this
          omega
    · obtain rfl : m = most := by omega
      clear hmm
      have hw1' : (n : Int) - m = (d : Int) := HD.out
      go_enter Try.func31, Try.ntmps31
      go_wp2_with (at_builtin; refine wpList_append2 rfl (.tmp 11) (.tmp 17) rfl w.heap.size _ 0 [] rfl hown (some ⟨g, d * 2, none⟩) (n - d) (c - d) rfl xs hlen hsrc hone (by omega) hs1 ?_; intro v2 w2 hown2 hg2 hv2 _; have hb2 := hb1.grown hg2 hs1 (fun k hk => (ownF_lt hown k hk).1))
      go_ret
      refine ⟨v2, rfl, ⟨?_, HW.out⟩, hb2, fun k hk => .inr ?_⟩
      · rw [HX.out, HLL.out]
        have h2 := hown2
        rw [Nat.zero_add, List.nil_append] at h2
        refine ⟨h2.1, ?_⟩
        rcases h2.2 with h0 | ⟨g', cap, cur, e, hb', hr⟩
        · exact .inl h0
        · exact .inr ⟨g', cap, cur, e, Nat.le_trans hb hb', hr⟩
      · rcases hv2 with h | h
        · rw [h] at hk
          have : w.heap.size = k := Option.some.inj hk
          omega
        · rw [h] at hk
          have := Option.some.inj hk
          simp at this
          omega
  · have e : lst most l = l := by unfold lst; rw [show l.length - (max most 1).toNat = 0 by omega]; rfl
    rw [e]
    have HL := Lib.hid hl
    obtain ⟨A, c, rfl, hnc, hcm⟩ := hl.shape
    clear hl e
    generalize l.length = n at *
    rcases Int.lt_or_le most 1 with h1 | h1
    · obtain rfl : m = 1 := by omega
      clear hmm
      go_enter Try.func31, Try.ntmps31
      go_wp2
      go_ret
      exact ⟨_, rfl, HL.out, Below.refl _ _, fun k hk => .inl hk⟩
    · obtain rfl : m = most := by omega
      clear hmm
      go_enter Try.func31, Try.ntmps31
      go_wp2
      go_ret
      exact ⟨_, rfl, HL.out, Below.refl _ _, fun k hk => .inl hk⟩
/-- What the loop of Add keeps: what came out so far, and the range that is being made, in its block. -/
structure RB (w : World) (v9 : Value) (L : RL) (x : Int × Int) (W : World) : Prop where
  bw : Below w.heap.size w W
  own : OwnL W (w.heap.size + 1) v9 L
  at_ : At W w.heap.size 41 [.int .u64 x.1, .int .u64 x.2]
theorem RB.drewN {w W : World} {v9 : Value} {L : RL} {x : Int × Int} (h : RB w v9 L x W) (n : Nat) : RB w v9 L x (W.drewN n) :=
  ⟨⟨h.bw.os, h.bw.tape, h.bw.output, h.bw.size, h.bw.block⟩, h.own.keep fun k hk => rfl, h.at_.drewN n⟩
theorem RB.drew {w W : World} {v9 : Value} {L : RL} {x : Int × Int} (h : RB w v9 L x W) : RB w v9 L x W.drew :=
  ⟨⟨h.bw.os, h.bw.tape, h.bw.output, h.bw.size, h.bw.block⟩, h.own.keep fun k hk => rfl, h.at_.drew⟩
theorem RB.set {w W : World} {v9 : Value} {L : RL} {x : Int × Int} (h : RB w v9 L x W) (a b : Int) : RB w v9 L (a, b) ((W.setCell ⟨w.heap.size, 0, none⟩ (.int .u64 a)).setCell ⟨w.heap.size, 1, none⟩ (.int .u64 b)) :=
  ⟨(h.bw.setCell (Nat.le_refl _) _).setCell (Nat.le_refl _) _, h.own.keep fun k hk => by
    have h1 := (h.own.lt k hk).1
    rw [Below.heap_setCell _ _ _ _ (show k ≠ w.heap.size by omega), Below.heap_setCell _ _ _ _ (show k ≠ w.heap.size by omega)], (h.at_.set 0 _).set 1 _⟩
theorem RB.own1 {w W : World} {v9 : Value} {L : RL} {x : Int × Int} (h : RB w v9 L x W) (a b : Int) :
    OwnF (W.alloc (.cells #[.int .u64 a, .int .u64 b] 41)) (w.heap.size + 1) v9 L.length (rlC L) ∧ w.heap.size + 1 ≤ (W.alloc (.cells #[.int .u64 a, .int .u64 b] 41)).heap.size :=
  ⟨(h.own.below ((Below.refl _ _).alloc (Nat.le_refl _) _)).own, by have := h.bw.size; simp; omega⟩
theorem RB.put {w W W2 : World} {v9 v2 : Value} {L : RL} {x : Int × Int} (h : RB w v9 L x W) {a b : Int} (hx : WdL [(a, b)]) (h2 : OwnF W2 (w.heap.size + 1) v2 (L.length + 1) (rlC L ++ [.int .u64 a, .int .u64 b])) (hg : (W.alloc (.cells #[.int .u64 a, .int .u64 b] 41)).grownBy W2 v9.ownBlock) : RB w v2 (L ++ [(a, b)]) x W2 := by
  have hk : Kept (fun k => v9.ownBlock = some k) (W.alloc (.cells #[.int .u64 a, .int .u64 b] 41)) W2 := Kept.of_grown hg fun k hk => .inl hk
  have hb0 := h.bw.alloc h.bw.size (.cells #[.int .u64 a, .int .u64 b] 41)
  refine ⟨hb0.grown hg hb0.size (fun k hk => by have := (h.own.lt k hk).1; omega), ⟨?_, h.own.wd.app hx⟩, (h.at_.alloc _).kept hk fun e => by have := (h.own.lt _ e).1; omega⟩
  rw [List.length_append, rlC_app]
  exact h2
set_option maxHeartbeats 4000000 in
set_option maxRecDepth 100000 in
theorem radd_any (base : Nat) (v : Value) (l : RL) (w : World) (hl : OwnL w base v l) (hn : l.length ≤ 1000000) (lo hi most : Int) (h0 : 0 ≤ lo) (h1 : lo < 18446744073709551616) (h2 : 0 ≤ hi) (h3 : hi < 18446744073709551616) (hm : -9223372036854775808 ≤ most ∧ most < 9223372036854775808) :
    Calls Try.prog 21 #[v, .int .u64 lo, .int .u64 hi, .int .i64 most] w fun e w' => ∃ v', e = .returned v' ∧ OwnL w' w.heap.size v' (addL l lo hi most) ∧ Below w.heap.size w w' := by
  obtain ⟨w1, hw1⟩ : ∃ w1, w1 = w.alloc (.cells #[.int .u64 lo, .int .u64 hi] 41) := ⟨_, rfl⟩
  have hrb1 : RB w (.slice none 0 0) [] (lo, hi) w1 := by
    rw [hw1]
    exact ⟨(Below.refl _ w).alloc (Nat.le_refl _) _, OwnL.nil_ _ _, At.new w _ [.int .u64 lo, .int .u64 hi]⟩
  have HL := Lib.hid hl
  have HWD := Lib.hid hl.wd
  have HW1 := Lib.hid hw1
  have HRB1 := Lib.hid hrb1
  obtain ⟨A, c, rfl, hnc, hcm⟩ := hl.shape
  have hD : l.drop l.length = [] := List.drop_eq_nil_of_le (Nat.le_refl _)
  obtain ⟨n, hnl⟩ : ∃ n, l.length = n := ⟨_, rfl⟩
  have HN := Lib.hid hnl
  have HD := Lib.hid hD
  rw [hnl] at hnc hn
  rw [hnl] at HL HD ⊢
  have hT : (addGo l (lo, hi) false).length ≤ n + 1 := by rw [← hnl]; exact addGo_len l (lo, hi) false
  have HT := Lib.hid hT
  unfold addL
  generalize hR : addGo l (lo, hi) false = Rr at *
  have HR := Lib.hid hR
  clear hnl hD hl hw1 hrb1 hT hR
  go_enter Try.func21, Try.ntmps21
  go_wp2
  rw [← HW1.out]
  go_loopg [9, 11, 12] n (fun kx s9 s11 s12 wr => ∃ (i : Nat) (v9 : Value) (L : RL) (x : Int × Int) (dd : Bool), v9 = s9 ∧ s11 = .bool dd ∧ s12 = .int .i64 i ∧ i ≤ n ∧ n - i ≤ kx ∧ Hid (RB w v9 L x wr ∧ L.length ≤ 2 * i ∧ (0 ≤ x.1 ∧ x.1 < 18446744073709551616 ∧ 0 ≤ x.2 ∧ x.2 < 18446744073709551616) ∧ L ++ addGo (l.drop i) x dd = Rr))
  case atStart => exact ⟨0, _, [], (lo, hi), false, rfl, rfl, rfl, Nat.zero_le _, by omega, HRB1.out, by simp, ⟨h0, h1, h2, h3⟩, by rw [List.drop_zero]; exact HR.out⟩
  case round =>
    obtain ⟨i, v9, L, x, dd, rfl, rfl, rfl, hin, hk, hinv⟩ := hrel
    obtain ⟨hrb, hlen, hwx, heq⟩ := hinv.out
    clear hinv
    have HRB := Lib.hid hrb
    have HLEN := Lib.hid hlen
    have HEQ := Lib.hid heq
    clear hlen heq
    by_cases hlt : i < n
    · obtain ⟨r, hi⟩ : ∃ r, l[i]? = some r := ⟨_, List.getElem?_eq_getElem (by rw [HN.out]; exact hlt)⟩
      have hdr : l.drop i = r :: l.drop (i + 1) := by
        have h0 := (List.getElem?_eq_some_iff.1 hi)
        rw [List.drop_eq_getElem_cons h0.1, h0.2]
      have HDR := Lib.hid hdr
      have hwr := HWD.out r (List.mem_of_getElem? hi)
      have HI := Lib.hid hi
      obtain ⟨g, rfl⟩ := HL.out.at_ hi
      have HELF := Lib.hid (fun W (hB : Below w.heap.size w W) => (HL.out.below hB).el hi)
      clear hdr hi
      have hiz : (i : Int) < (n : Int) := by omega
      obtain ⟨a, b⟩ := r
      obtain ⟨he1, he2⟩ := HELF.out wr hrb.bw
      have c0 := hrb.at_.cell 0
      have c1 := hrb.at_.cell 1
      have f0 := hrb.at_.frozen 0
      have f1 := hrb.at_.frozen 1
      simp at c0 c1
      simp only at he1 he2 hwr
      clear hrb
      obtain ⟨x0, x1⟩ := x
      simp only at c0 c1 hwx
      by_cases k1 : b < x0
      · have hnx : addGo (l.drop i) (x0, x1) dd = (a, b) :: addGo (l.drop (i + 1)) (x0, x1) dd := by rw [HDR.out, addGo, if_pos k1]
        have HNX := Lib.hid hnx
        clear hnx
        go_wp2_with fail
        go_quiet (fail)
        generalize hW : World.drewN wr _ = Wa
        have hrb2 : RB w v9 L (x0, x1) Wa := by subst hW; exact HRB.out.drewN _
        clear hW he1 he2 c0 c1 f0 f1 HRB
        have HRB := Lib.hid hrb2
        obtain ⟨he1, he2⟩ := HELF.out Wa hrb2.bw
        try simp only at he1 he2
        have c0 := hrb2.at_.cell 0
        have c1 := hrb2.at_.cell 1
        have f0 := hrb2.at_.frozen 0
        have f1 := hrb2.at_.frozen 1
        simp at c0 c1
        clear hrb2
        go_wp2_with (first
          | (at_builtin; refine wpList_append2 rfl (.tmp 48) (.tmp 53) rfl (w.heap.size + 1) _ (L).length (rlC (L)) rfl (HRB.out.own1 a b).1 (some ⟨_, 0, none⟩) 1 1 rfl [.int .u64 a, .int .u64 b] rfl (fun _ => ⟨_, rfl, new2 _ _ (by simp) _ _ _⟩) (one2 _ _) (by have := HLEN.out; (try simp only [List.length_append, List.length_singleton]); omega) (HRB.out.own1 a b).2 ?_; intro v2 w2 hown2 hg2 hv2 _; have hput := HRB.out.put (WdL.one hwr.1 hwr.2.1 hwr.2.2.1 hwr.2.2.2) hown2 hg2; have HP := Lib.hid hput; clear hown2 hg2 hv2 hput)
          | fail)
        go_roundg (n - (i + 1))
        case measure => omega
        case rel => exact ⟨i + 1, _, L ++ [(a, b)], (x0, x1), dd, rfl, rfl, by simp, by omega, by omega, HP.out, by have := HLEN.out; simp only [List.length_append, List.length_cons, List.length_nil]; omega, hwx, by rw [List.append_assoc]; have := HEQ.out; rw [HNX.out] at this; exact this⟩
      · by_cases k2 : x1 < a
        · have hnx : addGo (l.drop i) (x0, x1) dd = if dd then (a, b) :: addGo (l.drop (i + 1)) (x0, x1) true else (x0, x1) :: (a, b) :: addGo (l.drop (i + 1)) (x0, x1) true := by rw [HDR.out, addGo, if_neg k1, if_pos k2]
          have HNX := Lib.hid hnx
          clear hnx
          go_wp2_with fail
          go_quiet (fail)
          generalize hW : World.drewN wr _ = Wa
          have hrb2 : RB w v9 L (x0, x1) Wa := by subst hW; exact HRB.out.drewN _
          clear hW he1 he2 c0 c1 f0 f1 HRB
          have HRB := Lib.hid hrb2
          obtain ⟨he1, he2⟩ := HELF.out Wa hrb2.bw
          try simp only at he1 he2
          have c0 := hrb2.at_.cell 0
          have c1 := hrb2.at_.cell 1
          have f0 := hrb2.at_.frozen 0
          have f1 := hrb2.at_.frozen 1
          simp at c0 c1
          clear hrb2
          go_wp2_with fail
          go_quiet (fail)
          generalize hW : World.drewN Wa _ = Wb
          have hrb2 : RB w v9 L (x0, x1) Wb := by subst hW; exact HRB.out.drewN _
          clear hW he1 he2 c0 c1 f0 f1 HRB
          have HRB := Lib.hid hrb2
          obtain ⟨he1, he2⟩ := HELF.out Wb hrb2.bw
          try simp only at he1 he2
          have c0 := hrb2.at_.cell 0
          have c1 := hrb2.at_.cell 1
          have f0 := hrb2.at_.frozen 0
          have f1 := hrb2.at_.frozen 1
          simp at c0 c1
          clear hrb2
          cases dd
          · go_wp2_with (first
              | (at_builtin; refine wpList_append2 rfl (.tmp 66) (.tmp 68) rfl (w.heap.size + 1) _ (L).length (rlC (L)) rfl (HRB.out.own1 x0 x1).1 (some ⟨_, 0, none⟩) 1 1 rfl [.int .u64 x0, .int .u64 x1] rfl (fun _ => ⟨_, rfl, new2 _ _ (by simp) _ _ _⟩) (one2 _ _) (by have := HLEN.out; (try simp only [List.length_append, List.length_singleton]); omega) (HRB.out.own1 x0 x1).2 ?_; intro v2 w2 hown2 hg2 hv2 _; have hput := HRB.out.put (WdL.one hwx.1 hwx.2.1 hwx.2.2.1 hwx.2.2.2) hown2 hg2; have HP1 := Lib.hid hput; obtain ⟨he1, he2⟩ := HELF.out w2 hput.bw; (try simp only at he1 he2); clear hown2 hg2 hv2 hput)
              | (at_builtin; refine wpList_append2 rfl (.tmp 70) (.tmp 75) rfl (w.heap.size + 1) _ (L ++ [(x0, x1)]).length (rlC (L ++ [(x0, x1)])) rfl (HP1.out.own1 a b).1 (some ⟨_, 0, none⟩) 1 1 rfl [.int .u64 a, .int .u64 b] rfl (fun _ => ⟨_, rfl, new2 _ _ (by simp) _ _ _⟩) (one2 _ _) (by have := HLEN.out; (try simp only [List.length_append, List.length_singleton]); omega) (HP1.out.own1 a b).2 ?_; intro v2 w2 hown2 hg2 hv2 _; have hput := HP1.out.put (WdL.one hwr.1 hwr.2.1 hwr.2.2.1 hwr.2.2.2) hown2 hg2; have HP2 := Lib.hid hput; clear hown2 hg2 hv2 hput))
            go_roundg (n - (i + 1))
            case measure => omega
            case rel => exact ⟨i + 1, _, L ++ [(x0, x1)] ++ [(a, b)], (x0, x1), true, rfl, rfl, by simp, by omega, by omega, HP2.out, by have := HLEN.out; simp only [List.length_append, List.length_cons, List.length_nil]; omega, hwx, by rw [List.append_assoc, List.append_assoc]; have := HEQ.out; rw [HNX.out] at this; exact this⟩
          · go_wp2_with (first
              | (at_builtin; refine wpList_append2 rfl (.tmp 70) (.tmp 75) rfl (w.heap.size + 1) _ (L).length (rlC (L)) rfl (HRB.out.own1 a b).1 (some ⟨_, 0, none⟩) 1 1 rfl [.int .u64 a, .int .u64 b] rfl (fun _ => ⟨_, rfl, new2 _ _ (by simp) _ _ _⟩) (one2 _ _) (by have := HLEN.out; (try simp only [List.length_append, List.length_singleton]); omega) (HRB.out.own1 a b).2 ?_; intro v2 w2 hown2 hg2 hv2 _; have hput := HRB.out.put (WdL.one hwr.1 hwr.2.1 hwr.2.2.1 hwr.2.2.2) hown2 hg2; have HP := Lib.hid hput; clear hown2 hg2 hv2 hput)
              | fail)
            go_roundg (n - (i + 1))
            case measure => omega
            case rel => exact ⟨i + 1, _, L ++ [(a, b)], (x0, x1), true, rfl, rfl, by simp, by omega, by omega, HP.out, by have := HLEN.out; simp only [List.length_append, List.length_cons, List.length_nil]; omega, hwx, by rw [List.append_assoc]; have := HEQ.out; rw [HNX.out] at this; exact this⟩
        · have hnx : addGo (l.drop i) (x0, x1) dd = addGo (l.drop (i + 1)) (min x0 a, max x1 b) dd := by rw [HDR.out, addGo, if_neg k1, if_neg k2]
          have HNX := Lib.hid hnx
          clear hnx
          go_wp2_with fail
          go_quiet (fail)
          generalize hW : World.drewN wr _ = Wa
          have hrb2 : RB w v9 L (x0, x1) Wa := by subst hW; exact HRB.out.drewN _
          clear hW he1 he2 c0 c1 f0 f1 HRB
          have HRB := Lib.hid hrb2
          obtain ⟨he1, he2⟩ := HELF.out Wa hrb2.bw
          try simp only at he1 he2
          have c0 := hrb2.at_.cell 0
          have c1 := hrb2.at_.cell 1
          have f0 := hrb2.at_.frozen 0
          have f1 := hrb2.at_.frozen 1
          simp at c0 c1
          clear hrb2
          go_wp2_with fail
          go_quiet (fail)
          generalize hW : World.drewN Wa _ = Wb
          have hrb2 : RB w v9 L (x0, x1) Wb := by subst hW; exact HRB.out.drewN _
          clear hW he1 he2 c0 c1 f0 f1 HRB
          have HRB := Lib.hid hrb2
          obtain ⟨he1, he2⟩ := HELF.out Wb hrb2.bw
          try simp only at he1 he2
          have c0 := hrb2.at_.cell 0
          have c1 := hrb2.at_.cell 1
          have f0 := hrb2.at_.frozen 0
          have f1 := hrb2.at_.frozen 1
          simp at c0 c1
          clear hrb2
          go_wp2_with fail
          go_region
          rw [show (if a < x0 then a else x0) = min x0 a by split <;> omega, show (if x1 < b then b else x1) = max x1 b by split <;> omega]
          have hst := (HRB.out.set (min x0 a) (max x1 b)).drew
          have HST := Lib.hid hst
          clear hst
          go_wp2
          go_roundg (n - (i + 1))
          case measure => omega
          case rel => exact ⟨i + 1, _, L, (min x0 a, max x1 b), dd, rfl, rfl, by simp, by omega, by omega, HST.out, by have := HLEN.out; omega, ⟨by omega, by omega, by omega, by omega⟩, by have := HEQ.out; rw [HNX.out] at this; exact this⟩
    · rw [show i = n by omega, HD.out] at HEQ
      have hiz : ¬ (i : Int) < (n : Int) := by omega
      have hbs : w.heap.size + 1 ≤ wr.heap.size := by have := hrb.at_.lt; omega
      obtain ⟨x0, x1⟩ := x
      have c0 := hrb.at_.cell 0
      have c1 := hrb.at_.cell 1
      simp at c0 c1
      simp only at c0 c1 hwx
      cases dd
      · have he : L ++ [(x0, x1)] = Rr := HEQ.out
        have HE := Lib.hid he
        clear he hrb
        go_wp2_with (first
          | (at_builtin; refine wpList_append2 rfl (.tmp 79) (.tmp 81) rfl (w.heap.size + 1) _ (L).length (rlC (L)) rfl (HRB.out.own1 x0 x1).1 (some ⟨_, 0, none⟩) 1 1 rfl [.int .u64 x0, .int .u64 x1] rfl (fun _ => ⟨_, rfl, new2 _ _ (by simp) _ _ _⟩) (one2 _ _) (by have := HLEN.out; (try simp only [List.length_append, List.length_singleton]); omega) (HRB.out.own1 x0 x1).2 ?_; intro v2 w2 hown2 hg2 hv2 _; have hput := HRB.out.put (WdL.one hwx.1 hwx.2.1 hwx.2.2.1 hwx.2.2.2) hown2 hg2; have HP := Lib.hid hput; clear hown2 hg2 hv2 hput)
          | (go_at_call 31; refine (least_any (w.heap.size + 1) _ Rr w2 (HE.out ▸ HP.out.own) (by have := HT.out; omega) (by have := HP.out.at_.lt; omega) most hm).mono ?_; rintro e w3 ⟨v3, rfl, hO3, hB3, _⟩))
        go_ret
        exact ⟨v3, rfl, hO3.base_ (Nat.le_succ _), HP.out.bw.trans (hB3.mono HP.out.bw.size)⟩
      · have he : L = Rr := by have := HEQ.out; simpa [addGo] using this
        have hO := HRB.out.own
        rw [he] at hO
        have HO := Lib.hid hO
        clear he hrb hO
        go_wp2_with (first
          | (go_at_call 31; refine (least_any (w.heap.size + 1) _ Rr wr HO.out (by have := HT.out; omega) hbs most hm).mono ?_; rintro e w3 ⟨v3, rfl, hO3, hB3, _⟩)
          | fail)
        go_ret
        exact ⟨v3, rfl, hO3.base_ (Nat.le_succ _), HRB.out.bw.trans (hB3.mono HRB.out.bw.size)⟩
end Go.Proofs.Ytoooinjhcgpbgaa
