/-
  Blocks apart (Dj); a sender with the blocks that it has (Sx): its calls in the words of receivers.
-/
import Derived.Test.YtndaikeeikimeaaMq14
import Derived.Test.YtndaikeeikimeaaMq19
import Derived.Test.YtndaikeeikimeaaMq6
import Derived.Maps.AppendAt
namespace Go.Proofs.Ytndaikeeikimeaa
section
set_option linter.unusedVariables false
set_option linter.unusedSimpArgs false
open Go.RowKit
/-- Sets of blocks, each apart from each. -/
def Dj (l : List (Nat → Prop)) : Prop := ∀ (i j : Nat) (P Q : Nat → Prop), l[i]? = some P → l[j]? = some Q → i ≠ j → ∀ b, P b → ¬ Q b
theorem Dj.set {l : List (Nat → Prop)} (h : Dj l) {i : Nat} {P P' : Nat → Prop} (hi : l[i]? = some P) (s : Nat) (hl : ∀ Q ∈ l, ∀ b, Q b → b < s) (hP : ∀ b, P' b → P b ∨ s ≤ b) : Dj (l.set i P') := by
  intro a c A C ha hc hac b hA hC
  rw [List.getElem?_set] at ha hc
  have key : ∀ (j : Nat) (Q : Nat → Prop), l[j]? = some Q → i ≠ j → ∀ b, P' b → ¬ Q b := fun j Q hj hij b h1 h2 => by
    rcases hP b h1 with e | e
    · exact h i j P Q hi hj hij b e h2
    · have := hl Q (List.mem_of_getElem? hj) b h2; omega
  by_cases e1 : i = a
  · rw [if_pos e1] at ha
    by_cases e2 : i = c
    · omega
    · rw [if_neg e2] at hc
      split at ha
      · injection ha with ha; subst ha
        exact key c C hc e2 b hA hC
      · cases ha
  · rw [if_neg e1] at ha
    by_cases e2 : i = c
    · rw [if_pos e2] at hc
      split at hc
      · injection hc with hc; subst hc
        exact key a A ha e1 b hC hA
      · cases hc
    · rw [if_neg e2] at hc
      exact h a c A C ha hc hac b hA hC
theorem Dj.app {l : List (Nat → Prop)} (h : Dj l) {P : Nat → Prop} (s : Nat) (hl : ∀ Q ∈ l, ∀ b, Q b → b < s) (hP : ∀ b, P b → s ≤ b) : Dj (l ++ [P]) := by
  intro a c A C ha hc hac b hA hC
  have lt : ∀ (j : Nat) (Q : Nat → Prop), (l ++ [P])[j]? = some Q → (j < l.length ∧ l[j]? = some Q) ∨ (j = l.length ∧ Q = P) := fun j Q hj => by
    rcases Nat.lt_trichotomy j l.length with e | e | e
    · rw [List.getElem?_append_left e] at hj; exact .inl ⟨e, hj⟩
    · subst e; rw [List.getElem?_append_right (Nat.le_refl _), Nat.sub_self] at hj; injection hj with hj; exact .inr ⟨rfl, hj.symm⟩
    · rw [List.getElem?_eq_none (by simp; omega)] at hj; cases hj
  rcases lt a A ha with ⟨_, ha'⟩ | ⟨ea, rfl⟩ <;> rcases lt c C hc with ⟨_, hc'⟩ | ⟨ec, rfl⟩
  · exact h a c A C ha' hc' hac b hA hC
  · have := hl A (List.mem_of_getElem? ha') b hA; have := hP b hC; omega
  · have := hl C (List.mem_of_getElem? hc') b hC; have := hP b hA; omega
  · omega
theorem Of.base_ {w : World} {base base' p : Nat} {O : Nat → Prop} {S : OS} (h : Of w base p O S) (hb : base' ≤ base) : Of w base' p O S := by
  obtain ⟨pa, pl, va, vl, vw, la, ll, e, h, hy⟩ := h
  exact ⟨pa, pl, va, vl, vw, la, ll, e, { h with sa := h.sa.base_ hb, sl := h.sl.base_ hb, own := h.own.base_ hb, bp := Nat.le_trans hb h.bp }, hy⟩
theorem Bf.baseT {w : World} {base base' p : Nat} {O : Nat → Prop} {S : BS} (h : Bf w base p O S) (hb : base' ≤ base) : Bf w base' p O S := by
  obtain ⟨ps, vs, vw, l, W, rfl, h⟩ := h
  exact ⟨ps, vs, vw, l, W, rfl, { h with set_ := h.set_.base_ hb, own := h.own.base_ hb, bp := Nat.le_trans hb h.bp }⟩
theorem Qp.baseT {w : World} {base base' p : Nat} {O : Nat → Prop} {X : QS} (h : Qp w base p O X) (hb : base' ≤ base) : Qp w base' p O X := by
  rcases h with ⟨h1, pb, Ob, rfl, h⟩ | ⟨h1, rfl, h⟩
  · exact .inl ⟨h1, pb, Ob, rfl, { h with bf := h.bf.baseT hb, bp := Nat.le_trans hb h.bp }⟩
  · exact .inr ⟨h1, rfl, ⟨h.at_, Nat.le_trans hb h.bp⟩⟩
def obk (v : Value) : Nat → Prop := fun j => v.ownBlock = some j
/-- Blocks of the call's own that are none of O. -/
def Frz (w0 W : World) (O : Nat → Prop) : Nat → Prop := fun b => w0.heap.size ≤ b ∧ ¬ O b ∧ b < W.heap.size
/-- A sender behind the pointer q, and the blocks that it has. -/
def Sx (w0 W : World) (q : Nat) (O : Nat → Prop) (X : SS) : Prop := ∃ p, Sm w0 W q p X (Frz w0 W O) ∧ O q ∧ ∀ j, O j → w0.heap.size ≤ j ∧ j < W.heap.size
/-- What a call that changes it leaves. -/
def SxPost (r : Value) (w0 : World) (q : Nat) (O : Nat → Prop) (X' : SS) (W : World) (e : Ending) (W' : World) : Prop :=
  e = .returned r ∧ ∃ O', Sx w0 W' q O' X' ∧ Kept O W W' ∧ ∀ j, O' j → O j ∨ W.heap.size ≤ j
section
variable {w0 W W' : World} {q p : Nat} {O : Nat → Prop} {X X' : SS}
theorem Sm.weakT {F F' : Nat → Prop} (h : Sm w0 W q p X F) (hF : ∀ b, F' b → F b) : Sm w0 W q p X F' := ⟨h.at_, h.oz.weak fun b hb => hb.imp id (hF b), h.qb, fun e => h.nF (hF q e), h.ok⟩
theorem Sx.lt (h : Sx w0 W q O X) : ∀ j, O j → w0.heap.size ≤ j ∧ j < W.heap.size := by
  obtain ⟨p, h1, h2, h3⟩ := h
  exact h3
theorem Sx.own (h : Sx w0 W q O X) : O q := by
  obtain ⟨p, h1, h2, h3⟩ := h
  exact h2
theorem Sx.bl (h : Sx w0 W q O X) : Below w0.heap.size w0 W := by
  obtain ⟨p, h1, h2, h3⟩ := h
  exact h1.bl
theorem Sx.kept {T : Nat → Prop} (h : Sx w0 W q O X) (k : Kept T W W') (hs : ∀ j, O j → ¬ T j) (hT : ∀ j, T j → w0.heap.size ≤ j) : Sx w0 W' q O X := by
  obtain ⟨p, h1, h2, h3⟩ := h
  have k' : Kept (Frz w0 W O) W W' := k.mono fun j hj => by
    by_cases hl : j < W.heap.size
    · exact .inl ⟨hT j hj, fun e => hs j e hj, hl⟩
    · exact .inr (by omega)
  refine ⟨p, h1.change k' (fun b hb => hb.1) fun b hb => ?_, h2, fun j hj => ⟨(h3 j hj).1, Nat.lt_of_lt_of_le (h3 j hj).2 k.size⟩⟩
  by_cases hl : b < W.heap.size
  · exact .inl ⟨hb.1, hb.2.1, hl⟩
  · exact .inr ⟨by omega, hb.2.2⟩
theorem Sx.below (h : Sx w0 W q O X) (k : Below W.heap.size W W') : Sx w0 W' q O X := h.kept (Kept.of_below k fun _ => False) (fun _ _ h => h) (fun _ h => h.elim)
theorem sx_post {p : Nat} {r : Value} {e : Ending} (h3 : ∀ j, O j → w0.heap.size ≤ j ∧ j < W.heap.size) (hq : O q) (hbl : Below w0.heap.size w0 W) (hP : SmPost w0 W q p X' (Frz w0 W O) r e W') : SxPost r w0 q O X' W e W' := by
  obtain ⟨he, hS, hk, hs⟩ := hP
  have b2 := hS.bl
  refine ⟨he, fun j => O j ∨ (W.heap.size ≤ j ∧ j < W'.heap.size), ⟨p, hS.weakT fun b hb => ?_, .inl hq, fun j hj => ?_⟩, ⟨b2.os.trans hbl.os.symm, b2.tape.trans hbl.tape.symm, b2.output.trans hbl.output.symm, hs, fun j hj hn => ?_⟩, fun j hj => hj.imp id fun h => h.1⟩
  · by_cases hl : b < W.heap.size
    · exact ⟨hb.1, fun e => hb.2.1 (.inl e), hl⟩
    · exact absurd (.inr ⟨by omega, hb.2.2⟩) hb.2.1
  · rcases hj with e | e
    · exact ⟨(h3 j e).1, Nat.lt_of_lt_of_le (h3 j e).2 hs⟩
    · have := hbl.size; exact ⟨by omega, e.2⟩
  · by_cases hb : w0.heap.size ≤ j
    · exact hk j ⟨hb, hn, hj⟩
    · exact (b2.block j (by omega)).trans (hbl.block j (by omega)).symm
/-- A call of it, from its contract. -/
theorem sx_call {f : FuncId} {args : Array Value} {r : Value} (h : Sx w0 W q O X) (H : ∀ p, Sm w0 W q p X (Frz w0 W O) → Calls Try.prog f args W (SmPost w0 W q p X' (Frz w0 W O) r)) : Calls Try.prog f args W (SxPost r w0 q O X' W) := by
  obtain ⟨p, h1, h2, h3⟩ := h
  exact (H p h1).mono fun e w' hP => sx_post h3 h2 h1.bl hP
theorem Sx.ok (h : Sx w0 W q O X) : X.ok ∧ X.o.ok := by
  obtain ⟨p, h1, _⟩ := h
  exact ⟨h1.ok, h1.oz.ok⟩
theorem sx_new (id : Nat) (hid : id < 18446744073709551616) (hb : Below w0.heap.size w0 W) : Calls Try.prog 32 #[.int .u64 id] W fun e w' => ∃ q, e = .returned (.pointer (some ⟨q, 0, none⟩)) ∧ (∃ O, Sx w0 w' q O (ss0 id) ∧ ∀ j, O j → W.heap.size ≤ j) ∧ Below W.heap.size W w' := by
  refine (sm_new id hid W).mono ?_
  rintro e w' ⟨q, p, rfl, h⟩
  have hbl := h.bl
  have hs := hb.size
  refine ⟨q, rfl, ⟨fun j => W.heap.size ≤ j ∧ j < w'.heap.size, ⟨p, ?_, ⟨h.qb, h.at_.lt⟩, fun j hj => ⟨by omega, hj.2⟩⟩, fun j hj => hj.1⟩, hbl⟩
  obtain ⟨O, h1, h2⟩ := h.oz.bf
  refine ⟨h.at_, ⟨h.oz.ok, ⟨O, ?_, fun b hb' => ?_⟩, hb.trans (hbl.mono hs)⟩, by have := h.qb; omega, fun e => e.2.1 ⟨h.qb, h.at_.lt⟩, h.ok⟩
  · exact h1.base_ hs
  · rcases hb' with rfl | hb'
    · exact ⟨(h2 _ (.inl rfl)).1, h.at_.lt⟩
    · exact ⟨fun e => hb'.2.1 (h1.lt b e), hb'.2.2⟩
end
end
section
set_option linter.unusedVariables false
set_option linter.unusedSimpArgs false
open Go.RowKit
theorem iBt_info : (Try.prog.info? 4).map (fun i => (i.zero, i.size, i.bytes)) = some (some (.bool false), 1, 1) := by kernel_rfl
theorem oBt : OneT Try.prog 27 4 (.bool false) := by
  refine ⟨Try.underlying27, ?_, rfl, rfl⟩
  have hI := iBt_info
  cases hq : Try.prog.info? 4 with
  | none => rw [hq] at hI; cases hI
  | some i =>
    rw [hq] at hI
    simp only [Option.map_some, Option.some.injEq, Prod.mk.injEq] at hI
    exact ⟨i, rfl, hI⟩
set_option maxHeartbeats 1000000 in
set_option maxRecDepth 100000 in
theorem delb (base : Nat) (v : Value) (W : List Value) (k : Nat) (w : World) (hl : Ow w base 4 v W) (h1 : ∀ u ∈ W, u.oneCell' = true) (hkn : k ≤ W.length) (hN : W.length ≤ 2000000) (hb : base ≤ w.heap.size) :
    Calls Try.prog 48 #[v, .int .i64 0, .int .i64 k] w fun e w' => ∃ v', e = .returned v' ∧ Ow w' base 4 v' (W.drop k) ∧ Kept (fun b => v.ownBlock = some b) w w' ∧ ∀ j, v'.ownBlock = some j → v.ownBlock = some j := by
  have how := hl
  have hOL := Lib.hid hl
  obtain ⟨A, c, rfl, hnc, hcm, ho⟩ := ow_open how
  rcases Nat.eq_zero_or_pos k with rfl | hk0
  · have hres : Ow w base 4 (.slice A W.length c) (W.drop 0) := by rw [List.drop_zero]; exact hl
    have HR := Lib.hid hres
    clear hres hl
    have hcz : (W.length : Int) ≤ (c : Int) := by omega
    have hcm' : c ≤ 9223372036854775807 := by unfold maxLen at hcm; omega
    have hA : A = none → c = 0 := by
      rintro rfl
      rcases ho with ⟨_, h, _⟩ | ⟨g, cur, h, _⟩
      · exact h
      · cases h
    clear ho how hkn hOL h1
    generalize W.length = n at *
    cases A with
    | none =>
      obtain rfl := hA rfl
      obtain rfl : n = 0 := by omega
      go_enter Try.func48, Try.ntmps48
      go_wp2
      go_ret
      exact ⟨_, rfl, HR.out, Kept.refl _ _, fun j hj => hj⟩
    | some ad =>
      go_enter Try.func48, Try.ntmps48
      go_wp2
      go_ret
      exact ⟨_, rfl, HR.out, Kept.refl _ _, fun j hj => hj⟩
  · rcases ho with ⟨_, _, h⟩ | ⟨g, cur, rfl, hbg, hg, hA, hcl, hct⟩
    · subst h; simp at hkn; omega
    have HL := Lib.hid (show (W.drop k).length = W.length - k from List.length_drop)
    have hown : Ow w base 4 (.slice (some ⟨g, 0, none⟩) 0 c) [] := by simpa using ow_cut how rfl (i := 0) (by omega)
    obtain ⟨X, hX⟩ : ∃ X, W.drop k = X := ⟨_, rfl⟩
    have hsrc : ∀ j u, X[j]? = some u → w.cell? ((⟨g, k, none⟩ : Addr).add j) = some u := fun j u hj => by
      rw [Addr.add_lit, hA.cell]
      rw [← hX, List.getElem?_drop, ← hct, List.getElem?_take] at hj
      split at hj
      · exact hj
      · cases hj
    have hsl : X.length = W.length - k := by rw [← hX]; exact HL.out
    have hs1 : ∀ u ∈ X, u.oneCell' = true := fun u hu => by rw [← hX] at hu; exact h1 u (List.mem_of_mem_drop hu)
    have HX := Lib.hid hX
    have HX2 : Hid (X.length = W.length - k) := Lib.hid hsl
    have hcm' : c ≤ 9223372036854775807 := by unfold maxLen at hcm; omega
    clear hl hct hX hOL how h1
    generalize W.length = n at *
    have hc0 : ¬ c = 0 := by omega
    have hcz : (k : Int) ≤ (c : Int) := by omega
    have hnz : (n : Int) ≤ (c : Int) := by omega
    have hkz : (k : Int) ≤ (n : Int) := by omega
    have hk1 : ¬ (0 : Int) = (k : Int) := by omega
    have hcq : ¬ c = n - k := by omega
    have mixed : Try.prog.follows .mixedOrders = true := by kernel_rfl
    have hown' : Ow w.drew base 4 (.slice (some ⟨g, 0, none⟩) 0 c) [] := ow_keep hown fun _ _ => rfl
    have hb' : base ≤ w.drew.heap.size := hb
    have hsrc' : ∀ j u, X[j]? = some u → w.drew.cell? ((⟨g, k, none⟩ : Addr).add j) = some u := hsrc
    clear hown hsrc
    have HT : Hid (∀ (v2 : Value) (w2 : World), Ow w2 base 4 v2 ([] ++ X) → (∀ g' n' c', Value.slice (some ⟨g, 0, none⟩) 0 c = .slice (some ⟨g', 0, none⟩) n' c' → n' + (n - k) ≤ c' → v2 = .slice (some ⟨g', 0, none⟩) (n' + (n - k)) c') → ∃ cur3, v2 = .slice (some ⟨g, 0, none⟩) (n - k) c ∧ At w2 g 4 cur3 ∧ Hid (cur3.length = c) ∧ Hid (cur3.take (n - k) = X)) := Lib.hid (by
      intro v2 w2 h1 h2
      have e := h2 g 0 c rfl (by omega)
      rw [Nat.zero_add] at e
      subst e
      obtain ⟨A3, c3, e, _, _, h3⟩ := ow_open h1
      rw [List.nil_append] at *
      injection e with e1 e2 e3
      subst e1; subst e3
      rcases h3 with ⟨h, _⟩ | ⟨g3, cur3, h, _, _, hA3, hl3, ht3⟩
      · cases h
      · injection h with h
        injection h with h
        subst h
        exact ⟨cur3, rfl, hA3, Lib.hid hl3, Lib.hid (by rw [← hsl]; exact ht3)⟩)
    have HF : Hid (∀ (w3 w4 : World) (cur3 : List Value) (N : Nat), At w3 g 4 (splice cur3 (n - k) (List.replicate N (Value.bool false))) → N = n - (n - k) → cur3.length = c → cur3.take (n - k) = X → Ow w3 base 4 (.slice (some ⟨g, 0, none⟩) (n - k) c) (W.drop k)) := Lib.hid (by
      intro w3 w4 cur3 N h1 hN h2 h3
      have hm := ow_mk (xs := W.drop k) (c := c) hbg h1 (by rw [HL.out]; omega) hcm (by rw [length_splice _ _ _ (by simp; omega)]; exact h2) ?_
      · rw [HL.out] at hm; exact hm
      rw [HX.out, HX2.out, ← h3]
      unfold splice
      rw [List.take_append_of_le_length (by simp; omega), List.take_take]
      congr 1
      omega)
    by_cases hck : c = k
    · subst hck
      obtain rfl : n = c := by omega
      obtain rfl : X = [] := List.eq_nil_of_length_eq_zero (by omega)
      rw [Nat.sub_self] at HT HF hsl
      have hcn : ¬ n = 0 := by omega
      clear hcq hsrc'
      go_enter Try.func48, Try.ntmps48
      go_wp2_with fail
      go_region_law_o (refine step_app1 oBt rfl (.tmp 22) (.tmp 25) rfl base (.slice (some ⟨g, 0, none⟩) 0 n) [] (by simp [Act.eval, Act.put]) hown' (some ⟨g, 0, none⟩) 0 0 (by simp [Act.eval, Act.put]) [] rfl (fun h => absurd h (by omega)) hs1 (by simp) hb' ?_; intro v2 w2 hown2 hg2 hv2 hin2; obtain ⟨cur3, rfl, hA3, HL3, HT3⟩ := HT.out v2 w2 hown2 hin2; clear hown2 hin2 hv2)
      go_wp2_with (refine wpList_clear1 oBt rfl (.tmp 31) rfl (some ⟨g, 0, none⟩) n n g 0 cur3 _ rfl hA3 (fun _ => rfl) (by have := HL3.out; omega) ?_; intro w3 hA4 hk4)
      go_ret
      exact ⟨_, rfl, HF.out w3 w3 cur3 _ hA4 rfl HL3.out HT3.out, (Kept.from_drew (grown_kept hg2)).trans (hk4.mono fun j hj => .inl (by subst hj; rfl)), fun k hk => hk⟩
    · go_enter Try.func48, Try.ntmps48
      go_wp2_with fail
      go_region_law_o (refine step_app1 oBt rfl (.tmp 22) (.tmp 25) rfl base (.slice (some ⟨g, 0, none⟩) 0 c) [] (by simp [Act.eval, Act.put]) hown' (some ⟨g, k, none⟩) (n - k) (c - k) (by simp [Act.eval, Act.put]) X hsl (fun _ => ⟨_, rfl, hsrc'⟩) hs1 (by simp; omega) hb' ?_; intro v2 w2 hown2 hg2 hv2 hin2; obtain ⟨cur3, rfl, hA3, HL3, HT3⟩ := HT.out v2 w2 hown2 hin2; clear hown2 hin2 hv2)
      have hnkz : ((n - k : Nat) : Int) ≤ (n : Int) := by omega
      go_wp2_with (refine wpList_clear1 oBt rfl (.tmp 31) rfl (some ⟨g, n - k, none⟩) (n - (n - k)) (c - (n - k)) g (n - k) cur3 _ rfl hA3 (fun _ => rfl) (by have := HL3.out; omega) ?_; intro w3 hA4 hk4)
      go_ret
      exact ⟨_, rfl, HF.out w3 w3 cur3 _ hA4 rfl HL3.out HT3.out, (Kept.from_drew (grown_kept hg2)).trans (hk4.mono fun j hj => .inl (by subst hj; rfl)), fun k hk => hk⟩
end
section
set_option linter.unusedVariables false
set_option linter.unusedSimpArgs false
open Go.RowKit
/-- Marks at place o of block x: base b, the marks s. -/
structure Mk (w : World) (base x o : Nat) (T : TypeId) (L : List Value) (v : Value) (b : Nat) (s : List Bool) : Prop where
  at_ : At w x T L
  c0 : L[o]? = some (.int .u64 b)
  c1 : L[o + 1]? = some v
  own : Ow w base 4 v (s.map Value.bool)
  nx : v.ownBlock ≠ some x
/-- Behind add: the offsets from lo on below hi are marked. -/
def addM (b : Nat) (s : List Bool) (lo hi : Nat) : List Bool :=
  (List.range (max s.length (if max lo b < hi then hi - b else 0))).map fun i => s.getD i false || (decide (lo ≤ b + i) && decide (b + i < hi))
/-- What a call leaves of them: the cells L' but for both, base, marks. -/
def MkPost (r : Value) (base x o : Nat) (T : TypeId) (L : List Value) (v : Value) (b : Nat) (s : List Bool) (w : World) (e : Ending) (w' : World) : Prop :=
  e = .returned r ∧ ∃ v', Mk w' base x o T ((L.set o (.int .u64 b)).set (o + 1) v') v' b s ∧ Kept (fun j => j = x ∨ v.ownBlock = some j) w w' ∧ ∀ j, v'.ownBlock = some j → v.ownBlock = some j ∨ w.heap.size ≤ j
section
variable {w w' : World} {base x o : Nat} {T : TypeId} {L : List Value} {v : Value} {b : Nat} {s : List Bool}
theorem Mk.kept {S : Nat → Prop} (h : Mk w base x o T L v b s) (k : Kept S w w') (hx : ¬ S x) (hv : ∀ j, v.ownBlock = some j → ¬ S j) : Mk w' base x o T L v b s :=
  ⟨h.at_.kept k hx, h.c0, h.c1, ow_kept h.own k hv, h.nx⟩
theorem Mk.below (h : Mk w base x o T L v b s) (k : Below w.heap.size w w') : Mk w' base x o T L v b s := h.kept (Kept.of_below k fun _ => False) (fun h => h) (fun _ _ h => h)
theorem Mk.a0 (h : Mk w base x o T L v b s) : w.cell? ⟨x, o, none⟩ = some (.int .u64 b) := by rw [h.at_.cell]; exact h.c0
theorem Mk.a1 (h : Mk w base x o T L v b s) : w.cell? ⟨x, o + 1, none⟩ = some v := by rw [h.at_.cell]; exact h.c1
theorem Mk.f0 (h : Mk w base x o T L v b s) (j : Nat) : w.frozen? ⟨x, j, none⟩ = false := h.at_.frozen j
theorem Mk.len (h : Mk w base x o T L v b s) : o + 1 < L.length := (List.getElem?_eq_some_iff.1 h.c1).1
theorem bools_one (s : List Bool) : ∀ u ∈ s.map Value.bool, u.oneCell' = true := fun u hu => by
  obtain ⟨y, _, rfl⟩ := List.mem_map.1 hu
  rfl
/-- Both are set. -/
theorem Mk.both {w1 w2 : World} {v' : Value} {b' : Nat} {s' : List Bool} (h : Mk w base x o T L v b s) (hk : Kept (fun j => v.ownBlock = some j) w w1) (ho : Ow w1 base 4 v' (s'.map Value.bool)) (hv : ∀ j, v'.ownBlock = some j → v.ownBlock = some j ∨ w.heap.size ≤ j)
    (e : w2 = (w1.setCell ⟨x, o + 1, none⟩ v').setCell ⟨x, o, none⟩ (.int .u64 b') ∨ w2 = (w1.setCell ⟨x, o, none⟩ (.int .u64 b')).setCell ⟨x, o + 1, none⟩ v') (r : Value) : MkPost r base x o T L v b' s' w (.returned r) w2 := by
  have hx := h.at_.lt
  have hl := h.len
  have h1 : At w1 x T L := h.at_.kept hk h.nx
  have hs := hk.size
  have nx' : v'.ownBlock ≠ some x := fun e => by
    rcases hv x e with e' | e'
    · exact h.nx e'
    · omega
  have key : At w2 x T ((L.set o (.int .u64 b')).set (o + 1) v') ∧ Kept (· = x) w1 w2 := by
    rcases e with rfl | rfl
    · refine ⟨?_, ((Kept.refl _ w1).setAt (o + 1) v').setAt o _⟩
      have := (h1.set (o + 1) v').set o (.int .u64 b')
      rw [List.set_comm _ _ (by omega)] at this
      exact this
    · exact ⟨(h1.set o (.int .u64 b')).set (o + 1) v', ((Kept.refl _ w1).setAt o _).setAt (o + 1) v'⟩
  refine ⟨rfl, v', ⟨key.1, ?_, ?_, ow_kept ho key.2 (fun j hj e => nx' (e ▸ hj)), nx'⟩, (hk.mono fun j hj => .inl (.inr hj)).trans (key.2.mono fun j hj => .inl (.inl hj)), hv⟩
  · rw [List.getElem?_set_ne (by omega), List.getElem?_set_self (by omega)]
  · rw [List.getElem?_set_self (by rw [List.length_set]; omega)]
theorem addM_none (b : Nat) (s : List Bool) (lo hi : Nat) (h : ¬ max lo b < hi) : addM b s lo hi = s := by
  unfold addM
  rw [if_neg h, Nat.max_eq_left (Nat.zero_le _)]
  apply List.ext_getElem?
  intro i
  by_cases hi' : i < s.length
  · rw [List.getElem?_map, List.getElem?_range hi']
    have : (decide (lo ≤ b + i) && decide (b + i < hi)) = false := by simp; omega
    simp [this, hi']
  · rw [List.getElem?_eq_none (by simp; omega), List.getElem?_eq_none (by omega)]
theorem addM_step (b : Nat) (s : List Bool) (lo off : Nat) (hlo : max lo b ≤ off) : addM b s lo (off + 1) = (let t := addM b s lo off; (t ++ List.replicate (off + 1 - b - t.length) false).set (off - b) true) := by
  simp only
  have hl : (addM b s lo off).length = max s.length (if max lo b < off then off - b else 0) := by unfold addM; simp
  have hl2 : (addM b s lo (off + 1)).length = max s.length (off + 1 - b) := by unfold addM; rw [List.length_map, List.length_range, if_pos (by omega)]
  apply List.ext_getElem?
  intro i
  have hb : b ≤ off := by omega
  have hle : (addM b s lo off).length ≤ max s.length (off + 1 - b) := by rw [hl]; split <;> omega
  have hR : ((addM b s lo off ++ List.replicate (off + 1 - b - (addM b s lo off).length) false).set (off - b) true).length = max s.length (off + 1 - b) := by
    rw [List.length_set, List.length_append, List.length_replicate]
    have : s.length ≤ (addM b s lo off).length := by rw [hl]; omega
    omega
  by_cases hi : i < max s.length (off + 1 - b)
  · have eL : (addM b s lo (off + 1))[i]? = some (s.getD i false || (decide (lo ≤ b + i) && decide (b + i < off + 1))) := by
      unfold addM
      rw [List.getElem?_map, List.getElem?_range (by rw [if_pos (by omega)]; exact hi)]
      rfl
    rw [eL]
    by_cases e : i = off - b
    · subst e
      rw [List.getElem?_set_self (by rw [List.length_set] at hR; omega)]
      have : (decide (lo ≤ b + (off - b)) && decide (b + (off - b) < off + 1)) = true := by simp; omega
      rw [this, Bool.or_true]
    · rw [List.getElem?_set_ne (by omega)]
      by_cases h2 : i < (addM b s lo off).length
      · rw [List.getElem?_append_left h2]
        have h3 := h2
        rw [hl] at h3
        unfold addM
        rw [List.getElem?_map, List.getElem?_range h3]
        have : (decide (b + i < off)) = decide (b + i < off + 1) := by
          apply decide_eq_decide.2
          omega
        simp [this]
      · rw [List.getElem?_append_right (by omega), List.getElem?_replicate, if_pos (by rw [List.length_set, List.length_append, List.length_replicate] at hR; omega)]
        have hsl : s.length ≤ i := by rw [hl] at h2; omega
        rw [hl] at h2
        have h4 : s.getD i false = false := by rw [List.getD_eq_getElem?_getD, List.getElem?_eq_none hsl]; rfl
        rw [h4]
        have : (decide (lo ≤ b + i) && decide (b + i < off + 1)) = false := by
          simp
          intro h5
          split at h2 <;> omega
        rw [this]
        rfl
  · rw [List.getElem?_eq_none (by omega), List.getElem?_eq_none (by omega)]
end
end
section
set_option linter.unusedVariables false
set_option linter.unusedSimpArgs false
open Go.RowKit
/-- A stream's numbers: its id, sender, receiver, what is acknowledged, what came. -/
structure TS where
  id : Nat
  o : SS
  r : QS
  ab : Nat
  az : List Bool
  cb : Nat
  cz : List Bool
def tsL (T : TS) (q p : Nat) (va vc : Value) : List Value := [.int .u64 T.id, .pointer (some ⟨q, 0, none⟩), .pointer (some ⟨p, 0, none⟩), .int .u64 T.ab, va, .int .u64 T.cb, vc]
structure Sq (w0 W : World) (x q p : Nat) (Oq Op : Nat → Prop) (va vc : Value) (T : TS) : Prop where
  at_ : At W x 61 (tsL T q p va vc)
  so : Sx w0 W q Oq T.o
  ri : Qp W w0.heap.size p Op T.r
  ma : Ow W w0.heap.size 4 va (T.az.map Value.bool)
  mc : Ow W w0.heap.size 4 vc (T.cz.map Value.bool)
  dj : Dj [(· = x), Oq, Op, obk va, obk vc]
  bx : w0.heap.size ≤ x
  ok : T.r.ok
def sqO (x : Nat) (Oq Op : Nat → Prop) (va vc : Value) : Nat → Prop := fun j => j = x ∨ Oq j ∨ Op j ∨ obk va j ∨ obk vc j
/-- A stream, and the blocks that it has. -/
def Str (w0 W : World) (x : Nat) (O : Nat → Prop) (T : TS) : Prop := ∃ q p Oq Op va vc, O = sqO x Oq Op va vc ∧ Sq w0 W x q p Oq Op va vc T
/-- What a call that turns it leaves. -/
def StPost (w0 : World) (x : Nat) (O : Nat → Prop) (T' : TS) (W W' : World) : Prop := ∃ O', Str w0 W' x O' T' ∧ Kept O W W' ∧ ∀ j, O' j → O j ∨ W.heap.size ≤ j
section
variable {w0 W W' : World} {x q p : Nat} {Oq Op O Oq' Op' : Nat → Prop} {va vc va' vc' : Value} {T : TS} {X : SS} {Q : QS}
theorem Sq.lt (h : Sq w0 W x q p Oq Op va vc T) : ∀ j, sqO x Oq Op va vc j → w0.heap.size ≤ j ∧ j < W.heap.size := by
  rintro j (rfl | hj | hj | hj | hj)
  · exact ⟨h.bx, h.at_.lt⟩
  · exact h.so.lt j hj
  · exact h.ri.lt j hj
  · exact ow_lt h.ma j hj
  · exact ow_lt h.mc j hj
theorem Sq.lts (h : Sq w0 W x q p Oq Op va vc T) : ∀ Q ∈ ([(· = x), Oq, Op, obk va, obk vc] : List (Nat → Prop)), ∀ b, Q b → b < W.heap.size := fun Q hQ b hb => by
  simp only [List.mem_cons, List.not_mem_nil, or_false] at hQ
  refine (h.lt b ?_).2
  rcases hQ with rfl | rfl | rfl | rfl | rfl
  · exact .inl hb
  · exact .inr (.inl hb)
  · exact .inr (.inr (.inl hb))
  · exact .inr (.inr (.inr (.inl hb)))
  · exact .inr (.inr (.inr (.inr hb)))
theorem Sq.kept {S : Nat → Prop} (h : Sq w0 W x q p Oq Op va vc T) (k : Kept S W W') (hs : ∀ j, sqO x Oq Op va vc j → ¬ S j) (hS : ∀ j, S j → w0.heap.size ≤ j) : Sq w0 W' x q p Oq Op va vc T :=
  { h with
    at_ := h.at_.kept k (hs x (.inl rfl))
    so := h.so.kept k (fun j hj => hs j (.inr (.inl hj))) hS
    ri := h.ri.kept k fun j hj => hs j (.inr (.inr (.inl hj)))
    ma := ow_kept h.ma k fun j hj => hs j (.inr (.inr (.inr (.inl hj))))
    mc := ow_kept h.mc k fun j hj => hs j (.inr (.inr (.inr (.inr hj)))) }
theorem Str.lt (h : Str w0 W x O T) : ∀ j, O j → w0.heap.size ≤ j ∧ j < W.heap.size := by
  obtain ⟨q, p, Oq, Op, va, vc, rfl, h⟩ := h
  exact h.lt
theorem Str.own (h : Str w0 W x O T) : O x := by
  obtain ⟨q, p, Oq, Op, va, vc, rfl, h⟩ := h
  exact .inl rfl
theorem Str.kept {S : Nat → Prop} (h : Str w0 W x O T) (k : Kept S W W') (hs : ∀ j, O j → ¬ S j) (hS : ∀ j, S j → w0.heap.size ≤ j) : Str w0 W' x O T := by
  obtain ⟨q, p, Oq, Op, va, vc, rfl, h⟩ := h
  exact ⟨q, p, Oq, Op, va, vc, rfl, h.kept k hs hS⟩
theorem Str.below (h : Str w0 W x O T) (k : Below W.heap.size W W') : Str w0 W' x O T := h.kept (Kept.of_below k fun _ => False) (fun _ _ h => h) (fun _ h => h.elim)
theorem Sq.c0 (h : Sq w0 W x q p Oq Op va vc T) : W.cell? ⟨x, 0, none⟩ = some (.int .u64 T.id) := by rw [h.at_.cell]; rfl
theorem Sq.c1 (h : Sq w0 W x q p Oq Op va vc T) : W.cell? ⟨x, 1, none⟩ = some (.pointer (some ⟨q, 0, none⟩)) := by rw [h.at_.cell]; rfl
theorem Sq.c2 (h : Sq w0 W x q p Oq Op va vc T) : W.cell? ⟨x, 2, none⟩ = some (.pointer (some ⟨p, 0, none⟩)) := by rw [h.at_.cell]; rfl
theorem Sq.c3 (h : Sq w0 W x q p Oq Op va vc T) : W.cell? ⟨x, 3, none⟩ = some (.int .u64 T.ab) := by rw [h.at_.cell]; rfl
theorem Sq.c4 (h : Sq w0 W x q p Oq Op va vc T) : W.cell? ⟨x, 4, none⟩ = some va := by rw [h.at_.cell]; rfl
theorem Sq.c5 (h : Sq w0 W x q p Oq Op va vc T) : W.cell? ⟨x, 5, none⟩ = some (.int .u64 T.cb) := by rw [h.at_.cell]; rfl
theorem Sq.c6 (h : Sq w0 W x q p Oq Op va vc T) : W.cell? ⟨x, 6, none⟩ = some vc := by rw [h.at_.cell]; rfl
/-- Its sender was called. -/
theorem Sq.sender (h : Sq w0 W x q p Oq Op va vc T) (hs : Sx w0 W' q Oq' X) (k : Kept Oq W W') (ho : ∀ j, Oq' j → Oq j ∨ W.heap.size ≤ j) : Sq w0 W' x q p Oq' Op va vc { T with o := X } := by
  have d := h.dj.set (i := 1) (P := Oq) (P' := Oq') rfl W.heap.size h.lts ho
  refine ⟨h.at_.kept k (h.dj 0 1 _ _ rfl rfl (by decide) x rfl), hs, h.ri.kept k (h.dj 2 1 _ _ rfl rfl (by decide)), ow_kept h.ma k (h.dj 3 1 _ _ rfl rfl (by decide)), ow_kept h.mc k (h.dj 4 1 _ _ rfl rfl (by decide)), d, h.bx, h.ok⟩
/-- Its receiver was called. -/
theorem Sq.recv (h : Sq w0 W x q p Oq Op va vc T) (hs : Qp W' w0.heap.size p Op' Q) (k : Kept Op W W') (ho : ∀ j, Op' j → Op j ∨ W.heap.size ≤ j) (hok : Q.ok) : Sq w0 W' x q p Oq Op' va vc { T with r := Q } := by
  have d := h.dj.set (i := 2) (P := Op) (P' := Op') rfl W.heap.size h.lts ho
  refine ⟨h.at_.kept k (h.dj 0 2 _ _ rfl rfl (by decide) x rfl), h.so.kept k (h.dj 1 2 _ _ rfl rfl (by decide)) (fun j hj => (h.ri.lt j hj).1), hs, ow_kept h.ma k (h.dj 3 2 _ _ rfl rfl (by decide)), ow_kept h.mc k (h.dj 4 2 _ _ rfl rfl (by decide)), d, h.bx, hok⟩
/-- Its marks of what came. -/
theorem Sq.mkC (h : Sq w0 W x q p Oq Op va vc T) : Mk W w0.heap.size x 5 61 (tsL T q p va vc) vc T.cb T.cz := ⟨h.at_, rfl, rfl, h.mc, fun e => h.dj 4 0 _ _ rfl rfl (by decide) x e rfl⟩
theorem Sq.came {b : Nat} {s : List Bool} {r : Value} {e : Ending} (h : Sq w0 W x q p Oq Op va vc T) (hP : MkPost r w0.heap.size x 5 61 (tsL T q p va vc) vc b s W e W') :
    e = .returned r ∧ ∃ vc', Sq w0 W' x q p Oq Op va vc' { T with cb := b, cz := s } ∧ Kept (fun j => j = x ∨ obk vc j) W W' ∧ ∀ j, obk vc' j → obk vc j ∨ W.heap.size ≤ j := by
  obtain ⟨he, v', hm, hk, hv⟩ := hP
  have d := h.dj.set (i := 4) (P := obk vc) (P' := obk v') rfl W.heap.size h.lts hv
  have ap : ∀ (i : Nat) (P : Nat → Prop), ([(· = x), Oq, Op, obk va, obk vc] : List (Nat → Prop))[i]? = some P → 0 ≠ i → 4 ≠ i → ∀ j, P j → ¬ (j = x ∨ obk vc j) := fun i P hi h0 h4 j hj e => by
    rcases e with e | e
    · exact h.dj 0 i _ P rfl hi h0 x rfl (e ▸ hj)
    · exact h.dj 4 i _ P rfl hi h4 j e hj
  refine ⟨he, v', ⟨hm.at_, h.so.kept hk (ap 1 _ rfl (by decide) (by decide)) (fun j hj => hj.elim (fun e => e ▸ h.bx) fun e => (ow_lt h.mc j e).1), h.ri.kept hk (ap 2 _ rfl (by decide) (by decide)), ow_kept h.ma hk (ap 3 _ rfl (by decide) (by decide)), hm.own, d, h.bx, h.ok⟩, hk, hv⟩
/-- From one step on to the whole. -/
theorem StPost.trans {W1 W2 : World} {O1 : Nat → Prop} {T1 T2 : TS} (k : Kept O W W1) (ho : ∀ j, O1 j → O j ∨ W.heap.size ≤ j) (h2 : StPost w0 x O1 T2 W1 W2) : StPost w0 x O T2 W W2 := by
  obtain ⟨O2, h3, h4, h5⟩ := h2
  have := k.size
  exact ⟨O2, h3, k.trans' h4 fun j hj => ho j hj, fun j hj => (h5 j hj).elim (ho j) fun e => .inr (by omega)⟩
end
end
section
set_option linter.unusedVariables false
set_option linter.unusedSimpArgs false
open Go.RowKit
/-- A set's numbers. -/
structure XS where
  own : Nat
  md : Nat
  msd : Nat
  ms : Nat
  tsd : Nat
  tms : Nat
  limit : Nat
  lost : Bool
  allowed : Nat
  fr : Nat
def prL (a b c : Nat) : List Value := [.int .u64 0, .int .u64 a, .int .u64 b, .int .u64 c, .int .u8 0, .int .u8 0, .int .u8 0, .int .u8 0, .int .u8 0, .int .u8 0, .int .u8 0, .int .u8 0]
def setL (X : XS) (v0 v1 : Value) : List Value := [.int .u64 X.own] ++ prL X.md X.msd X.ms ++ prL 0 X.tsd X.tms ++ [v0, v1, .int .u64 X.limit, .bool X.lost, .int .u64 X.allowed, .int .u64 X.fr]
/-- A stream that is there: its block, its blocks, its numbers. -/
structure En where
  x : Nat
  O : Nat → Prop
  T : TS
def En.p (e : En) : Value := .pointer (some ⟨e.x, 0, none⟩)
abbrev Pw (w : World) (base : Nat) (v : Value) (E : List En) : Prop := Ow w base 55 v (E.map En.p)
def TtO (s : Nat) (v0 v1 : Value) (E0 E1 : List En) : List (Nat → Prop) := [(· = s), obk v0, obk v1] ++ (E0 ++ E1).map En.O
structure Tt (w0 W : World) (s : Nat) (v0 v1 : Value) (E0 E1 : List En) (X : XS) : Prop where
  at_ : At W s 53 (setL X v0 v1)
  r0 : Pw W w0.heap.size v0 E0
  r1 : Pw W w0.heap.size v1 E1
  ea : ∀ e ∈ E0 ++ E1, Str w0 W e.x e.O e.T
  dj : Dj (TtO s v0 v1 E0 E1)
  bs : w0.heap.size ≤ s
  bl : Below w0.heap.size w0 W
  i0 : ∀ (i : Nat) (e : En), E0[i]? = some e → e.T.id = 4 * i
  i1 : ∀ (i : Nat) (e : En), E1[i]? = some e → e.T.id = 4 * i + 1
section
variable {w0 W W' : World} {s : Nat} {v0 v1 : Value} {E0 E1 : List En} {X X' : XS} {e : En} {T' : TS}
theorem Tt.lts (h : Tt w0 W s v0 v1 E0 E1 X) : ∀ Q ∈ TtO s v0 v1 E0 E1, ∀ b, Q b → w0.heap.size ≤ b ∧ b < W.heap.size := fun Q hQ b hb => by
  unfold TtO at hQ
  rcases List.mem_append.1 hQ with hQ | hQ
  · simp only [List.mem_cons, List.not_mem_nil, or_false] at hQ
    rcases hQ with rfl | rfl | rfl
    · have hb' : b = s := hb
      subst hb'
      exact ⟨h.bs, h.at_.lt⟩
    · exact ow_lt h.r0 b hb
    · exact ow_lt h.r1 b hb
  · obtain ⟨e, he, rfl⟩ := List.mem_map.1 hQ
    exact (h.ea e he).lt b hb
theorem tto_get (s : Nat) (v0 v1 : Value) (E0 E1 : List En) (i : Nat) : (TtO s v0 v1 E0 E1)[i + 3]? = ((E0 ++ E1)[i]?).map En.O := by
  unfold TtO
  rw [List.getElem?_append_right (by simp), List.getElem?_map]
  rfl
/-- Blocks that it has nothing to do with turn. -/
theorem Tt.kept {S : Nat → Prop} (h : Tt w0 W s v0 v1 E0 E1 X) (k : Kept S W W') (hs : ∀ Q ∈ TtO s v0 v1 E0 E1, ∀ b, Q b → ¬ S b) (hS : ∀ j, S j → w0.heap.size ≤ j) : Tt w0 W' s v0 v1 E0 E1 X := by
  have m0 : ((· = s) : Nat → Prop) ∈ TtO s v0 v1 E0 E1 := by unfold TtO; simp
  have m1 : obk v0 ∈ TtO s v0 v1 E0 E1 := by unfold TtO; simp
  have m2 : obk v1 ∈ TtO s v0 v1 E0 E1 := by unfold TtO; simp
  exact { h with
    at_ := h.at_.kept k (hs _ m0 s rfl)
    r0 := ow_kept h.r0 k (hs _ m1)
    r1 := ow_kept h.r1 k (hs _ m2)
    ea := fun e he => (h.ea e he).kept k (hs e.O (by unfold TtO; exact List.mem_append_right _ (List.mem_map.2 ⟨e, he, rfl⟩))) hS
    bl := k.below h.bl h.bl.size hS }
theorem Tt.below (h : Tt w0 W s v0 v1 E0 E1 X) (k : Below W.heap.size W W') : Tt w0 W' s v0 v1 E0 E1 X := h.kept (Kept.of_below k fun _ => False) (fun _ _ _ _ h => h) (fun _ h => h.elim)
theorem Tt.drewN (h : Tt w0 W s v0 v1 E0 E1 X) (n : Nat) : Tt w0 (W.drewN n) s v0 v1 E0 E1 X := h.below (belowN (Below.refl _ _) n)
/-- Its own block turns. -/
theorem Tt.top (h : Tt w0 W s v0 v1 E0 E1 X) (k : Kept (· = s) W W') (hA : At W' s 53 (setL X' v0 v1)) : Tt w0 W' s v0 v1 E0 E1 X' := by
  have ap : ∀ (i : Nat) (P : Nat → Prop), (TtO s v0 v1 E0 E1)[i + 1]? = some P → ∀ b, P b → ¬ b = s := fun i P hi b hb e => h.dj (i + 1) 0 _ _ hi rfl (by omega) b hb e
  exact { h with
    at_ := hA
    r0 := ow_kept h.r0 k (ap 0 _ rfl)
    r1 := ow_kept h.r1 k (ap 1 _ rfl)
    ea := fun e he => by
      obtain ⟨i, hi⟩ := List.getElem?_of_mem he
      exact (h.ea e he).kept k (ap (i + 2) e.O (by rw [show i + 2 + 1 = i + 3 from rfl, tto_get, hi]; rfl)) (fun j hj => hj ▸ h.bs)
    bl := k.below h.bl h.bl.size fun j hj => hj ▸ h.bs }
/-- A stream of it turns. -/
theorem Tt.turn (h : Tt w0 W s v0 v1 E0 E1 X) {i : Nat} (hi : (E0 ++ E1)[i]? = some e) (hP : StPost w0 e.x e.O T' W W') (hid : T'.id = e.T.id) :
    ∃ O' F0 F1, F0 ++ F1 = (E0 ++ E1).set i ⟨e.x, O', T'⟩ ∧ F0.length = E0.length ∧ Tt w0 W' s v0 v1 F0 F1 X ∧ Kept e.O W W' ∧ ∀ j, O' j → e.O j ∨ W.heap.size ≤ j := by
  obtain ⟨O', h1, hk, ho⟩ := hP
  have hil : i < (E0 ++ E1).length := (List.getElem?_eq_some_iff.1 hi).1
  have ei : (TtO s v0 v1 E0 E1)[i + 3]? = some e.O := by rw [tto_get, hi]; rfl
  have hset : (TtO s v0 v1 E0 E1).set (i + 3) O' = [(· = s), obk v0, obk v1] ++ ((E0 ++ E1).set i ⟨e.x, O', T'⟩).map En.O := by
    unfold TtO
    rw [List.map_set]
    rfl
  have hd := h.dj.set ei W.heap.size (fun Q hQ b hb => (h.lts Q hQ b hb).2) ho
  have hS : ∀ j, e.O j → w0.heap.size ≤ j := fun j hj => ((h.ea e (List.mem_of_getElem? hi)).lt j hj).1
  have ap : ∀ (c : Nat) (P : Nat → Prop), (TtO s v0 v1 E0 E1)[c]? = some P → c ≠ i + 3 → ∀ b, P b → ¬ e.O b := fun c P hc hne b hb => h.dj c (i + 3) P e.O hc ei hne b hb
  refine ⟨O', ((E0 ++ E1).set i ⟨e.x, O', T'⟩).take E0.length, ((E0 ++ E1).set i ⟨e.x, O', T'⟩).drop E0.length, List.take_append_drop _ _, by rw [List.length_take, List.length_set, List.length_append]; omega, ?_, hk, ho⟩
  have hmap : ((E0 ++ E1).set i ⟨e.x, O', T'⟩).map En.p = (E0 ++ E1).map En.p := by
    rw [List.map_set]
    apply List.ext_getElem?
    intro j
    rw [List.getElem?_set]
    split
    · rename_i hij
      subst hij
      rw [if_pos (by simpa using hil), List.getElem?_map, hi]
      rfl
    · rfl
  have hm0 : (((E0 ++ E1).set i ⟨e.x, O', T'⟩).take E0.length).map En.p = E0.map En.p := by
    rw [List.map_take, hmap, List.map_append, List.take_append_of_le_length (by simp), List.take_of_length_le (by simp)]
  have hm1 : (((E0 ++ E1).set i ⟨e.x, O', T'⟩).drop E0.length).map En.p = E1.map En.p := by
    rw [List.map_drop, hmap, List.map_append, List.drop_append_of_le_length (by simp), List.drop_of_length_le (by simp), List.nil_append]
  have hids : ∀ (j : Nat) (y : En), ((E0 ++ E1).set i ⟨e.x, O', T'⟩)[j]? = some y → ∃ y0, (E0 ++ E1)[j]? = some y0 ∧ y.T.id = y0.T.id := fun j y hy => by
    rw [List.getElem?_set] at hy
    split at hy
    · rename_i hij
      subst hij
      (try rw [if_pos hil] at hy)
      injection hy with hy
      subst hy
      exact ⟨e, hi, hid⟩
    · exact ⟨y, hy, rfl⟩
  refine ⟨h.at_.kept hk (ap 0 _ rfl (by omega) s rfl), ?_, ?_, ?_, ?_, h.bs, hk.below h.bl h.bl.size hS, fun j y hy => ?_, fun j y hy => ?_⟩
  · unfold Pw
    rw [hm0]
    exact ow_kept h.r0 hk (ap 1 _ rfl (by omega))
  · unfold Pw
    rw [hm1]
    exact ow_kept h.r1 hk (ap 2 _ rfl (by omega))
  · intro y hy
    rw [List.take_append_drop] at hy
    obtain ⟨j, hj⟩ := List.getElem?_of_mem hy
    rw [List.getElem?_set] at hj
    split at hj
    · rename_i hij
      (try rw [if_pos hil] at hj)
      injection hj with hj
      subst hj
      exact h1
    · rename_i hij
      exact (h.ea y (List.mem_of_getElem? hj)).kept hk (ap (j + 3) y.O (by rw [tto_get, hj]; rfl) (by omega)) hS
  · unfold TtO
    rw [List.take_append_drop, ← hset]
    exact hd
  · have hj : j < E0.length := by have := (List.getElem?_eq_some_iff.1 hy).1; rw [List.length_take] at this; omega
    rw [List.getElem?_take_of_lt hj] at hy
    obtain ⟨y0, g1, g2⟩ := hids j y hy
    rw [g2]
    rw [List.getElem?_append_left hj] at g1
    exact h.i0 j y0 g1
  · rw [List.getElem?_drop] at hy
    obtain ⟨y0, g1, g2⟩ := hids _ y hy
    rw [g2]
    rw [List.getElem?_append_right (by omega), Nat.add_sub_cancel_left] at g1
    exact h.i1 j y0 g1
end
end
section
set_option linter.unusedVariables false
set_option linter.unusedSimpArgs false
open Go.RowKit
/-- What stands at place k of both sides. -/
def at2 (E0 E1 : List En) (k : Nat) : List En := E0[k]?.toList ++ E1[k]?.toList
def riseN (E0 E1 : List En) (n : Nat) : List En := (List.range n).flatMap (at2 E0 E1)
def rise (E0 E1 : List En) : List En := riseN E0 E1 (max E0.length E1.length)
theorem riseN_step (E0 E1 : List En) (n : Nat) : riseN E0 E1 (n + 1) = riseN E0 E1 n ++ at2 E0 E1 n := by
  unfold riseN
  rw [List.range_succ, List.flatMap_append]
  simp
theorem riseN_len (E0 E1 : List En) : ∀ n : Nat, (riseN E0 E1 n).length ≤ 2 * n
  | 0 => by simp [riseN]
  | n + 1 => by
    rw [riseN_step, List.length_append]
    have h1 := riseN_len E0 E1 n
    have h2 : (at2 E0 E1 n).length ≤ 2 := by
      unfold at2
      rw [List.length_append]
      have a : (E0[n]?.toList).length ≤ 1 := by cases E0[n]? <;> simp
      have b : (E1[n]?.toList).length ≤ 1 := by cases E1[n]? <;> simp
      omega
    omega
theorem rise_mem {E0 E1 : List En} {e : En} {n : Nat} (h : e ∈ riseN E0 E1 n) : e ∈ E0 ++ E1 := by
  unfold riseN at h
  obtain ⟨k, _, hk⟩ := List.mem_flatMap.1 h
  unfold at2 at hk
  rcases List.mem_append.1 hk with h' | h'
  · exact List.mem_append_left _ (List.mem_of_getElem? (by simpa using h'))
  · exact List.mem_append_right _ (List.mem_of_getElem? (by simpa using h'))
/-- The stream that an id is. -/
def findE (E0 E1 : List En) (id : Nat) : Option En := if id / 2 % 2 = 1 then none else if id % 2 = 0 then E0[id / 4]? else E1[id / 4]?
theorem findE_mem {E0 E1 : List En} {id : Nat} {e : En} (h : findE E0 E1 id = some e) : ∃ i : Nat, (E0 ++ E1)[i]? = some e := by
  unfold findE at h
  split at h
  · cases h
  · split at h
    · exact ⟨id / 4, by rw [List.getElem?_append_left (List.getElem?_eq_some_iff.1 h).1]; exact h⟩
    · exact ⟨E0.length + id / 4, by rw [List.getElem?_append_right (by omega), Nat.add_sub_cancel_left]; exact h⟩
end
end Go.Proofs.Ytndaikeeikimeaa
