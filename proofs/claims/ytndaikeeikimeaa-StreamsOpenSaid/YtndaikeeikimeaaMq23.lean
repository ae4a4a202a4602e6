/-
  streams.Set: Open.
-/
import Derived.Test.YtndaikeeikimeaaTo
import Derived.Test.YtndaikeeikimeaaMq17
namespace Go.Proofs.Ytndaikeeikimeaa
section
set_option linter.unusedVariables false
set_option linter.unusedSimpArgs false
open Go.RowKit
theorem orn_0 (k : Nat) (h : k < 4611686018427387904) : bits BinOp.or IntKind.u64 ((k : Int) * 4) 0 = ((4 * k : Nat) : Int) := by
  have := or_0 k h
  rw [show IntKind.u64.wrap ((k : Int) * 4) = ((k : Int) * 4) from by rw [IntKind.wrap_u64]; omega] at this
  exact this
theorem orn_1 (k : Nat) (h : k < 4611686018427387904) : bits BinOp.or IntKind.u64 ((k : Int) * 4) 1 = ((4 * k + 1 : Nat) : Int) := by
  have := or_1 k h
  rw [show IntKind.u64.wrap ((k : Int) * 4) = ((k : Int) * 4) from by rw [IntKind.wrap_u64]; omega] at this
  exact this
section
variable {w0 W W' : World} {s x : Nat} {v0 v1 v : Value} {E0 E1 L : List En} {X : XS} {O : Nat → Prop} {T : TS}
/-- What Open leaves where there is room. -/
def OpPo0 (w0 W : World) (s : Nat) (v0 v1 : Value) (E0 E1 : List En) (X : XS) (w' : World) : Prop :=
  ∃ v' en, en.T = frS X (4 * E0.length) ∧ Tt w0 w' s v' v1 (E0 ++ [en]) E1 X ∧ Kept (fun j => j = s ∨ obk v0 j) W w' ∧ ∀ b, SO s v' v1 (E0 ++ [en]) E1 b → SO s v0 v1 E0 E1 b ∨ W.heap.size ≤ b
theorem open_end0 {Y w1 w2 : World} {y : Nat} {Oy : Nat → Prop} {e : Ending} (b0 : Below W.heap.size W Y) (hb : Below Y.heap.size Y w1) (hyn : ∀ j, Oy j → Y.heap.size ≤ j)
    (hP : RePo0 w0 w1 s v0 v1 E0 E1 X y Oy (frS X (4 * E0.length)) E0.length e w2) : OpPo0 w0 W s v0 v1 E0 E1 X w2 := by
  obtain ⟨_, v', F, hF, ht, hk, ho⟩ := hP
  have hF0 : F = [] := by
    rw [Nat.sub_self] at hF
    exact List.map_eq_nil_iff.1 hF
  subst hF0
  rw [List.append_nil] at ht ho
  have bs := b0.size
  have bs1 := hb.size
  refine ⟨v', _, rfl, ht, (Kept.of_below (b0.trans (hb.mono b0.size)) (fun j => j = s ∨ obk v0 j)).trans hk, fun b hb' => ?_⟩
  rcases ho b hb' with e | e | e
  · exact .inl e
  · exact .inr (by have := hyn b e; omega)
  · exact .inr (by omega)
set_option maxRecDepth 100000 in
set_option maxHeartbeats 8000000 in
theorem open_0 (h : Tt w0 W s v0 v1 E0 E1 X) (hown : X.own = 0) (hl : E0.length ≤ 100000) (hmsd : X.msd < 18446744073709551616) (htsd : X.tsd < 18446744073709551616) :
    Calls Try.prog 17 #[.pointer (some ⟨s, 0, none⟩)] W fun e w' =>
      (X.tms ≤ E0.length ∧ e = .returned (.tuple #[.int .u64 0, .int .i64 31]) ∧ Below W.heap.size W w') ∨
      (E0.length < X.tms ∧ e = .returned (.tuple #[.int .u64 (4 * E0.length : Nat), .int .i64 0]) ∧ OpPo0 w0 W s v0 v1 E0 E1 X w') := by
  have c0 := h.c0
  have c25 := h.c25
  have c16 := h.c16
  rw [hown] at c0
  obtain ⟨A0, c09, hv, _, hm, _⟩ := pw_open h.r0
  unfold maxLen at hm
  obtain ⟨n0, hn⟩ : ∃ n, E0.length = n := ⟨_, rfl⟩
  rw [hv] at c25
  rw [hn] at c25 ⊢
  have HT := Lib.hid h
  have HN := Lib.hid hn
  have HO := Lib.hid hown
  clear h hown hv
  obtain ⟨tm, htm⟩ : ∃ t, X.tms = t := ⟨_, rfl⟩
  rw [htm] at c16 ⊢
  rcases Nat.lt_or_ge n0 tm with hlt | hge
  · have hz : ¬ (tm : Int) ≤ (n0 : Int) := by omega
    have BO := Lib.hid (orn_0 n0 (by omega))
    have HR : Hid (∀ w1, Below W.heap.size W w1 → Tt w0 w1 s v0 v1 E0 E1 X) := Lib.hid (fun w1 k => HT.out.below k)
    have HFR : Hid (∀ w1, Below W.heap.size W w1 → Calls Try.prog 26 #[.pointer (some ⟨s, 0, none⟩), .int .u64 (bits BinOp.or IntKind.u64 ((n0 : Int) * 4) 0)] w1 (FrPo w0 w1 X (4 * E0.length))) := Lib.hid (fun w1 k => by rw [BO.out, ← hn]; exact fresh_any (HT.out.below k) _ (by omega) hmsd htsd)
    have HRE : Hid (∀ Y w1 y Oy, Below W.heap.size W Y → Below Y.heap.size Y w1 → Str w0 w1 y Oy (frS X (4 * E0.length)) → (∀ j, Oy j → Y.heap.size ≤ j) → Calls Try.prog 25 #[.pointer (some ⟨s, 0, none⟩), .pointer (some ⟨y, 0, none⟩)] w1 (RePo0 w0 w1 s v0 v1 E0 E1 X y Oy (frS X (4 * E0.length)) E0.length)) := Lib.hid (fun Y w1 y Oy k k1 hs ho => reach_0 ((HT.out.below k).below k1) hs (fun Q hQ b hO hq => by have := ((HT.out.below k).lts Q hQ b hq).2; have := ho b hO; omega) E0.length rfl hl (Nat.le_refl _) hmsd htsd)
    go_enter Try.func17, Try.ntmps17
    go_wp2_with fail
    go_quiet (fail)
    have HBY : Hid (Below W.heap.size W (W.drewN nq)) := Lib.hid (belowN (Below.refl _ _) nq)
    have hTY := HR.out _ HBY.out
    have e0 := hTY.c0
    have e25 := hTY.c25
    have e16 := hTY.c16
    rw [HO.out] at e0
    rw [htm] at e16
    generalize W.drewN nq = Y at HBY e0 e25 e16 hTY ⊢
    clear hTY
    go_wp2_with (first
      | (go_at_call 26; (with_reducible refine (HFR.out Y HBY.out).mono ?_); rintro e w1 ⟨y, Oy, rfl, hy, hyn, hb1⟩; have HB1 := Lib.hid hb1; have HC := Lib.hid (HRE.out Y w1 y Oy HBY.out hb1 hy hyn); have HYN := Lib.hid hyn; clear hy hyn hb1)
      | (go_at_call 25; (with_reducible refine HC.out.mono ?_); intro e w2 hP; have HPO := Lib.hid (open_end0 HBY.out HB1.out HYN.out hP); obtain ⟨he, _⟩ := hP; subst he)
      | fail)
    go_ret2
    exact .inr ⟨hlt, (by rw [BO.out]; rfl), HPO.out⟩
  · have hz : (tm : Int) ≤ (n0 : Int) := by omega
    go_enter Try.func17, Try.ntmps17
    go_wp2_with fail
    go_quiet (fail)
    have HBY : Hid (Below W.heap.size W (W.drewN nq)) := Lib.hid (belowN (Below.refl _ _) nq)
    have hTY := HT.out.below HBY.out
    have e16 := hTY.c16
    rw [htm] at e16
    generalize W.drewN nq = Y at HBY e16 hTY ⊢
    clear hTY
    go_wp2_with fail
    go_ret2
    exact .inl ⟨hge, rfl, HBY.out⟩
/-- What Open leaves where there is room. -/
def OpPo1 (w0 W : World) (s : Nat) (v0 v1 : Value) (E0 E1 : List En) (X : XS) (w' : World) : Prop :=
  ∃ v' en, en.T = frS X (4 * E1.length + 1) ∧ Tt w0 w' s v0 v' E0 (E1 ++ [en]) X ∧ Kept (fun j => j = s ∨ obk v1 j) W w' ∧ ∀ b, SO s v0 v' E0 (E1 ++ [en]) b → SO s v0 v1 E0 E1 b ∨ W.heap.size ≤ b
theorem open_end1 {Y w1 w2 : World} {y : Nat} {Oy : Nat → Prop} {e : Ending} (b0 : Below W.heap.size W Y) (hb : Below Y.heap.size Y w1) (hyn : ∀ j, Oy j → Y.heap.size ≤ j)
    (hP : RePo1 w0 w1 s v0 v1 E0 E1 X y Oy (frS X (4 * E1.length + 1)) E1.length e w2) : OpPo1 w0 W s v0 v1 E0 E1 X w2 := by
  obtain ⟨_, v', F, hF, ht, hk, ho⟩ := hP
  have hF0 : F = [] := by
    rw [Nat.sub_self] at hF
    exact List.map_eq_nil_iff.1 hF
  subst hF0
  rw [List.append_nil] at ht ho
  have bs := b0.size
  have bs1 := hb.size
  refine ⟨v', _, rfl, ht, (Kept.of_below (b0.trans (hb.mono b0.size)) (fun j => j = s ∨ obk v1 j)).trans hk, fun b hb' => ?_⟩
  rcases ho b hb' with e | e | e
  · exact .inl e
  · exact .inr (by have := hyn b e; omega)
  · exact .inr (by omega)
set_option maxRecDepth 100000 in
set_option maxHeartbeats 8000000 in
theorem open_1 (h : Tt w0 W s v0 v1 E0 E1 X) (hown : X.own = 1) (hl : E1.length ≤ 100000) (hmsd : X.msd < 18446744073709551616) (htsd : X.tsd < 18446744073709551616) :
    Calls Try.prog 17 #[.pointer (some ⟨s, 0, none⟩)] W fun e w' =>
      (X.tms ≤ E1.length ∧ e = .returned (.tuple #[.int .u64 0, .int .i64 31]) ∧ Below W.heap.size W w') ∨
      (E1.length < X.tms ∧ e = .returned (.tuple #[.int .u64 (4 * E1.length + 1 : Nat), .int .i64 0]) ∧ OpPo1 w0 W s v0 v1 E0 E1 X w') := by
  have c0 := h.c0
  have c26 := h.c26
  have c16 := h.c16
  rw [hown] at c0
  obtain ⟨A1, c19, hv, _, hm, _⟩ := pw_open h.r1
  unfold maxLen at hm
  obtain ⟨n1, hn⟩ : ∃ n, E1.length = n := ⟨_, rfl⟩
  rw [hv] at c26
  rw [hn] at c26 ⊢
  have HT := Lib.hid h
  have HN := Lib.hid hn
  have HO := Lib.hid hown
  clear h hown hv
  obtain ⟨tm, htm⟩ : ∃ t, X.tms = t := ⟨_, rfl⟩
  rw [htm] at c16 ⊢
  rcases Nat.lt_or_ge n1 tm with hlt | hge
  · have hz : ¬ (tm : Int) ≤ (n1 : Int) := by omega
    have BO := Lib.hid (orn_1 n1 (by omega))
    have HR : Hid (∀ w1, Below W.heap.size W w1 → Tt w0 w1 s v0 v1 E0 E1 X) := Lib.hid (fun w1 k => HT.out.below k)
    have HFR : Hid (∀ w1, Below W.heap.size W w1 → Calls Try.prog 26 #[.pointer (some ⟨s, 0, none⟩), .int .u64 (bits BinOp.or IntKind.u64 ((n1 : Int) * 4) 1)] w1 (FrPo w0 w1 X (4 * E1.length + 1))) := Lib.hid (fun w1 k => by rw [BO.out, ← hn]; exact fresh_any (HT.out.below k) _ (by omega) hmsd htsd)
    have HRE : Hid (∀ Y w1 y Oy, Below W.heap.size W Y → Below Y.heap.size Y w1 → Str w0 w1 y Oy (frS X (4 * E1.length + 1)) → (∀ j, Oy j → Y.heap.size ≤ j) → Calls Try.prog 25 #[.pointer (some ⟨s, 0, none⟩), .pointer (some ⟨y, 0, none⟩)] w1 (RePo1 w0 w1 s v0 v1 E0 E1 X y Oy (frS X (4 * E1.length + 1)) E1.length)) := Lib.hid (fun Y w1 y Oy k k1 hs ho => reach_1 ((HT.out.below k).below k1) hs (fun Q hQ b hO hq => by have := ((HT.out.below k).lts Q hQ b hq).2; have := ho b hO; omega) E1.length rfl hl (Nat.le_refl _) hmsd htsd)
    go_enter Try.func17, Try.ntmps17
    go_wp2_with fail
    go_quiet (fail)
    have HBY : Hid (Below W.heap.size W (W.drewN nq)) := Lib.hid (belowN (Below.refl _ _) nq)
    have hTY := HR.out _ HBY.out
    have e0 := hTY.c0
    have e26 := hTY.c26
    have e16 := hTY.c16
    rw [HO.out] at e0
    rw [htm] at e16
    generalize W.drewN nq = Y at HBY e0 e26 e16 hTY ⊢
    clear hTY
    go_wp2_with (first
      | (go_at_call 26; (with_reducible refine (HFR.out Y HBY.out).mono ?_); rintro e w1 ⟨y, Oy, rfl, hy, hyn, hb1⟩; have HB1 := Lib.hid hb1; have HC := Lib.hid (HRE.out Y w1 y Oy HBY.out hb1 hy hyn); have HYN := Lib.hid hyn; clear hy hyn hb1)
      | (go_at_call 25; (with_reducible refine HC.out.mono ?_); intro e w2 hP; have HPO := Lib.hid (open_end1 HBY.out HB1.out HYN.out hP); obtain ⟨he, _⟩ := hP; subst he)
      | fail)
    go_ret2
    exact .inr ⟨hlt, (by rw [BO.out]; rfl), HPO.out⟩
  · have hz : (tm : Int) ≤ (n1 : Int) := by omega
    go_enter Try.func17, Try.ntmps17
    go_wp2_with fail
    go_quiet (fail)
    have HBY : Hid (Below W.heap.size W (W.drewN nq)) := Lib.hid (belowN (Below.refl _ _) nq)
    have hTY := HT.out.below HBY.out
    have e16 := hTY.c16
    rw [htm] at e16
    generalize W.drewN nq = Y at HBY e16 hTY ⊢
    clear hTY
    go_wp2_with fail
    go_ret2
    exact .inl ⟨hge, rfl, HBY.out⟩
end
end
section
set_option linter.unusedVariables false
set_option linter.unusedSimpArgs false
open Go.RowKit
section
variable {P : Program} {ops : Array Oper} {rest : List Oper} {a : Act} {w : World} {Q : Exit → Act → World → Prop} {dst : Option Tmp} {x y : Operand} {ty t : TypeId} {pos : String} {after : Array Edge}
/-- A struct is stored whole behind the first cells of another one. -/
theorem storeT_sub (p o : Nat) (T : TypeId) (l l' vs : List Value) (hx : a.eval x = .pointer (some ⟨p, o, none⟩)) (hy : a.eval y = .agg vs.toArray) (hA : At w p T l) (hl : o + vs.length ≤ l.length)
    (hi : (P.info? ty).map (·.size) = some vs.length) (h1 : vs.all (·.oneCell') = true) (hres : setFrom l o vs = l') (h : ∀ w', At w' p T l' → Kept (· = p) w w' → wpList P ops Q rest (a.put dst undef) w') :
    wpList P ops Q (⟨dst, .store ty x y, t, pos, after, none⟩ :: rest) a w := by
  refine wpList_store_mid rfl ty x y rfl p o vs.toArray hx hy (fun j hj => ?_) (by simpa using hi) (by simpa using h1) ?_
  · simp at hj
    rw [hA.cell, hA.frozen]
    simp
    omega
  · have := At.setFrom vs l o w hA
    rw [hres] at this
    exact h _ (by simpa using this) (by simpa using Kept.setCells (S := (· = p)) rfl vs o w (Kept.refl _ _))
end
section
variable {ops : Array Oper} {rest : List Oper} {a : Act} {w : World} {Q : Exit → Act → World → Prop} {dst : Option Tmp} {x y : Operand} {t : TypeId} {pos : String} {after : Array Edge}
theorem at_stP {g : Option (Nat × Bool)} (h : wpList Try.prog ops Q (⟨dst, .store 26 x y, t, pos, after, g⟩ :: rest) a w) : wpList Try.prog ops Q (⟨dst, .store 26 x y, t, pos, after, g⟩ :: rest) a w := h
theorem params_size : (Try.prog.info? 26).map (·.size) = some 12 := by kernel_rfl
end
/-- A set in which nothing was opened yet. -/
def xs0 (sv : Bool) (md msd ms : Nat) : XS := ⟨if sv then 1 else 0, md, min msd 2048, min ms 8, 0, 0, md, false, 0, 0⟩
def nilV : Value := .slice none 0 0
theorem tt_new {W w9 : World} {s : Nat} {X : XS} (hs : W.heap.size ≤ s) (hb : Below W.heap.size W w9) (hA : At w9 s 53 (setL X nilV nilV)) : Tt W w9 s nilV nilV [] [] X := by
  refine ⟨hA, ow_nil _ _ _, ow_nil _ _ _, fun e he => (by cases he), ?_, hs, hb, fun i e h => (by simp at h), fun i e h => (by simp at h)⟩
  intro a c A C ha hc hac b hA' hC'
  have e : ∀ (i : Nat) (P : Nat → Prop), (TtO s nilV nilV [] [])[i]? = some P → P b → i = 0 := fun i P hi hP => by
    rcases i with _ | _ | _ | i
    · rfl
    · simp [TtO] at hi; subst hi; cases hP
    · simp [TtO] at hi; subst hi; cases hP
    · simp [TtO] at hi
  exact hac ((e a A ha hA').trans (e c C hc hC').symm)
set_option maxRecDepth 100000 in
set_option maxHeartbeats 8000000 in
theorem newS_any (sv : Bool) (md msd ms : Nat) (hmd : md < 18446744073709551616) (hmsd : msd < 18446744073709551616) (hms : ms < 18446744073709551616) (W : World) :
    Calls Try.prog 5 #[.bool sv, .agg (prL md msd ms).toArray] W fun e w' => ∃ s, e = .returned (.pointer (some ⟨s, 0, none⟩)) ∧ Tt W w' s nilV nilV [] [] (xs0 sv md msd ms) := by
  obtain ⟨m1, hm1⟩ : ∃ m, min msd 2048 = m := ⟨_, rfl⟩
  obtain ⟨m2, hm2⟩ : ∃ m, min ms 8 = m := ⟨_, rfl⟩
  have z1 : (if (2048 : Int) < (msd : Int) then (2048 : Int) else (msd : Int)) = (m1 : Int) := by rw [← hm1]; split <;> omega
  have z2 : (if (8 : Int) < (ms : Int) then (8 : Int) else (ms : Int)) = (m2 : Int) := by rw [← hm2]; split <;> omega
  have HEQ : Hid (∀ v0 v1, setL (xs0 sv md msd ms) v0 v1 = setL ⟨if sv then 1 else 0, md, m1, m2, 0, 0, md, false, 0, 0⟩ v0 v1) := Lib.hid (fun v0 v1 => by unfold xs0; rw [hm1, hm2])
  clear hm1 hm2
  unfold prL
  have hB1 : Below W.heap.size W (W.alloc (.cells #[.int .u64 0, .int .u64 md, .int .u64 msd, .int .u64 ms, .int .u8 0, .int .u8 0, .int .u8 0, .int .u8 0, .int .u8 0, .int .u8 0, .int .u8 0, .int .u8 0] 26)) := (Below.refl _ _).alloc (Nat.le_refl _) _
  have hA1 := At.new W 26 [.int .u64 0, .int .u64 md, .int .u64 msd, .int .u64 ms, .int .u8 0, .int .u8 0, .int .u8 0, .int .u8 0, .int .u8 0, .int .u8 0, .int .u8 0, .int .u8 0]
  have c1 : (W.alloc (.cells #[.int .u64 0, .int .u64 md, .int .u64 msd, .int .u64 ms, .int .u8 0, .int .u8 0, .int .u8 0, .int .u8 0, .int .u8 0, .int .u8 0, .int .u8 0, .int .u8 0] 26)).cell? ⟨W.heap.size, 1, none⟩ = some (.int .u64 md) := by rw [hA1.cell]; rfl
  have c2 : (W.alloc (.cells #[.int .u64 0, .int .u64 md, .int .u64 msd, .int .u64 ms, .int .u8 0, .int .u8 0, .int .u8 0, .int .u8 0, .int .u8 0, .int .u8 0, .int .u8 0, .int .u8 0] 26)).cell? ⟨W.heap.size, 2, none⟩ = some (.int .u64 msd) := by rw [hA1.cell]; rfl
  have c3 : (W.alloc (.cells #[.int .u64 0, .int .u64 md, .int .u64 msd, .int .u64 ms, .int .u8 0, .int .u8 0, .int .u8 0, .int .u8 0, .int .u8 0, .int .u8 0, .int .u8 0, .int .u8 0] 26)).cell? ⟨W.heap.size, 3, none⟩ = some (.int .u64 ms) := by rw [hA1.cell]; rfl
  have hl1 := hA1.lt
  clear hA1
  go_enter Try.func5, Try.ntmps5
  go_upto_region 1 with fail
  generalize W.alloc (.cells #[.int .u64 0, .int .u64 md, .int .u64 msd, .int .u64 ms, .int .u8 0, .int .u8 0, .int .u8 0, .int .u8 0, .int .u8 0, .int .u8 0, .int .u8 0, .int .u8 0] 26) = w1 at hB1 c1 c2 c3 hl1 ⊢
  go_upto_region 2 with fail
  have hB2 : Below W.heap.size W (w1.alloc (.cells #[.int .u64 0, .int .u64 0, .int .u64 0, .int .u64 0, .int .u64 0, .int .u8 0, .int .u8 0, .int .u8 0, .int .u8 0, .int .u8 0, .int .u8 0, .int .u8 0, .int .u8 0, .int .u64 0, .int .u64 0, .int .u64 0, .int .u64 0, .int .u8 0, .int .u8 0, .int .u8 0, .int .u8 0, .int .u8 0, .int .u8 0, .int .u8 0, .int .u8 0, .slice none 0 0, .slice none 0 0, .int .u64 md, .bool false, .int .u64 0, .int .u64 0] 53)) := hB1.alloc hB1.size _
  have hb2 : Below w1.heap.size w1 (w1.alloc (.cells #[.int .u64 0, .int .u64 0, .int .u64 0, .int .u64 0, .int .u64 0, .int .u8 0, .int .u8 0, .int .u8 0, .int .u8 0, .int .u8 0, .int .u8 0, .int .u8 0, .int .u8 0, .int .u64 0, .int .u64 0, .int .u64 0, .int .u64 0, .int .u8 0, .int .u8 0, .int .u8 0, .int .u8 0, .int .u8 0, .int .u8 0, .int .u8 0, .int .u8 0, .slice none 0 0, .slice none 0 0, .int .u64 md, .bool false, .int .u64 0, .int .u64 0] 53)) := (Below.refl _ _).alloc (Nat.le_refl _) _
  have hA2 := At.new w1 53 [.int .u64 0, .int .u64 0, .int .u64 0, .int .u64 0, .int .u64 0, .int .u8 0, .int .u8 0, .int .u8 0, .int .u8 0, .int .u8 0, .int .u8 0, .int .u8 0, .int .u8 0, .int .u64 0, .int .u64 0, .int .u64 0, .int .u64 0, .int .u8 0, .int .u8 0, .int .u8 0, .int .u8 0, .int .u8 0, .int .u8 0, .int .u8 0, .int .u8 0, .slice none 0 0, .slice none 0 0, .int .u64 md, .bool false, .int .u64 0, .int .u64 0]
  have d1 := (hb2.cell (p := ⟨W.heap.size, 1, none⟩) hl1).trans c1
  have d2 := (hb2.cell (p := ⟨W.heap.size, 2, none⟩) hl1).trans c2
  have d3 := (hb2.cell (p := ⟨W.heap.size, 3, none⟩) hl1).trans c3
  have hs : W.heap.size ≤ w1.heap.size := hB1.size
  change At (w1.alloc (.cells #[.int .u64 0, .int .u64 0, .int .u64 0, .int .u64 0, .int .u64 0, .int .u8 0, .int .u8 0, .int .u8 0, .int .u8 0, .int .u8 0, .int .u8 0, .int .u8 0, .int .u8 0, .int .u64 0, .int .u64 0, .int .u64 0, .int .u64 0, .int .u8 0, .int .u8 0, .int .u8 0, .int .u8 0, .int .u8 0, .int .u8 0, .int .u8 0, .int .u8 0, .slice none 0 0, .slice none 0 0, .int .u64 md, .bool false, .int .u64 0, .int .u64 0] 53)) _ _ _ at hA2
  generalize w1.alloc (.cells #[.int .u64 0, .int .u64 0, .int .u64 0, .int .u64 0, .int .u64 0, .int .u8 0, .int .u8 0, .int .u8 0, .int .u8 0, .int .u8 0, .int .u8 0, .int .u8 0, .int .u8 0, .int .u64 0, .int .u64 0, .int .u64 0, .int .u64 0, .int .u8 0, .int .u8 0, .int .u8 0, .int .u8 0, .int .u8 0, .int .u8 0, .int .u8 0, .int .u8 0, .slice none 0 0, .slice none 0 0, .int .u64 md, .bool false, .int .u64 0, .int .u64 0] 53) = w2 at hB2 hA2 d1 d2 d3 ⊢
  generalize w1.heap.size = s at hA2 hl1 hs ⊢
  clear hb2 hB1 c1 c2 c3
  have HB2 := Lib.hid hB2
  have HS := Lib.hid hs
  have hne : s ≠ W.heap.size := by omega
  clear hB2 hs
  cases sv with
  | false =>
    have HA2 := Lib.hid hA2
    clear hA2
    go_wp2_with (first
      | ((with_reducible refine at_stP ?_); refine storeT_sub s 1 53 _ (setL ⟨0, md, m1, m2, 0, 0, md, false, 0, 0⟩ nilV nilV) (prL md m1 m2) (by rfl) (by rfl) HA2.out (by simp [prL]) (by rw [params_size]; rfl) (by rfl) (by rfl) ?_; intro w9 hA9 hk9)
      | fail)
    go_ret
    exact ⟨s, rfl, tt_new HS.out (hk9.below HB2.out HB2.out.size (fun j hj => by rw [hj]; exact HS.out)) (by rw [HEQ.out]; exact hA9)⟩
  | true =>
    have f0 := hA2.frozen 0
    have g0 : w2.cell? ⟨s, 0, none⟩ = some (.int .u64 0) := by rw [hA2.cell]; rfl
    have e1 := (((Kept.refl (· = s) w2).setAt 0 (.int .u64 1)).cell (p := ⟨W.heap.size, 1, none⟩) (show W.heap.size < w2.heap.size from by have := hA2.lt; omega) (fun e => hne e.symm)).trans d1
    have e2 := (((Kept.refl (· = s) w2).setAt 0 (.int .u64 1)).cell (p := ⟨W.heap.size, 2, none⟩) (show W.heap.size < w2.heap.size from by have := hA2.lt; omega) (fun e => hne e.symm)).trans d2
    have e3 := (((Kept.refl (· = s) w2).setAt 0 (.int .u64 1)).cell (p := ⟨W.heap.size, 3, none⟩) (show W.heap.size < w2.heap.size from by have := hA2.lt; omega) (fun e => hne e.symm)).trans d3
    have HA2 := Lib.hid (hA2.set 0 (.int .u64 1))
    clear hA2
    go_wp2_with (first
      | ((with_reducible refine at_stP ?_); refine storeT_sub s 1 53 _ (setL ⟨1, md, m1, m2, 0, 0, md, false, 0, 0⟩ nilV nilV) (prL md m1 m2) (by rfl) (by rfl) HA2.out (by simp [prL]) (by rw [params_size]; rfl) (by rfl) (by rfl) ?_; intro w9 hA9 hk9)
      | fail)
    go_ret
    exact ⟨s, rfl, tt_new HS.out ((((Kept.refl (· = s) w2).setAt 0 (.int .u64 1)).trans hk9).below HB2.out HB2.out.size (fun j hj => by rw [hj]; exact HS.out)) (by rw [HEQ.out]; exact hA9)⟩
end
section
set_option linter.unusedVariables false
set_option linter.unusedSimpArgs false
open Go.RowKit
theorem u64_info : (Try.prog.info? 22).map (fun i => (i.zero, i.size, i.bytes)) = some (some (.int .u64 0), 1, 8) := by kernel_rfl
theorem run_app_u (w : World) (ty : TypeId) (base : Nat) (v : Value) (xs : List Value) (hown : Ow w base 22 v xs) (g c : Nat) (y : Nat) (hcell : w.cell? ⟨g, 0, none⟩ = some (.int .u64 y)) (hl : xs.length ≤ 1000000) (hbase : base ≤ w.heap.size) :
    ∃ v' w', (Builtin.append_ #[38, 38] ty #[v, .slice (some ⟨g, 0, none⟩) 1 c]).run Try.prog w = .ok v' w' ∧ Ow w' base 22 v' (xs ++ [.int .u64 y]) ∧ w.grownBy w' v.ownBlock ∧ (v'.ownBlock = v.ownBlock ∨ v'.ownBlock = some w.heap.size) := by
  have hI := u64_info
  cases hq : Try.prog.info? 22 with
  | none => rw [hq] at hI; cases hI
  | some i =>
    rw [hq] at hI
    simp only [Option.map_some, Option.some.injEq, Prod.mk.injEq] at hI
    obtain ⟨v', w', k1, k2, k3, _, k5⟩ := run_append_own_at (P := Try.prog) (w := w) base 38 ty 22 i _ 1 8 Try.underlying38 hq hI.1 hI.2.1 hI.2.2 rfl (by omega) v xs.length xs hown ⟨g, 0, none⟩ 1 c [.int .u64 y] rfl
      (fun j u hj => by
        rcases j with _ | j
        · simp at hj; subst hj; exact hcell
        · simp at hj) (fun u hu => by simp at hu; subst hu; rfl) (by unfold maxLen; omega) (by omega) hbase
    refine ⟨v', w', k1, ?_, k3, k5⟩
    have e3 : (xs ++ [Value.int .u64 y]).length = xs.length + 1 := by simp
    unfold Ow
    rw [e3]
    exact k2
section
variable {ops : Array Oper} {rest : List Oper} {o : Oper} {a : Act} {w : World} {Q : Exit → Act → World → Prop}
/-- append(l, x) of one uint64. -/
theorem wpList_app_u (hgd : o.guard = none) (s x : Operand) (ho : o.op = .call { callee := .builtin .append, args := #[s, x], argTypes := #[38, 38] }) (base : Nat) (v : Value) (xs : List Value) (hs : a.eval s = v) (hown : Ow w base 22 v xs) (g c : Nat) (y : Nat)
    (hx : a.eval x = .slice (some ⟨g, 0, none⟩) 1 c) (hcell : w.cell? ⟨g, 0, none⟩ = some (.int .u64 y)) (hl : xs.length ≤ 1000000) (hbase : base ≤ w.heap.size)
    (h : ∀ v' w', Ow w' base 22 v' (xs ++ [.int .u64 y]) → w.grownBy w' v.ownBlock → (v'.ownBlock = v.ownBlock ∨ v'.ownBlock = some w.heap.size) → wpList Try.prog ops Q rest (a.put o.dst v') w') :
    wpList Try.prog ops Q (o :: rest) a w := by
  obtain ⟨v', w', k1, k2, k3, k4⟩ := run_app_u w o.type base v xs hown g c y hcell hl hbase
  refine wpList_plain hgd fun K hK => ?_
  unfold Oper.wp
  simp [execOp, ho, resolve, invoke, builtin, hs, hx, k1, Result.andThen]
  exact hK _ _ (h v' w' k2 k3 k4)
end
section
variable {w0 W wr w2 w3 : World} {s base : Nat} {v0 v1 v v' vl : Value} {E0 E1 L : List En} {X : XS} {A : Option Addr} {n c i : Nat} {e : En}
def En.idV (e : En) : Value := .int .u64 e.T.id
theorem pw_at (h : Pw W base (.slice A n c) L) (hi : L[i]? = some e) : ∃ g, A = some ⟨g, 0, none⟩ ∧ W.cell? ⟨g, i, none⟩ = some e.p := by
  obtain ⟨A', c', h1, _, _, h2⟩ := pw_open h
  injection h1 with h1
  subst h1
  exact h2 i e hi
/-- IDs on its way. -/
structure Idp (W wr : World) (vl : Value) (L : List En) (v : Value) (i : Nat) : Prop where
  rl : Pw wr W.heap.size vl L
  ri : Ow wr W.heap.size 22 v ((L.take i).map En.idV)
  bl : Below W.heap.size W wr
  ap : ∀ b, obk v b → ¬ obk vl b
theorem Idp.step (h : Idp W wr vl L v i) (hi : L[i]? = some e) (hb : Below wr.heap.size wr w2) (h2 : Ow w3 W.heap.size 22 v' ((L.take i).map En.idV ++ [e.idV])) (hg : w2.grownBy w3 v.ownBlock) (hv : v'.ownBlock = v.ownBlock ∨ v'.ownBlock = some w2.heap.size) : Idp W w3 vl L v' (i + 1) := by
  have k1 : Kept (obk v) w2 w3 := Kept.of_grown hg fun k hk => .inl hk
  have hs := h.bl.size
  have hs2 := hb.size
  have hlt := List.getElem?_eq_some_iff.1 hi
  have et : (L.take (i + 1)).map En.idV = (L.take i).map En.idV ++ [e.idV] := by
    rw [List.take_add_one, hi]
    simp
  refine ⟨ow_kept (ow_kept h.rl (Kept.of_below hb fun _ => False) fun _ _ h => h) k1 (fun b hb hq => h.ap b hq hb), by rw [et]; exact h2, k1.below (h.bl.trans (hb.mono hs)) (by omega) fun j hj => (ow_lt h.ri j hj).1, fun b hq hl => ?_⟩
  rcases obk_ne hv hq with e1 | e1
  · exact h.ap b e1 hl
  · have := (ow_lt h.rl b hl).2; omega
set_option maxRecDepth 100000 in
set_option maxHeartbeats 8000000 in
theorem ids_any (h : Tt w0 W s v0 v1 E0 E1 X) (h0 : E0.length ≤ 100000) (h1 : E1.length ≤ 100000) :
    Calls Try.prog 8 #[.pointer (some ⟨s, 0, none⟩)] W fun e w' => ∃ v, e = .returned v ∧ Ow w' W.heap.size 22 v ((rise E0 E1).map En.idV) ∧ Below W.heap.size W w' := by
  have HRI := Lib.hid (rising_any h h0 h1)
  have HEC : Hid (∀ (wr : World) (i : Nat) (e : En), Below W.heap.size W wr → (rise E0 E1)[i]? = some e → wr.cell? ⟨e.x, 0, none⟩ = some (.int .u64 e.T.id)) := Lib.hid (fun wr i e k hi => by
    have hm := h.ea e (rise_mem (List.mem_of_getElem? hi))
    have hx := hm.lt _ hm.own
    exact (k.cell (p := ⟨e.x, 0, none⟩) hx.2).trans hm.c0)
  have HLN : Hid ((rise E0 E1).length ≤ 200000) := Lib.hid (by have := riseN_len E0 E1 (max E0.length E1.length); unfold rise; omega)
  generalize rise E0 E1 = L at HRI HEC HLN ⊢
  clear h
  obtain ⟨n, hn⟩ : ∃ n, L.length = n := ⟨_, rfl⟩
  go_enter Try.func8, Try.ntmps8
  go_upto_region 3 with (first
    | (go_at_call 18; (with_reducible refine HRI.out.mono ?_); rintro e w1 ⟨vl, rfl, hr⟩; obtain ⟨A, c, rfl, hnc, hcm, _⟩ := pw_open hr.row; rw [hn] at hr hnc ⊢; have HP := Lib.hid (show Idp W w1 (.slice A n c) L (.slice none 0 0) 0 from ⟨hr.row, ow_nil _ _ _, hr.bl, fun b hb => by cases hb⟩); clear hr)
    | fail)
  clear HRI
  unfold maxLen at hcm
  go_loopg [3, 9] n (fun kx s3 s9 wr => ∃ (i : Nat) (v : Value), v = s3 ∧ s9 = .int .i64 i ∧ i ≤ n ∧ n - i ≤ kx ∧ Hid (Idp W wr (.slice A n c) L v i))
  case atStart => exact ⟨0, _, rfl, rfl, by omega, by omega, HP⟩
  case round =>
    clear HP
    obtain ⟨i, s3, rfl, rfl, hin, hkx, HI⟩ := hrel
    by_cases hgo : i < n
    · have hkz : (i : Int) < (n : Int) := by omega
      obtain ⟨e, he⟩ : ∃ e, L[i]? = some e := ⟨_, List.getElem?_eq_getElem (by omega)⟩
      obtain ⟨g, rfl, hc⟩ := pw_at HI.out.rl he
      have hx := HEC.out wr i e HI.out.bl he
      have ep : e.p = .pointer (some ⟨e.x, 0, none⟩) := rfl
      rw [ep] at hc
      have hbox : Below wr.heap.size wr (wr.alloc (.cells #[.int .u64 e.T.id] 22)) := (Below.refl _ _).alloc (Nat.le_refl _) _
      have hab := At.new wr 22 [.int .u64 e.T.id]
      have HBX := Lib.hid hbox
      have HRW2 := Lib.hid (ow_kept HI.out.ri (Kept.of_below hbox (fun _ => False)) fun _ _ h => h)
      have HC9 : Hid ((wr.alloc (.cells #[.int .u64 e.T.id] 22)).cell? ⟨wr.heap.size, 0, none⟩ = some (.int .u64 e.T.id)) := Lib.hid (by rw [hab.cell]; rfl)
      have HBS : Hid (W.heap.size ≤ (wr.alloc (.cells #[.int .u64 e.T.id] 22)).heap.size) := Lib.hid (Nat.le_trans HI.out.bl.size hbox.size)
      have HL9 : Hid (((L.take i).map En.idV).length ≤ 1000000) := Lib.hid (by have := HLN.out; simp; omega)
      have HE := Lib.hid he
      clear hbox hab he ep
      go_wp2_with (first
        | (at_builtin; refine wpList_app_u rfl (.tmp 13) (.tmp 18) rfl W.heap.size _ _ rfl HRW2.out wr.heap.size 1 e.T.id (by rfl) HC9.out HL9.out HBS.out ?_; intro v9 w9 h9 hg9 hv9; have HR9 : Hid (Idp W w9 (.slice (some ⟨g, 0, none⟩) n c) L v9 (i + 1)) := Lib.hid (HI.out.step HE.out HBX.out h9 hg9 hv9); clear h9 hg9 hv9)
        | fail)
      go_roundg (n - (i + 1))
      case measure => omega
      case rel => exact ⟨i + 1, _, rfl, by simp, by omega, by omega, HR9⟩
    · have hkz : ¬ (i : Int) < (n : Int) := by omega
      obtain rfl : i = n := by omega
      go_wp2_with fail
      go_ret
      exact ⟨_, rfl, (by have := HI.out.ri; rwa [← hn, List.take_length] at this), HI.out.bl⟩
end
end
section
set_option linter.unusedVariables false
set_option linter.unusedSimpArgs false
open Go.RowKit
/-- How much came of all of these, up to each one's greatest end: cut off at 64 bits. -/
def gotS (L : List En) : Nat := (L.map fun e => highQ e.T.r).sum % 18446744073709551616
theorem gotS_step (L : List En) (i : Nat) (e : En) (h : L[i]? = some e) : IntKind.u64.wrap ((gotS (L.take i) : Int) + (highQ e.T.r : Int)) = (gotS (L.take (i + 1)) : Int) := by
  unfold gotS
  rw [List.take_add_one, h]
  simp only [Option.toList, List.map_append, List.map_cons, List.map_nil, List.sum_append, List.sum_cons, List.sum_nil, IntKind.wrap_u64]
  omega
section
variable {w0 W W' wr : World} {s : Nat} {v0 v1 : Value} {E0 E1 L : List En} {X : XS} {e : En}
/-- What a stream's receiver is, wherever memory stands on. -/
theorem Tt.recv_at (h : Tt w0 W s v0 v1 E0 E1 X) (he : e ∈ E0 ++ E1) (k : Below W.heap.size W wr) : ∃ p Op, wr.cell? ⟨e.x, 2, none⟩ = some (.pointer (some ⟨p, 0, none⟩)) ∧ Qp wr w0.heap.size p Op e.T.r ∧ e.T.r.ok := by
  obtain ⟨q, p, Oq, Op, va, vc, _, hs⟩ := (h.ea e he).below k
  exact ⟨p, Op, hs.c2, hs.ri, hs.ok⟩
set_option maxRecDepth 100000 in
set_option maxHeartbeats 8000000 in
theorem got_any (h : Tt w0 W s v0 v1 E0 E1 X) (h0 : E0.length ≤ 100000) (h1 : E1.length ≤ 100000) :
    Calls Try.prog 7 #[.pointer (some ⟨s, 0, none⟩)] W fun e w' => e = .returned (.int .u64 (gotS (rise E0 E1))) ∧ Below W.heap.size W w' := by
  have HRI := Lib.hid (rising_any h h0 h1)
  have HEC : Hid (∀ (wr : World) (i : Nat) (e : En), Below W.heap.size W wr → (rise E0 E1)[i]? = some e → ∃ p Op, wr.cell? ⟨e.x, 2, none⟩ = some (.pointer (some ⟨p, 0, none⟩)) ∧ Qp wr w0.heap.size p Op e.T.r ∧ e.T.r.ok) := Lib.hid (fun wr i e k hi => h.recv_at (rise_mem (List.mem_of_getElem? hi)) k)
  generalize rise E0 E1 = L at HRI HEC ⊢
  clear h
  obtain ⟨n, hn⟩ : ∃ n, L.length = n := ⟨_, rfl⟩
  have HFL : Hid (gotS (L.take n) = gotS L) := Lib.hid (by rw [List.take_of_length_le (by omega)])
  have hz : gotS (L.take 0) = 0 := by rw [List.take_zero]; rfl
  go_enter Try.func7, Try.ntmps7
  go_upto_region 3 with (first
    | (go_at_call 18; (with_reducible refine HRI.out.mono ?_); rintro e w1 ⟨vl, rfl, hr⟩; obtain ⟨A, c, rfl, hnc, hcm, _⟩ := pw_open hr.row; rw [hn] at hr hnc ⊢; have HP := Lib.hid hr; clear hr)
    | fail)
  clear HRI
  unfold maxLen at hcm
  go_loopg [3, 9] n (fun kx s3 s9 wr => ∃ i : Nat, s3 = .int .u64 (gotS (L.take i)) ∧ s9 = .int .i64 i ∧ i ≤ n ∧ n - i ≤ kx ∧ Hid (Ri W wr (.slice A n c) L))
  case atStart => exact ⟨0, by rw [hz]; rfl, rfl, by omega, by omega, HP⟩
  case round =>
    clear HP
    obtain ⟨i, rfl, rfl, hin, hkx, HI⟩ := hrel
    by_cases hgo : i < n
    · have hkz : (i : Int) < (n : Int) := by omega
      obtain ⟨e, he⟩ : ∃ e, L[i]? = some e := ⟨_, List.getElem?_eq_getElem (by omega)⟩
      obtain ⟨g, rfl, hc⟩ := pw_at HI.out.row he
      obtain ⟨p, Op, hx2, hq, hok⟩ := HEC.out wr i e HI.out.bl he
      have ep : e.p = .pointer (some ⟨e.x, 0, none⟩) := rfl
      rw [ep] at hc
      have HH := Lib.hid (q_high hq hok)
      have HS := gotS_step L i e he
      generalize highQ e.T.r = hq1 at *
      generalize gotS (L.take i) = g1 at *
      have HS2 := Lib.hid HS
      clear ep hq hok he
      generalize hg2 : gotS (L.take (i + 1)) = g2 at *
      have HG2 := Lib.hid hg2
      clear hg2 HS2
      go_wp2_with (first | (go_at_call 20; (with_reducible refine HH.out.mono ?_); rintro e w2 ⟨rfl, e2⟩; rw [e2]; clear e2) | fail)
      go_roundg (n - (i + 1))
      case measure => omega
      case rel => exact ⟨i + 1, by rw [HG2.out], by simp, by omega, by omega, HI⟩
    · have hkz : ¬ (i : Int) < (n : Int) := by omega
      obtain rfl : i = n := by omega
      have HB := HI.out.bl
      rw [HFL.out]
      clear HI
      go_wp2_with fail
      go_ret
      exact ⟨rfl, HB⟩
end
end
section
set_option linter.unusedVariables false
set_option linter.unusedSimpArgs false
open Go.RowKit
/-- add on its way. -/
structure Am (w wr : World) (base x o : Nat) (T : TypeId) (L : List Value) (v : Value) (b : Nat) (s : List Bool) (v' : Value) : Prop where
  mm : Mk wr base x o T (L.set (o + 1) v') v' b s
  kp : Kept (fun j => j = x ∨ v.ownBlock = some j) w wr
  ov : ∀ j, v'.ownBlock = some j → v.ownBlock = some j ∨ w.heap.size ≤ j
section
variable {w wr w1 : World} {base x o : Nat} {T : TypeId} {L : List Value} {v v' v9 : Value} {b : Nat} {s s' : List Bool} {g n c i : Nat}
theorem Am.start (h : Mk w base x o T L v b s) : Am w w base x o T L v b s v := by
  have e : L.set (o + 1) v = L := by
    have := List.getElem?_eq_some_iff.1 h.c1
    obtain ⟨h1, h2⟩ := this
    rw [← h2, List.set_getElem_self]
  exact ⟨by rw [e]; exact h, Kept.refl _ _, fun j hj => .inl hj⟩
theorem Am.post (h : Am w wr base x o T L v b s v') (hc : L[o]? = some (.int .u64 b)) : MkPost (.tuple #[]) base x o T L v b s w (.returned (.tuple #[])) wr := by
  refine ⟨rfl, v', ?_, h.kp, h.ov⟩
  have e : L.set o (.int .u64 b) = L := by
    obtain ⟨h1, h2⟩ := List.getElem?_eq_some_iff.1 hc
    rw [← h2, List.set_getElem_self]
  rw [e]
  exact h.mm
/-- The row grew: it is stored. -/
theorem Am.grow (h : Am w wr base x o T L v b s v') (ho : Ow w1 base 4 v9 (s'.map Value.bool)) (hg : wr.grownBy w1 v'.ownBlock) (hv : v9.ownBlock = v'.ownBlock ∨ v9.ownBlock = some wr.heap.size) :
    Am w (w1.setCell ⟨x, o + 1, none⟩ v9) base x o T L v b s' v9 := by
  have k1 : Kept (fun j => v'.ownBlock = some j) wr w1 := Kept.of_grown hg fun k hk => .inl hk
  have hA : At w1 x T (L.set (o + 1) v') := h.mm.at_.kept k1 h.mm.nx
  have k2 : Kept (· = x) w1 (w1.setCell ⟨x, o + 1, none⟩ v9) := (Kept.refl _ w1).setAt (o + 1) v9
  have hl := h.mm.len
  have hl' : o + 1 < L.length := by simpa using hl
  have hs := h.kp.size
  have hx := h.mm.at_.lt
  have nx9 : v9.ownBlock ≠ some x := fun e => by
    rcases hv with e1 | e1
    · exact h.mm.nx (e1 ▸ e)
    · have := e1.symm.trans e; injection this; omega
  refine ⟨⟨?_, ?_, by simp [hl'], ow_kept ho k2 (fun j hj e => nx9 (by rw [← e]; exact hj)), nx9⟩, ?_, fun j hj => ?_⟩
  · have := hA.set (o + 1) v9
    rw [List.set_set] at this
    exact this
  · rw [List.getElem?_set_ne (by omega)]
    have := h.mm.c0
    rwa [List.getElem?_set_ne (by omega)] at this
  · refine (h.kp.trans' k1 fun j hj => ?_).trans' k2 fun j hj => .inl (.inl hj)
    exact (h.ov j hj).imp .inr id
  · rcases hv with e1 | e1
    · exact h.ov j (e1 ▸ hj)
    · have := e1.symm.trans hj; injection this; exact .inr (by omega)
/-- One mark of it is set. -/
theorem Am.set1 (h : Am w wr base x o T L v b s (.slice (some ⟨g, 0, none⟩) n c)) (hn : s.length = n) (i : Nat) : Am w (wr.setCell ⟨g, i, none⟩ (.bool true)) base x o T L v b (s.set i true) (.slice (some ⟨g, 0, none⟩) n c) := by
  have k : Kept (· = g) wr (wr.setCell ⟨g, i, none⟩ (.bool true)) := (Kept.refl _ wr).setAt i (.bool true)
  have hgx : g ≠ x := fun e => h.mm.nx (by rw [← e]; rfl)
  obtain ⟨A, c', e, hnc, hcm, ho⟩ := ow_open h.mm.own
  rw [List.length_map, hn] at e
  injection e with e1 e2 e3
  subst e1; subst e3
  rcases ho with ⟨h0, _⟩ | ⟨g', cur, e, hb, hlt, hA, hl, ht⟩
  · cases h0
  · injection e with e
    injection e with e
    subst e
    refine ⟨⟨h.mm.at_.kept k (fun e => hgx e.symm), h.mm.c0, h.mm.c1, ?_, h.mm.nx⟩, h.kp.trans' k fun j hj => ?_, h.ov⟩
    · have e4 : (s.set i true).map Value.bool = (s.map Value.bool).set i (.bool true) := List.map_set
      have hxl : ((s.map Value.bool).set i (.bool true)).length = (s.map Value.bool).length := List.length_set ..
      have := ow_mk (xs := (s.map Value.bool).set i (.bool true)) (c := c) hb (hA.set i (.bool true)) (by rw [hxl]; exact hnc) hcm (by rw [List.length_set]; exact hl) (by rw [hxl, List.take_set, ht])
      rw [hxl, List.length_map, hn] at this
      rw [e4]
      exact this
    · rcases h.ov g rfl with e5 | e5
      · exact .inl (.inr (by rw [hj]; exact e5))
      · rw [hj]; exact .inr e5
end
end
end Go.Proofs.Ytndaikeeikimeaa
