/-
  The document's Take.
-/
import Derived.Test.YtphpdaldplkgmaaGreatMq13
import Derived.Test.YtphpdaldplkgmaaGreatMq14
import Derived.Deep.CutRange
namespace Go.Proofs.YtphpdaldplkgmaaGreat
set_option linter.unusedVariables false
set_option linter.unusedSimpArgs false
open Go.RowKit
theorem rm_ready_le {rd k : Nat} {C : List Bool} {B : List Int} {g : Nat → Option Int} (h : Rm rd C B g) (hk : IsR g rd k) : k ≤ C.length := by
  rcases Nat.lt_or_ge C.length k with hl | hl
  · have h1 := hk.1 C.length hl
    rw [← h.has, List.getD_eq_getElem?_getD, List.getElem?_eq_none (Nat.le_refl _)] at h1
    cases h1
  · exact hl
theorem rm_out {rd k n : Nat} {C : List Bool} {B : List Int} {g : Nat → Option Int} (h : Rm rd C B g) (hk : IsR g rd k) (hn : n ≤ k) : B.take n = outB g rd n := by
  have hkw := rm_ready_le h hk
  have hl := h.len
  apply List.ext_getElem?
  intro i
  by_cases hi : i < n
  · have h1 := hk.1 i (by omega)
    obtain ⟨x, hx⟩ := Option.isSome_iff_exists.1 h1
    have h2 := h.byt i x hx
    rw [List.getElem?_take_of_lt hi, h2]
    unfold outB
    rw [List.getElem?_map, List.getElem?_range hi]
    simp [hx]
  · rw [List.getElem?_eq_none (by simp; omega), List.getElem?_eq_none (by rw [outB_len]; omega)]
theorem rm_cut {rd : Nat} {C : List Bool} {B : List Int} {g : Nat → Option Int} (h : Rm rd C B g) (n : Nat) : Rm (rd + n) (C.drop n) (B.drop n) g := by
  refine ⟨by rw [List.length_drop, List.length_drop, h.len], by have := h.wl; rw [List.length_drop]; omega, fun i => ?_, fun i x hx => ?_⟩
  · rw [List.getD_eq_getElem?_getD, List.getElem?_drop, ← List.getD_eq_getElem?_getD, h.has]
    congr 2
    omega
  · rw [List.getElem?_drop]
    exact h.byt (n + i) x (by rw [← hx]; congr 1; omega)
/-- Two rows that are being made, one of bytes, one of bools, behind the world Y. -/
structure Sti (Y W : World) (o1 o2 : Option (Value × List Value)) : Prop where
  b : Below Y.heap.size Y W
  r1 : ∀ v xs, o1 = some (v, xs) → Ow W Y.heap.size 5 v xs
  r2 : ∀ v xs, o2 = some (v, xs) → Ow W Y.heap.size 4 v xs
  d : ∀ v xs u ys, o1 = some (v, xs) → o2 = some (u, ys) → ∀ k, v.ownBlock = some k → u.ownBlock ≠ some k
section
variable {Y W : World} {o1 o2 : Option (Value × List Value)}
theorem Sti.nil (Y : World) : Sti Y Y none none := ⟨Below.refl _ _, fun _ _ h => (by cases h), fun _ _ h => (by cases h), fun _ _ _ _ h => (by cases h)⟩
theorem ow_new (W : World) (base : Nat) (T : TypeId) (hb : base ≤ W.heap.size) : Ow (W.alloc (.cells #[] T)) base T (.slice (some ⟨W.heap.size, 0, none⟩) 0 0) [] := ⟨rfl, .inr ⟨_, 0, _, rfl, hb, heap_alloc_new W _, Nat.le_refl _, by unfold maxLen; omega, rfl, rfl⟩⟩
theorem Sti.b1 (h : Sti Y W none o2) : Sti Y (W.alloc (.cells #[] 5)) (some (.slice (some ⟨W.heap.size, 0, none⟩) 0 0, [])) o2 := by
  have k := (Kept.refl (fun _ => False) W).alloc (.cells #[] 5)
  refine ⟨h.b.alloc h.b.size _, fun v xs e => ?_, fun v xs e => ow_kept (h.r2 v xs e) k (fun _ _ h => h), fun v xs u ys e1 e2 j hj hu => ?_⟩
  · injection e with e; injection e with e1 e2; subst e1; subst e2
    exact ow_new W _ _ h.b.size
  · injection e1 with e; injection e with e1 e2'; subst e1
    have hj' : W.heap.size = j := Option.some.inj hj
    have := (ow_lt (h.r2 u ys e2) j hu).2
    omega
theorem Sti.b2 (h : Sti Y W o1 none) : Sti Y (W.alloc (.cells #[] 4)) o1 (some (.slice (some ⟨W.heap.size, 0, none⟩) 0 0, [])) := by
  have k := (Kept.refl (fun _ => False) W).alloc (.cells #[] 4)
  refine ⟨h.b.alloc h.b.size _, fun v xs e => ow_kept (h.r1 v xs e) k (fun _ _ h => h), fun v xs e => ?_, fun v xs u ys e1 e2 j hj hu => ?_⟩
  · injection e with e; injection e with e1 e2; subst e1; subst e2
    exact ow_new W _ _ h.b.size
  · injection e2 with e; injection e with e2 e2'; subst e2
    have hu' : W.heap.size = j := Option.some.inj hu
    have := (ow_lt (h.r1 v xs e1) j hj).2
    omega
variable {ops : Array Oper} {o : Oper} {a : Act} {Q : Exit → Act → World → Prop} {E : Prop} {K : Act → World → Prop}
theorem Sti.a1 {v : Value} (h : Sti Y W (some (v, [])) o2) (hgd : o.guard = none) (s x : Operand) (ho : o.op = .call { callee := .builtin .append, args := #[s, x], argTypes := #[22, 22] }) (hs : a.eval s = v)
    (A : Option Addr) (m c : Nat) (hx : a.eval x = .slice A m c) (news : List Value) (hl : news.length = m) (hnews : ∀ W', Below Y.heap.size Y W' → 0 < m → ∃ ad, A = some ad ∧ ∀ j u, news[j]? = some u → W'.cell? (ad.add j) = some u) (h1 : ∀ u ∈ news, u.oneCell' = true) (hN : m ≤ 2000000)
    (hK : ∀ A' c' W', Sti Y W' (some (.slice A' m c', news)) o2 → K (a.put o.dst (.slice A' m c')) W') : if Region.wanted o (yielded ops a.tmps) = true then Oper.wp Tryz.prog o a W K Q else E := by
  refine step_app1 o8 hgd s x ho Y.heap.size v [] hs (h.r1 v [] rfl) A m c hx news hl (hnews W h.b) h1 (by simp; omega) h.b.size ?_
  intro v' w' hown hg hv _
  obtain ⟨A', c', e, _, _, _⟩ := ow_open hown
  rw [List.nil_append, hl] at e
  rw [List.nil_append] at hown
  subst e
  have hlt := ow_lt (h.r1 v [] rfl)
  refine hK A' c' w' ⟨h.b.grown hg h.b.size (fun k hk => (hlt k hk).1), fun u xs e => ?_, fun u xs e => ow_kept (h.r2 u xs e) (grown_kept hg) (fun j hj e' => h.d v [] u xs rfl e j e' hj), fun u xs y ys e1 e2 j hj hu => ?_⟩
  · injection e with e; injection e with e1 e2; subst e1; subst e2
    exact hown
  · injection e1 with e; injection e with e1 e2'; subst e1
    rcases hv with hv | hv
    · exact h.d v [] y ys rfl e2 j (by rw [← hv]; exact hj) hu
    · have := (ow_lt (h.r2 y ys e2) j hu).2
      rw [hv] at hj
      injection hj with hj
      omega
theorem Sti.a2 {v : Value} (h : Sti Y W o1 (some (v, []))) (hgd : o.guard = none) (s x : Operand) (ho : o.op = .call { callee := .builtin .append, args := #[s, x], argTypes := #[47, 47] }) (hs : a.eval s = v)
    (A : Option Addr) (m c : Nat) (hx : a.eval x = .slice A m c) (news : List Value) (hl : news.length = m) (hnews : ∀ W', Below Y.heap.size Y W' → 0 < m → ∃ ad, A = some ad ∧ ∀ j u, news[j]? = some u → W'.cell? (ad.add j) = some u) (h1 : ∀ u ∈ news, u.oneCell' = true) (hN : m ≤ 2000000)
    (hK : ∀ A' c' W', Sti Y W' o1 (some (.slice A' m c', news)) → K (a.put o.dst (.slice A' m c')) W') : if Region.wanted o (yielded ops a.tmps) = true then Oper.wp Tryz.prog o a W K Q else E := by
  refine step_app1 oB hgd s x ho Y.heap.size v [] hs (h.r2 v [] rfl) A m c hx news hl (hnews W h.b) h1 (by simp; omega) h.b.size ?_
  intro v' w' hown hg hv _
  obtain ⟨A', c', e, _, _, _⟩ := ow_open hown
  rw [List.nil_append, hl] at e
  rw [List.nil_append] at hown
  subst e
  have hlt := ow_lt (h.r2 v [] rfl)
  refine hK A' c' w' ⟨h.b.grown hg h.b.size (fun k hk => (hlt k hk).1), fun u xs e => ow_kept (h.r1 u xs e) (grown_kept hg) (fun j hj e' => h.d u xs v [] e rfl j hj e'), fun u xs e => ?_, fun u xs y ys e1 e2 j hj hu => ?_⟩
  · injection e with e; injection e with e1 e2; subst e1; subst e2
    exact hown
  · injection e2 with e; injection e with e2 e2'; subst e2
    rcases hv with hv | hv
    · exact h.d u xs v [] e1 rfl j hj (by rw [← hv]; exact hu)
    · have := (ow_lt (h.r1 u xs e1) j hj).2
      rw [hv] at hu
      injection hu with hu
      omega
end
theorem Ow_base {w : World} {base base' : Nat} {T : TypeId} {v : Value} {xs : List Value} (h : Ow w base T v xs) (hb : base' ≤ base) : Ow w base' T v xs := by
  refine ⟨h.1, ?_⟩
  rcases h.2 with h0 | ⟨g, cap, cur, e, hb', hr⟩
  · exact .inl h0
  · exact .inr ⟨g, cap, cur, e, Nat.le_trans hb hb', hr⟩
theorem at_src {w : World} {g T : Nat} {cur xs : List Value} {m k : Nat} (hA : At w g T cur) (ht : cur.take m = xs) (j : Nat) (u : Value) (hj : (xs.drop k)[j]? = some u) : w.cell? ((⟨g, k, none⟩ : Addr).add j) = some u := by
  rw [Addr.add_lit, hA.cell]
  rw [List.getElem?_drop, ← ht, List.getElem?_take] at hj
  split at hj
  · exact hj
  · cases hj
/-- Where a row's elements from k on stand, in each world behind Y. -/
theorem ow_src {Y : World} {base : Nat} {T : TypeId} {A : Option Addr} {m c k : Nat} {xs : List Value} (h : Ow Y base T (.slice A m c) xs) (hm : xs.length = m) : ∀ W', Below Y.heap.size Y W' → 0 < m - k → ∃ ad, cutA A c k = some ad ∧ ∀ j u, (xs.drop k)[j]? = some u → W'.cell? (ad.add j) = some u := fun W' hB h0 => by
  obtain ⟨A', c', e, hnc, _, ho⟩ := ow_open h
  injection e with e1 _ e3
  subst e1; subst e3
  rcases ho with ⟨_, _, hx⟩ | ⟨g, cur, rfl, _, hlt, hA, _, ht⟩
  · subst hx; simp at hm; omega
  · refine ⟨⟨g, k, none⟩, ?_, fun j u hj => at_src (hA.below hB hlt) ht j u hj⟩
    unfold cutA
    rw [if_neg (by omega), Option.map_some, addr_add, Nat.zero_add]
end Go.Proofs.YtphpdaldplkgmaaGreat
