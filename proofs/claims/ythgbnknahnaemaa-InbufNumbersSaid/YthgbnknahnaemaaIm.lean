/-
  What the document's Add does to its two rows: mathematics, and two appends of one element each as steps of a region that draws.
-/
import Derived.Test.YthgbnknahnaemaaIk
namespace Go.Proofs.Ythgbnknahnaemaa
set_option linter.unusedVariables false
set_option linter.unusedSimpArgs false
open Go.RowKit
theorem Rm.congr {rd : Nat} {C : List Bool} {B : List Int} {g g' : Nat → Option Int} (h : Rm rd C B g) (e : ∀ n, rd ≤ n → g' n = g n) : Rm rd C B g' :=
  ⟨h.len, h.wl, fun i => by rw [h.has, e _ (by omega)], fun i x hx => h.byt i x (by rw [← e _ (by omega)]; exact hx)⟩
theorem Rm.pad {rd : Nat} {C : List Bool} {B : List Int} {g : Nat → Option Int} (h : Rm rd C B g) (hl : C.length < 2048) : Rm rd (C ++ [false]) (B ++ [0]) g := by
  refine ⟨by simp [h.len], by simp; omega, fun i => ?_, fun i x hx => ?_⟩
  · rw [← h.has, List.getD_eq_getElem?_getD, List.getD_eq_getElem?_getD, List.getElem?_append]
    split
    · rfl
    · rename_i hge
      rw [List.getElem?_eq_none (l := C) (by omega)]
      by_cases hi : i - C.length = 0
      · rw [hi]; rfl
      · rw [List.getElem?_eq_none (by simp; omega)]
  · have := h.byt i x hx
    have hlt := (List.getElem?_eq_some_iff.1 this).1
    rw [List.getElem?_append_left hlt]
    exact this
theorem Rm.put {rd k : Nat} {C : List Bool} {B : List Int} {g g' : Nat → Option Int} {x : Int} (h : Rm rd C B g) (hk : k < C.length) (hn : C.getD k false = false) (e : ∀ n, rd ≤ n → g' n = if n = rd + k then (g n).or (some x) else g n) : Rm rd (C.set k true) (B.set k x) g' := by
  have hg : g (rd + k) = none := by
    have := h.has k
    rw [hn] at this
    cases hq : g (rd + k) with
    | none => rfl
    | some y => rw [hq] at this; cases this
  refine ⟨by simp [h.len], by simp; exact h.wl, fun i => ?_, fun i y hy => ?_⟩
  · rw [e _ (by omega), List.getD_eq_getElem?_getD, List.getElem?_set]
    by_cases hi : k = i
    · subst hi
      rw [if_pos rfl, if_pos hk, if_pos rfl, hg]
      rfl
    · rw [if_neg hi, if_neg (by omega), ← List.getD_eq_getElem?_getD]
      exact h.has i
  · rw [e _ (by omega)] at hy
    rw [List.getElem?_set]
    by_cases hi : k = i
    · subst hi
      rw [if_pos rfl, hg] at hy
      rw [if_pos rfl, if_pos (by rw [← h.len]; exact hk)]
      injection hy with hy
      rw [hy]
    · rw [if_neg (by omega)] at hy
      rw [if_neg hi]
      exact h.byt i y hy
theorem Rm.stay {rd k : Nat} {C : List Bool} {B : List Int} {g g' : Nat → Option Int} {x : Int} (h : Rm rd C B g) (hn : C.getD k false = true) (e : ∀ n, rd ≤ n → g' n = if n = rd + k then (g n).or (some x) else g n) : Rm rd C B g' := by
  refine h.congr fun n hr => ?_
  rw [e n hr]
  split
  · rename_i hnk
    subst hnk
    have := h.has k
    rw [hn] at this
    cases hq : g (rd + k) with
    | none => rw [hq] at this; cases this
    | some y => rfl
  · rfl
/-- Two rows that take one element each, behind the world Y. -/
structure St2 (base : Nat) (Y W : World) (vb vc v1 : Value) (xs : List Value) (v2 : Value) (ys : List Value) (o1 o2 : Option Nat) : Prop where
  k : Kept (fun b => vb.ownBlock = some b ∨ vc.ownBlock = some b) Y W
  r1 : Ow W base 5 v1 xs
  r2 : Ow W base 4 v2 ys
  f1 : ∀ j, v1.ownBlock = some j → vb.ownBlock = some j ∨ Y.heap.size ≤ j
  f2 : ∀ j, v2.ownBlock = some j → vc.ownBlock = some j ∨ Y.heap.size ≤ j
  d : ∀ j, v1.ownBlock = some j → v2.ownBlock ≠ some j
  l1 : ∀ g, o1 = some g → At W g 5 [.int .u8 0] ∧ v1.ownBlock ≠ some g ∧ v2.ownBlock ≠ some g
  l2 : ∀ g, o2 = some g → At W g 4 [.bool false] ∧ v1.ownBlock ≠ some g ∧ v2.ownBlock ≠ some g
section
variable {base : Nat} {Y W : World} {vb vc v1 v2 : Value} {xs ys : List Value} {o1 o2 : Option Nat}
theorem St2.start (r1 : Ow Y base 5 vb xs) (r2 : Ow Y base 4 vc ys) (d : ∀ j, vb.ownBlock = some j → vc.ownBlock ≠ some j) : St2 base Y Y vb vc vb xs vc ys none none :=
  ⟨Kept.refl _ _, r1, r2, fun j h => .inl h, fun j h => .inl h, d, fun g h => (by cases h), fun g h => (by cases h)⟩
theorem St2.b1 (h : St2 base Y W vb vc v1 xs v2 ys none o2) : St2 base Y (W.alloc (.cells #[.int .u8 0] 5)) vb vc v1 xs v2 ys (some W.heap.size) o2 := by
  have k := (Kept.refl (fun _ => False) W).alloc (.cells #[.int .u8 0] 5)
  refine ⟨h.k.alloc _, ow_kept h.r1 k (fun _ _ h => h), ow_kept h.r2 k (fun _ _ h => h), h.f1, h.f2, h.d, fun g e => ?_, fun g e => ⟨(h.l2 g e).1.alloc _, (h.l2 g e).2⟩⟩
  have e' : W.heap.size = g := Option.some.inj e
  subst e'
  exact ⟨At.new W _ _, fun e => by have := (ow_lt h.r1 _ e).2; omega, fun e => by have := (ow_lt h.r2 _ e).2; omega⟩
theorem St2.b2 (h : St2 base Y W vb vc v1 xs v2 ys o1 none) : St2 base Y (W.alloc (.cells #[.bool false] 4)) vb vc v1 xs v2 ys o1 (some W.heap.size) := by
  have k := (Kept.refl (fun _ => False) W).alloc (.cells #[.bool false] 4)
  refine ⟨h.k.alloc _, ow_kept h.r1 k (fun _ _ h => h), ow_kept h.r2 k (fun _ _ h => h), h.f1, h.f2, h.d, fun g e => ⟨(h.l1 g e).1.alloc _, (h.l1 g e).2⟩, fun g e => ?_⟩
  have e' : W.heap.size = g := Option.some.inj e
  subst e'
  exact ⟨At.new W _ _, fun e => by have := (ow_lt h.r1 _ e).2; omega, fun e => by have := (ow_lt h.r2 _ e).2; omega⟩
variable {ops : Array Oper} {o : Oper} {a : Act} {Q : Exit → Act → World → Prop} {E : Prop} {K : Act → World → Prop}
theorem lit_src {T : TypeId} {g : Nat} {z : Value} (h : At W g T [z]) : 0 < 1 → ∃ ad, some (⟨g, 0, none⟩ : Addr) = some ad ∧ ∀ j u, [z][j]? = some u → W.cell? (ad.add j) = some u := fun _ => ⟨_, rfl, fun j u hj => by rw [Addr.add_lit, Nat.zero_add, h.cell]; exact hj⟩
theorem St2.a1 {g : Nat} (h : St2 base Y W vb vc v1 xs v2 ys (some g) o2) (hb : base ≤ W.heap.size) (hgd : o.guard = none) (s x : Operand) (ho : o.op = .call { callee := .builtin .append, args := #[s, x], argTypes := #[22, 22] }) (hs : a.eval s = v1)
    (hx : a.eval x = .slice (some ⟨g, 0, none⟩) 1 1) (hN : xs.length ≤ 2000000) (n1 : Nat) (hn1 : n1 = xs.length + 1)
    (hK : ∀ A' c' W', St2 base Y W' vb vc (.slice A' n1 c') (xs ++ [.int .u8 0]) v2 ys none o2 → K (a.put o.dst (.slice A' n1 c')) W') : if Region.wanted o (yielded ops a.tmps) = true then Oper.wp Try.prog o a W K Q else E := by
  subst hn1
  have L := h.l1 g rfl
  refine step_app1 o8 hgd s x ho base v1 xs hs h.r1 _ 1 1 hx [.int .u8 0] rfl (lit_src L.1) (fun u hu => by rw [List.mem_singleton] at hu; subst hu; rfl) (by omega) hb ?_
  intro v' w' hown hg hv _
  obtain ⟨A', c', e, _, _, _⟩ := ow_open hown
  have el : (xs ++ [Value.int .u8 0]).length = xs.length + 1 := by simp
  rw [el] at e
  subst e
  have hgk := grown_kept hg
  have hfr : ∀ j, (Value.slice A' (xs.length + 1) c').ownBlock = some j → v1.ownBlock = some j ∨ j = W.heap.size := fun j hj => hv.imp (fun e => by rw [← e]; exact hj) fun e => by rw [e] at hj; exact (Option.some.inj hj).symm
  refine hK A' c' w' ⟨h.k.trans' hgk fun j hj => (h.f1 j hj).imp .inl (fun e => e), hown, ow_kept h.r2 hgk fun j hj e => h.d j e hj, fun j hj => ?_, h.f2, fun j hj e => ?_, fun _ e => (by cases e), fun g2 e2 => ?_⟩
  · rcases hfr j hj with e | e
    · exact h.f1 j e
    · exact .inr (by have := h.k.size; omega)
  · rcases hfr j hj with e' | e'
    · exact h.d j e' e
    · have := (ow_lt h.r2 j e).2; omega
  · have L2 := h.l2 g2 e2
    refine ⟨L2.1.kept hgk L2.2.1, fun e => ?_, L2.2.2⟩
    rcases hfr g2 e with e' | e'
    · exact L2.2.1 e'
    · have := L2.1.lt; omega
theorem St2.a2 {g : Nat} (h : St2 base Y W vb vc v1 xs v2 ys o1 (some g)) (hb : base ≤ W.heap.size) (hgd : o.guard = none) (s x : Operand) (ho : o.op = .call { callee := .builtin .append, args := #[s, x], argTypes := #[31, 31] }) (hs : a.eval s = v2)
    (hx : a.eval x = .slice (some ⟨g, 0, none⟩) 1 1) (hN : ys.length ≤ 2000000) (n1 : Nat) (hn1 : n1 = ys.length + 1)
    (hK : ∀ A' c' W', St2 base Y W' vb vc v1 xs (.slice A' n1 c') (ys ++ [.bool false]) o1 none → K (a.put o.dst (.slice A' n1 c')) W') : if Region.wanted o (yielded ops a.tmps) = true then Oper.wp Try.prog o a W K Q else E := by
  subst hn1
  have L := h.l2 g rfl
  refine step_app1 oB hgd s x ho base v2 ys hs h.r2 _ 1 1 hx [.bool false] rfl (lit_src L.1) (fun u hu => by rw [List.mem_singleton] at hu; subst hu; rfl) (by omega) hb ?_
  intro v' w' hown hg hv _
  obtain ⟨A', c', e, _, _, _⟩ := ow_open hown
  have el : (ys ++ [Value.bool false]).length = ys.length + 1 := by simp
  rw [el] at e
  subst e
  have hgk := grown_kept hg
  have hfr : ∀ j, (Value.slice A' (ys.length + 1) c').ownBlock = some j → v2.ownBlock = some j ∨ j = W.heap.size := fun j hj => hv.imp (fun e => by rw [← e]; exact hj) fun e => by rw [e] at hj; exact (Option.some.inj hj).symm
  refine hK A' c' w' ⟨h.k.trans' hgk fun j hj => (h.f2 j hj).imp .inr (fun e => e), ow_kept h.r1 hgk fun j hj e => h.d j hj e, hown, h.f1, fun j hj => ?_, fun j hj e => ?_, fun g2 e2 => ?_, fun _ e => (by cases e)⟩
  · rcases hfr j hj with e | e
    · exact h.f2 j e
    · exact .inr (by have := h.k.size; omega)
  · rcases hfr j e with e' | e'
    · exact h.d j hj e'
    · have := (ow_lt h.r1 j hj).2; omega
  · have L2 := h.l1 g2 e2
    refine ⟨L2.1.kept hgk L2.2.2, L2.2.1, fun e => ?_⟩
    rcases hfr g2 e with e' | e'
    · exact L2.2.2 e'
    · have := L2.1.lt; omega
end
/-- What stands behind both stores. -/
theorem Rc.pad {Y W : World} {base q m1 c1 c2 : Nat} {vb vc : Value} {A1 A2 : Option Addr} {B : List Int} {C : List Bool} {S : BS} (hc : Rc Y base q vb vc B C S) (hl : C.length < 2048)
    (h : St2 base Y W vb vc (.slice A1 m1 c1) (B.map (Value.int .u8) ++ [.int .u8 0]) (.slice A2 m1 c2) (C.map Value.bool ++ [.bool false]) none none) :
    Rc ((W.setCell ⟨q, 5, none⟩ (.slice A2 m1 c2)).setCell ⟨q, 4, none⟩ (.slice A1 m1 c1)) base q (.slice A1 m1 c1) (.slice A2 m1 c2) (B ++ [0]) (C ++ [false]) S ∧ Kept (rO q vb vc) Y ((W.setCell ⟨q, 5, none⟩ (.slice A2 m1 c2)).setCell ⟨q, 4, none⟩ (.slice A1 m1 c1)) ∧
    ∀ j, rO q (.slice A1 m1 c1) (.slice A2 m1 c2) j → rO q vb vc j ∨ Y.heap.size ≤ j := by
  have hq := hc.at_.lt
  have kS : Kept (fun b => b = q) W ((W.setCell ⟨q, 5, none⟩ (.slice A2 m1 c2)).setCell ⟨q, 4, none⟩ (.slice A1 m1 c1)) := ((Kept.refl (fun b => b = q) W).setCell (p := ⟨q, 5, none⟩) (.inl rfl) _).setCell (p := ⟨q, 4, none⟩) (.inl rfl) _
  have n1 : ∀ j, (Value.slice A1 m1 c1).ownBlock = some j → ¬ j = q := fun j hj e => by
    rcases h.f1 j hj with h' | h'
    · exact hc.n1 (by rw [← e]; exact h')
    · omega
  have n2 : ∀ j, (Value.slice A2 m1 c2).ownBlock = some j → ¬ j = q := fun j hj e => by
    rcases h.f2 j hj with h' | h'
    · exact hc.n2 (by rw [← e]; exact h')
    · omega
  have e1 : (B ++ [0]).map (Value.int .u8) = B.map (Value.int .u8) ++ [.int .u8 0] := by simp
  have e2 : (C ++ [false]).map Value.bool = C.map Value.bool ++ [.bool false] := by simp
  have aW := hc.at_.kept h.k (fun e => e.elim hc.n1 hc.n2)
  refine ⟨⟨(aW.set 5 (.slice A2 m1 c2)).set 4 (.slice A1 m1 c1), ow_own (by rw [e1]; exact ow_kept h.r1 kS n1) (hc.ob.byt.app (Byt.one (by omega))), by rw [e2]; exact ow_kept h.r2 kS n2, fun e => n1 q e rfl, fun e => n2 q e rfl, h.d, hc.bq, hc.rm.pad hl⟩, ?_, ?_⟩
  · exact (h.k.mono fun j hj => .inl (.inr hj)).trans' kS fun j hj => .inl (.inl hj)
  · rintro j (rfl | hj | hj)
    · exact .inl (.inl rfl)
    · exact (h.f1 j hj).imp (fun e => .inr (.inl e)) id
    · exact (h.f2 j hj).imp (fun e => .inr (.inr e)) id
end Go.Proofs.Ythgbnknahnaemaa
