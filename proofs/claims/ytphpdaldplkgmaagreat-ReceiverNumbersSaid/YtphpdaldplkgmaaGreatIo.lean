/-
  The document's Add.
-/
import Derived.Test.YtphpdaldplkgmaaGreatMq14
import Derived.Test.YtphpdaldplkgmaaGreatMq15
import Derived.Deep.CutRange
import Derived.Deep.RegionHeld3
namespace Go.Proofs.YtphpdaldplkgmaaGreat
set_option linter.unusedVariables false
set_option linter.unusedSimpArgs false
open Go.RowKit
/-- What Add keeps while it puts byte by byte. -/
structure Al (w wr : World) (base q : Nat) (O : Nat → Prop) (S : BS) (off : Nat) (bs : List Int) (i : Nat) : Prop where
  bf : ∃ O', Rb wr base q O' ⟨S.rd, S.hi, S.fi, S.en, addG S.g off (bs.take i)⟩ ∧ ∀ j, O' j → O j ∨ w.heap.size ≤ j
  k : Kept O w wr
/-- The like, with the two rows told. -/
structure Ac (w wr : World) (base q : Nat) (O : Nat → Prop) (S : BS) (off : Nat) (bs : List Int) (i : Nat) (vb vc : Value) (B : List Int) (C : List Bool) : Prop where
  rc : Rc wr base q vb vc B C ⟨S.rd, S.hi, S.fi, S.en, addG S.g off (bs.take i)⟩
  o : ∀ j, rO q vb vc j → O j ∨ w.heap.size ≤ j
  k : Kept O w wr
section
variable {w wr : World} {base q : Nat} {O : Nat → Prop} {S : BS} {off : Nat} {bs : List Int} {i : Nat} {vb vc : Value} {B : List Int} {C : List Bool}
theorem Al.open_ (h : Al w wr base q O S off bs i) : ∃ vb vc B C, Ac w wr base q O S off bs i vb vc B C := by
  obtain ⟨⟨O', ⟨vb, vc, B, C, rfl, hc⟩, ho⟩, k⟩ := h
  exact ⟨vb, vc, B, C, hc, ho, k⟩
theorem Ac.al (h : Ac w wr base q O S off bs i vb vc B C) : Al w wr base q O S off bs i := ⟨⟨_, ⟨vb, vc, B, C, rfl, h.rc⟩, h.o⟩, h.k⟩
theorem Ac.step {W : World} {vb' vc' : Value} {B' : List Int} {C' : List Bool} {i' : Nat} (h : Ac w wr base q O S off bs i vb vc B C) (hr : Rc W base q vb' vc' B' C' ⟨S.rd, S.hi, S.fi, S.en, addG S.g off (bs.take i')⟩) (k : Kept (rO q vb vc) wr W) (ho : ∀ j, rO q vb' vc' j → rO q vb vc j ∨ wr.heap.size ≤ j) : Ac w W base q O S off bs i' vb' vc' B' C' :=
  ⟨hr, fun j hj => (ho j hj).elim (h.o j) fun h' => .inr (Nat.le_trans h.k.size h'), h.k.trans' k h.o⟩
theorem Ac.drew (h : Ac w wr base q O S off bs i vb vc B C) : Ac w wr.drew base q O S off bs i vb vc B C := ⟨h.rc.drewN 1, h.o, h.k.drew⟩
theorem Al.drew (h : Al w wr base q O S off bs i) : Al w wr.drew base q O S off bs i := by
  obtain ⟨vb, vc, B, C, h⟩ := h.open_
  exact h.drew.al
end
theorem Rc.put {w : World} {base q : Nat} {vb vc : Value} {B : List Int} {C : List Bool} {S S' : BS} (h : Rc w base q vb vc B C S) (j : Nat) (u : Value) (hr : S'.rd = S.rd) (hg : S'.g = S.g)
    (he : ([.int .u64 S.rd, .int .u64 S.hi, .int .u64 S.fi, .bool S.en, vb, vc] : List Value).set j u = [.int .u64 S'.rd, .int .u64 S'.hi, .int .u64 S'.fi, .bool S'.en, vb, vc]) :
    Rc (w.setCell ⟨q, j, none⟩ u) base q vb vc B C S' := by
  have k : Kept (fun b => b = q) w (w.setCell ⟨q, j, none⟩ u) := (Kept.refl (fun b => b = q) w).setCell (p := ⟨q, j, none⟩) (.inl rfl) u
  exact ⟨he ▸ h.at_.set j u, h.ob.kept k fun j hj e => h.n1 (by rw [hj, e]), ow_kept h.oc k fun j hj e => h.n2 (by rw [hj, e]), h.n1, h.n2, h.n3, h.bq, by rw [hr, hg]; exact h.rm⟩
section
variable {w : World} {base q : Nat} {O : Nat → Prop} {S : BS}
theorem Rb.puthi (h : Rb w base q O S) (x : Nat) : Rb (w.setCell ⟨q, 1, none⟩ (.int .u64 x)) base q O ⟨S.rd, x, S.fi, S.en, S.g⟩ := by
  obtain ⟨vb, vc, B, C, e, h⟩ := h
  exact ⟨vb, vc, B, C, e, h.put 1 _ rfl rfl rfl⟩
theorem Rb.putfi (h : Rb w base q O S) (x : Nat) : Rb (w.setCell ⟨q, 2, none⟩ (.int .u64 x)) base q O ⟨S.rd, S.hi, x, S.en, S.g⟩ := by
  obtain ⟨vb, vc, B, C, e, h⟩ := h
  exact ⟨vb, vc, B, C, e, h.put 2 _ rfl rfl rfl⟩
theorem Rb.puten (h : Rb w base q O S) (x : Bool) : Rb (w.setCell ⟨q, 3, none⟩ (.bool x)) base q O ⟨S.rd, S.hi, S.fi, x, S.g⟩ := by
  obtain ⟨vb, vc, B, C, e, h⟩ := h
  exact ⟨vb, vc, B, C, e, h.put 3 _ rfl rfl rfl⟩
end
theorem addG_skip {S : BS} (h : S.ok) {off i : Nat} {bs : List Int} (hlt : off + i < S.rd) (hi : i < bs.length) : addG S.g off (bs.take (i + 1)) = addG S.g off (bs.take i) := by
  funext n
  rw [addG_next S.g off i bs n hi]
  split
  · rename_i e
    have h1 := h.al n (by omega)
    have h2 : (addG S.g off (bs.take i) n).isSome = true := by rw [addG_some h1]; exact h1
    cases hq : addG S.g off (bs.take i) n with
    | none => rw [hq] at h2; cases h2
    | some y => rfl
  · rfl
theorem ow_set {w : World} {base : Nat} {T : TypeId} {g m c k : Nat} {xs : List Value} (h : Ow w base T (.slice (some ⟨g, 0, none⟩) m c) xs) (hm : xs.length = m) (x : Value) : Ow (w.setCell ⟨g, k, none⟩ x) base T (.slice (some ⟨g, 0, none⟩) m c) (xs.set k x) := by
  obtain ⟨A, c', e, hnc, hcm, ho⟩ := ow_open h
  injection e with e1 e2 e3
  subst e1; subst e3
  rcases ho with ⟨h, _⟩ | ⟨g', cur, h, hb, hlt, hA, hl, ht⟩
  · cases h
  · injection h with h
    injection h with h
    subst h
    have hxl : (xs.set k x).length = xs.length := List.length_set ..
    have := ow_mk (xs := xs.set k x) (c := c) hb (hA.set k x) (by rw [hxl]; exact hnc) hcm (by rw [List.length_set]; exact hl) (by rw [hxl, List.take_set, ht])
    rw [hxl, hm] at this
    exact this
/-- Both stores of a byte. -/
theorem Rc.poke {W : World} {base q g1 g2 m c1 c2 k : Nat} {B : List Int} {C : List Bool} {S : BS} {x : Int} {g' : Nat → Option Int} (h : Rc W base q (.slice (some ⟨g1, 0, none⟩) m c1) (.slice (some ⟨g2, 0, none⟩) m c2) B C S) (hm : C.length = m) (hk : k < m) (hn : C.getD k false = false) (hx : 0 ≤ x ∧ x < 256)
    (e : ∀ n, S.rd ≤ n → g' n = if n = S.rd + k then (S.g n).or (some x) else S.g n) :
    Rc ((W.setCell ⟨g2, k, none⟩ (.bool true)).setCell ⟨g1, k, none⟩ (.int .u8 x)) base q (.slice (some ⟨g1, 0, none⟩) m c1) (.slice (some ⟨g2, 0, none⟩) m c2) (B.set k x) (C.set k true) ⟨S.rd, S.hi, S.fi, S.en, g'⟩ ∧
    Kept (rO q (.slice (some ⟨g1, 0, none⟩) m c1) (.slice (some ⟨g2, 0, none⟩) m c2)) W ((W.setCell ⟨g2, k, none⟩ (.bool true)).setCell ⟨g1, k, none⟩ (.int .u8 x)) := by
  have n12 : g1 ≠ g2 := fun e => h.n3 g1 rfl (by rw [e]; rfl)
  have nq1 : g1 ≠ q := fun e => h.n1 (by rw [← e]; rfl)
  have nq2 : g2 ≠ q := fun e => h.n2 (by rw [← e]; rfl)
  have k1 : Kept (fun b => b = g2) W (W.setCell ⟨g2, k, none⟩ (.bool true)) := (Kept.refl (fun b => b = g2) W).setCell (p := ⟨g2, k, none⟩) (.inl rfl) _
  have k2 : Kept (fun b => b = g1) (W.setCell ⟨g2, k, none⟩ (.bool true)) ((W.setCell ⟨g2, k, none⟩ (.bool true)).setCell ⟨g1, k, none⟩ (.int .u8 x)) := (Kept.refl (fun b => b = g1) _).setCell (p := ⟨g1, k, none⟩) (.inl rfl) _
  have hB : B.length = m := by rw [← h.rm.len]; exact hm
  have r2 := ow_set (k := k) h.oc (by rw [List.length_map]; exact hm) (.bool true)
  have r1 : Ow (W.setCell ⟨g2, k, none⟩ (.bool true)) base 5 (.slice (some ⟨g1, 0, none⟩) m c1) (B.map (Value.int .u8)) := ow_kept (own_ow h.ob) k1 fun j hj e => n12 (show g1 = g2 from (Option.some.inj hj).trans e)
  have r1' := ow_set (k := k) r1 (by rw [List.length_map]; exact hB) (.int .u8 x)
  have r2' := ow_kept r2 k2 fun j hj e => n12 (show g1 = g2 from e.symm.trans (Option.some.inj hj).symm)
  have e1 : (B.set k x).map (Value.int .u8) = (B.map (Value.int .u8)).set k (.int .u8 x) := List.map_set
  have e2 : (C.set k true).map Value.bool = (C.map Value.bool).set k (.bool true) := List.map_set
  have hbt : Byt (B.set k x) := fun y hy => by
    rcases List.mem_or_eq_of_mem_set hy with hy | hy
    · exact h.ob.byt y hy
    · rw [hy]; exact hx
  refine ⟨⟨(h.at_.kept k1 (fun e => nq2 e.symm)).kept k2 (fun e => nq1 e.symm), ow_own (by rw [e1]; exact r1') hbt, by rw [e2]; exact r2', h.n1, h.n2, h.n3, h.bq, h.rm.put (by omega) hn e⟩, ?_⟩
  exact (k1.mono fun j hj => .inl (.inr (.inr (by rw [hj]; rfl)))).trans' k2 fun j hj => .inl (.inr (.inl (by rw [hj]; rfl)))
end Go.Proofs.YtphpdaldplkgmaaGreat
