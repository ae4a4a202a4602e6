/-
  Rows that grow by one element each, side by side, behind a world Y: what a region in any order keeps.
-/
import Derived.Test.YtbejpafephofaaaGreatMq20
import Derived.Test.YtbejpafephofaaaGreatMq0
import Derived.Test.YtbejpafephofaaaGreatMq8
import Derived.Test.YtbejpafephofaaaGreatMq9
namespace Go.Proofs.YtbejpafephofaaaGreat
section
set_option linter.unusedVariables false
set_option linter.unusedSimpArgs false
open Go.RowKit
theorem obd_info : (Tryz.prog.info? 4).map (fun i => (i.zero, i.size, i.bytes)) = some (some (.bool false), 1, 1) := by kernel_rfl
theorem oBd : OneT Tryz.prog 44 4 (.bool false) := by
  obtain ⟨i, hi, h⟩ : ∃ i, Tryz.prog.info? 4 = some i ∧ i.zero = some (.bool false) ∧ i.size = 1 ∧ i.bytes = 1 := by
    have hI := obd_info
    cases hq : Tryz.prog.info? 4 with
    | none => rw [hq] at hI; cases hI
    | some i =>
      rw [hq] at hI
      simp only [Option.map_some, Option.some.injEq, Prod.mk.injEq] at hI
      exact ⟨i, rfl, hI⟩
  exact ⟨Tryz.underlying44, ⟨i, hi, h⟩, rfl, rfl⟩
/-- us: the rows at first; vs: now; rs: what they hold; ls: the literals' blocks; zs: their one element. -/
structure StL (base : Nat) (Y W : World) (us vs : List Value) (rs : List (TypeId × List Value)) (ls : List (Option Nat)) (zs : List (TypeId × Value)) : Prop where
  k : Kept (fun b => ∃ (i : Nat) (u : Value), us[i]? = some u ∧ u.ownBlock = some b) Y W
  r : ∀ (i : Nat) (v : Value) (t : TypeId × List Value), vs[i]? = some v → rs[i]? = some t → Ow W base t.1 v t.2
  f : ∀ (i : Nat) (v : Value), vs[i]? = some v → ∃ u : Value, us[i]? = some u ∧ ∀ j, v.ownBlock = some j → u.ownBlock = some j ∨ Y.heap.size ≤ j
  d : Dis (vs.map Value.ownBlock ++ ls)
  l : ∀ (i g : Nat) (z : TypeId × Value), ls[i]? = some (some g) → zs[i]? = some z → At W g z.1 [z.2]
  lt : ∀ j k : Nat, (vs.map Value.ownBlock ++ ls)[j]? = some (some k) → k < W.heap.size
section
variable {base : Nat} {Y W : World} {us vs : List Value} {rs : List (TypeId × List Value)} {ls : List (Option Nat)} {zs : List (TypeId × Value)}
theorem StL.own_at (h : StL base Y W us vs rs ls zs) {i : Nat} {v : Value} (hv : vs[i]? = some v) : (vs.map Value.ownBlock ++ ls)[i]? = some v.ownBlock := by
  have hi := (List.getElem?_eq_some_iff.1 hv).1
  rw [List.getElem?_append_left (by rw [List.length_map]; exact hi), List.getElem?_map, hv]
  rfl
theorem StL.lit_at (h : StL base Y W us vs rs ls zs) {i : Nat} {x : Option Nat} (hx : ls[i]? = some x) : (vs.map Value.ownBlock ++ ls)[vs.length + i]? = some x := by
  rw [List.getElem?_append_right (by rw [List.length_map]; omega), List.length_map, show vs.length + i - vs.length = i by omega]
  exact hx
theorem StL.build (h : StL base Y W us vs rs ls zs) (i : Nat) (z : TypeId × Value) (hl : ls[i]? = some none) (hz : zs[i]? = some z) : StL base Y (W.alloc (.cells #[z.2] z.1)) us vs rs (ls.set i (some W.heap.size)) zs := by
  have k := (Kept.refl (fun _ => False) W).alloc (.cells #[z.2] z.1)
  have hil := (List.getElem?_eq_some_iff.1 hl).1
  have e : vs.map Value.ownBlock ++ ls.set i (some W.heap.size) = (vs.map Value.ownBlock ++ ls).set (vs.length + i) (some W.heap.size) := by
    rw [List.set_append_right _ _ (by rw [List.length_map]; omega), List.length_map, show vs.length + i - vs.length = i by omega]
  have hs : (W.alloc (.cells #[z.2] z.1)).heap.size = W.heap.size + 1 := by simp
  refine ⟨h.k.alloc _, fun j v t hv ht => ow_kept (h.r j v t hv ht) k fun _ _ h => h, h.f, ?_, fun j g z' hg hz' => ?_, fun j k' hj => ?_⟩
  · rw [e]
    exact h.d.set (B := W.heap.size) (h.lit_at hl) (fun k hk => .inr (by injection hk with hk; omega)) h.lt
  · by_cases hji : i = j
    · subst hji
      rw [List.getElem?_set_self hil] at hg
      injection hg with hg
      injection hg with hg
      subst hg
      rw [hz] at hz'
      injection hz' with hz'
      subst hz'
      exact At.new W _ _
    · rw [List.getElem?_set_ne hji] at hg
      exact (h.l j g z' hg hz').alloc _
  · rw [e] at hj
    rw [hs]
    by_cases hji : vs.length + i = j
    · rw [← hji, List.getElem?_set_self (by rw [List.length_append, List.length_map]; omega)] at hj
      injection hj with hj
      injection hj with hj
      omega
    · rw [List.getElem?_set_ne hji] at hj
      have := h.lt j k' hj
      omega
variable {ops : Array Oper} {o : Oper} {a : Act} {Q : Exit → Act → World → Prop} {E : Prop} {K : Act → World → Prop}
theorem StL.app {t T : TypeId} {z0 : Value} (h : StL base Y W us vs rs ls zs) (i : Nat) (P : OneT Tryz.prog t T z0) (hb : base ≤ W.heap.size) (hgd : o.guard = none) (s x : Operand) (ho : o.op = .call { callee := .builtin .append, args := #[s, x], argTypes := #[t, t] })
    (v : Value) (xs : List Value) (g : Nat) (z : Value) (hv : vs[i]? = some v) (hr : rs[i]? = some (T, xs)) (hl : ls[i]? = some (some g)) (hz : zs[i]? = some (T, z)) (h1 : z.oneCell' = true) (hs : a.eval s = v) (hx : a.eval x = .slice (some ⟨g, 0, none⟩) 1 1) (hN : xs.length ≤ 2000000)
    (hK : ∀ A' c' W', StL base Y W' us (vs.set i (.slice A' (xs.length + 1) c')) (rs.set i (T, xs ++ [z])) ls zs → K (a.put o.dst (.slice A' (xs.length + 1) c')) W') : if Region.wanted o (yielded ops a.tmps) = true then Oper.wp Tryz.prog o a W K Q else E := by
  have L := h.l i g _ hl hz
  have hOw := h.r i v _ hv hr
  refine step_app1 P hgd s x ho base v xs hs hOw _ 1 1 hx [z] rfl (fun _ => ⟨_, rfl, fun j u hj => by rw [Addr.add_lit, Nat.zero_add, L.cell]; exact hj⟩) (fun u hu => by rw [List.mem_singleton] at hu; subst hu; exact h1) (by omega) hb ?_
  intro v' w' hown hg hv' _
  obtain ⟨A9, c9, e9, _, _, _⟩ := ow_open hown
  rw [show (xs ++ [z]).length = xs.length + 1 by simp] at e9
  have hgk := grown_kept hg
  have hi := (List.getElem?_eq_some_iff.1 hv).1
  have hir := (List.getElem?_eq_some_iff.1 hr).1
  have hoi := h.own_at hv
  have e : (vs.set i v').map Value.ownBlock ++ ls = (vs.map Value.ownBlock ++ ls).set i v'.ownBlock := by
    rw [List.set_append_left _ _ (by rw [List.length_map]; exact hi), List.map_set]
  have hfr : ∀ j, v'.ownBlock = some j → v.ownBlock = some j ∨ W.heap.size ≤ j := fun j hj => hv'.imp (fun e => by rw [← e]; exact hj) fun e => by rw [e] at hj; injection hj with hj; omega
  have hsz := hgk.size
  obtain ⟨u, hu, hf⟩ := h.f i v hv
  rw [e9]
  refine hK A9 c9 w' ?_
  rw [← e9]
  refine ⟨h.k.trans' hgk fun j hj => (hf j hj).imp (fun e => ⟨i, u, hu, e⟩) (fun e => e), fun j w t hw ht => ?_, fun j w hw => ?_, ?_, fun j g2 z2 hg2 hz2 => ?_, fun j k hj => ?_⟩
  · by_cases hji : i = j
    · subst hji
      rw [List.getElem?_set_self hi] at hw
      rw [List.getElem?_set_self hir] at ht
      injection hw with hw
      injection ht with ht
      subst hw; subst ht
      exact hown
    · rw [List.getElem?_set_ne hji] at hw
      rw [List.getElem?_set_ne hji] at ht
      refine ow_kept (h.r j w t hw ht) hgk fun k hk e => hji ?_
      have hoj := h.own_at hw
      rw [hk] at hoj
      rw [e] at hoi
      exact h.d i j k hoi hoj
  · by_cases hji : i = j
    · subst hji
      rw [List.getElem?_set_self hi] at hw
      injection hw with hw
      subst hw
      refine ⟨u, hu, fun k hk => ?_⟩
      rcases hfr k hk with e | e
      · exact hf k e
      · exact .inr (by have := h.k.size; omega)
    · rw [List.getElem?_set_ne hji] at hw
      exact h.f j w hw
  · rw [e]
    exact h.d.set (B := W.heap.size) hoi hfr h.lt
  · refine (h.l j g2 z2 hg2 hz2).kept hgk fun e => ?_
    have h2 := h.lit_at hg2
    rw [e] at hoi
    have := h.d i _ g2 hoi h2
    omega
  · rw [e] at hj
    by_cases hji : i = j
    · rw [← hji, List.getElem?_set_self (by rw [List.length_append, List.length_map]; omega)] at hj
      injection hj with hj
      exact (ow_lt hown k hj).2
    · rw [List.getElem?_set_ne hji] at hj
      have := h.lt j k hj
      omega
end
section
variable {w Y W : World} {base q o : Nat} {T : TypeId} {L : List Value} {vb va vg v0 v1 v2 : Value} {B : List Int} {C A : List Bool} {gn : Nat} {ov en ea el : Bool}
theorem Rr.stl (h : Rr Y base q o T L vb va vg B C A gn ov en ea el) (zs : List (TypeId × Value)) : StL base Y Y [vb, va, vg] [vb, va, vg] [(5, B.map (Value.int .u8)), (4, C.map .bool), (4, A.map .bool)] [none, none, none] zs := by
  have e : ([vb, va, vg].map Value.ownBlock ++ [none, none, none] : List (Option Nat)) = (robs q vb va vg).drop 1 ++ [none, none, none] := rfl
  have hd : ∀ i k : Nat, ([vb, va, vg].map Value.ownBlock ++ [none, none, none] : List (Option Nat))[i]? = some (some k) → (robs q vb va vg)[i + 1]? = some (some k) := fun i k hi => by
    rcases i with _ | _ | _ | _ | _ | _ | i
    · exact hi
    · exact hi
    · exact hi
    · cases hi
    · cases hi
    · cases hi
    · cases hi
  refine ⟨Kept.refl _ _, fun i v t hv ht => ?_, fun i v hv => ⟨v, hv, fun j hj => .inl hj⟩, fun i j k hi hj => ?_, fun i g z hg => ?_, fun j k hj => h.obs_lt _ k (hd j k hj)⟩
  · rcases i with _ | _ | _ | i
    · injection hv with hv; injection ht with ht; subst hv; subst ht; exact own_ow h.ob
    · injection hv with hv; injection ht with ht; subst hv; subst ht; exact h.oa
    · injection hv with hv; injection ht with ht; subst hv; subst ht; exact h.og
    · cases hv
  · have := h.dis _ _ k (hd i k hi) (hd j k hj)
    omega
  · rcases i with _ | _ | _ | i <;> cases hg
/-- What stands behind all three stores. -/
theorem Rr.three {x : Int} {ls : List (Option Nat)} {zs : List (TypeId × Value)} (h : Rr Y base q o T L vb va vg B C A gn ov en ea el) (hx : 0 ≤ x ∧ x < 256)
    (hs : StL base Y W [vb, va, vg] [v0, v1, v2] [(5, B.map (Value.int .u8) ++ [.int .u8 x]), (4, C.map Value.bool ++ [.bool false]), (4, A.map Value.bool ++ [.bool false])] ls zs) :
    Rr (((W.setCell ⟨q, o, none⟩ v0).setCell ⟨q, o + 1, none⟩ v1).setCell ⟨q, o + 2, none⟩ v2) base q o T (((L.set o v0).set (o + 1) v1).set (o + 2) v2) v0 v1 v2 (B ++ [x]) (C ++ [false]) (A ++ [false]) gn ov en ea el ∧
    Kept (rqO q vb va vg) Y (((W.setCell ⟨q, o, none⟩ v0).setCell ⟨q, o + 1, none⟩ v1).setCell ⟨q, o + 2, none⟩ v2) ∧
    ∀ j, rqO q v0 v1 v2 j → rqO q vb va vg j ∨ Y.heap.size ≤ j := by
  have kS : Kept (fun b => b = q) W (((W.setCell ⟨q, o, none⟩ v0).setCell ⟨q, o + 1, none⟩ v1).setCell ⟨q, o + 2, none⟩ v2) := (((Kept.refl (fun b => b = q) W).setCell (p := ⟨q, o, none⟩) (.inl rfl) _).setCell (p := ⟨q, o + 1, none⟩) (.inl rfl) _).setCell (p := ⟨q, o + 2, none⟩) (.inl rfl) _
  have hq := h.at_.lt
  have hm : ∀ b, (∃ (i : Nat) (u : Value), ([vb, va, vg] : List Value)[i]? = some u ∧ u.ownBlock = some b) → ∃ i, (robs q vb va vg)[i + 1]? = some (some b) := fun b ⟨i, u, hu, hb⟩ => by
    rcases i with _ | _ | _ | i
    · injection hu with hu; subst hu; exact ⟨0, congrArg some hb⟩
    · injection hu with hu; subst hu; exact ⟨1, congrArg some hb⟩
    · injection hu with hu; subst hu; exact ⟨2, congrArg some hb⟩
    · cases hu
  have aW := h.at_.kept hs.k fun e => by
    obtain ⟨i, hi⟩ := hm q e
    have := h.dis 0 _ q rfl hi
    omega
  have hf : ∀ (i : Nat) (v : Value), ([v0, v1, v2] : List Value)[i]? = some v → ∀ j, v.ownBlock = some j → (rqO q vb va vg j ∧ j ≠ q) ∨ Y.heap.size ≤ j := fun i v hv j hj => by
    obtain ⟨u, hu, hf⟩ := hs.f i v hv
    rcases hf j hj with e | e
    · obtain ⟨i', hi'⟩ := hm j ⟨i, u, hu, e⟩
      refine .inl ⟨rqO_at hi', fun e' => ?_⟩
      subst e'
      have := h.dis 0 _ j rfl hi'
      omega
    · exact .inr e
  have hn : ∀ (i : Nat) (v : Value), ([v0, v1, v2] : List Value)[i]? = some v → ∀ j, v.ownBlock = some j → ¬ j = q := fun i v hv j hj e => by
    rcases hf i v hv j hj with ⟨_, e'⟩ | e'
    · exact e' e
    · omega
  have e1 : (B ++ [x]).map (Value.int .u8) = B.map (Value.int .u8) ++ [.int .u8 x] := by simp
  have e2 : ∀ F : List Bool, (F ++ [false]).map Value.bool = F.map Value.bool ++ [.bool false] := fun F => by simp
  have hbt : Byt (B ++ [x]) := h.ob.byt.app (Byt.one hx)
  refine ⟨⟨((aW.set o v0).set (o + 1) v1).set (o + 2) v2, ((h.cl.set 0 v0 (by simp [rcs])).set 1 v1 (by simp [rcs])).set 2 v2 (by simp [rcs]), ow_own (by rw [e1]; exact ow_kept (hs.r 0 v0 _ rfl rfl) kS (hn 0 v0 rfl)) hbt, by rw [e2]; exact ow_kept (hs.r 1 v1 _ rfl rfl) kS (hn 1 v1 rfl), by rw [e2]; exact ow_kept (hs.r 2 v2 _ rfl rfl) kS (hn 2 v2 rfl), fun i j k hi hj => ?_, h.bq⟩, ?_, fun j hj => ?_⟩
  · have key : ∀ i k : Nat, (robs q v0 v1 v2)[i]? = some (some k) → (i = 0 ∧ k = q) ∨ ∃ i', i = i' + 1 ∧ k ≠ q ∧ (([v0, v1, v2] : List Value).map Value.ownBlock ++ ls)[i']? = some (some k) := fun i k hi => by
      rcases i with _ | _ | _ | _ | i
      · injection hi with hi; injection hi with hi; exact .inl ⟨rfl, hi.symm⟩
      · injection hi with hi; exact .inr ⟨0, rfl, hn 0 v0 rfl k hi, congrArg some hi⟩
      · injection hi with hi; exact .inr ⟨1, rfl, hn 1 v1 rfl k hi, congrArg some hi⟩
      · injection hi with hi; exact .inr ⟨2, rfl, hn 2 v2 rfl k hi, congrArg some hi⟩
      · cases hi
    rcases key i k hi with ⟨rfl, e⟩ | ⟨i', rfl, e, h1⟩ <;> rcases key j k hj with ⟨rfl, e'⟩ | ⟨j', rfl, e', h2⟩
    · rfl
    · exact absurd e e'
    · exact absurd e' e
    · rw [hs.d i' j' k h1 h2]
  · exact (hs.k.mono fun j hj => by obtain ⟨i, hi⟩ := hm j hj; exact .inl (rqO_at hi)).trans' kS fun j hj => .inl (by rw [hj]; exact rqO_at (i := 0) rfl)
  · unfold rqO robs at hj
    simp only [List.mem_cons, List.not_mem_nil, or_false] at hj
    rcases hj with hj | hj | hj | hj
    · injection hj with hj; rw [hj]; exact .inl (rqO_at (i := 0) rfl)
    · exact (hf 0 v0 rfl j hj.symm).imp And.left id
    · exact (hf 1 v1 rfl j hj.symm).imp And.left id
    · exact (hf 2 v2 rfl j hj.symm).imp And.left id
end
end
section
set_option linter.unusedVariables false
set_option linter.unusedSimpArgs false
open Go.RowKit
theorem fromO_in {S : OS} (h : S.ok) (most limit : Nat) : (fromO S most limit).1 ≤ (fromO S most limit).2 ∧ (fromO S most limit).2 ≤ S.bs.length := by
  have hg := h.gl
  have hf := firstO_le S
  have hr := runF_le S.ag (min most (S.gn - firstO S)) (firstO S)
  unfold fromO
  split <;> dsimp only <;> omega
section
variable {ops : Array Oper} {rest : List Oper} {a : Act} {w : World} {Q : Exit → Act → World → Prop} {dst : Option Tmp} {x y : Operand} {t : TypeId} {pos : String} {after : Array Edge}
end
section
variable {w : World} {base q o : Nat} {T : TypeId} {L : List Value} {O : Nat → Prop} {S : OS}
theorem rnext_any (h : Rs w base q o T L O S) (hok : S.ok) (hb : base ≤ w.heap.size) (hL : S.bs.length ≤ 1000000) (most : Int) (hm : -9223372036854775808 ≤ most ∧ most < 4611686018427387904) (limit : Nat) (hl : limit < 18446744073709551616) :
    Calls Tryz.prog 47 #[.pointer (some ⟨q, o, none⟩), .int .i64 most, .int .u64 limit] w (RNPost base q o T L O S most.toNat limit w) := by
  obtain ⟨h1, h2⟩ := fromO_in hok most.toNat limit
  rcases hf : fromO S most.toNat limit with ⟨i, k⟩
  rw [hf] at h1 h2
  by_cases e : i = k
  · subst e
    exact rnext_a h hok hL most hm limit hl i hf
  · exact rnext_b h hok hb hL most hm limit hl i k hf (Nat.lt_of_le_of_ne h1 e) h2
end
end
section
set_option linter.unusedVariables false
set_option linter.unusedSimpArgs false
open Go.RowKit
/-- The program's buffer and the document's, in the same state, apart from each other, from block B on. -/
structure Te (B : Nat) (w : World) (p q : Nat) (S : OS) : Prop where
  ok : S.ok
  two : ∃ O1 O2 L, Of w B p O1 S ∧ Rs w B q 0 46 L O2 S ∧ ∀ j, O1 j → ¬ O2 j
  hB : B ≤ w.heap.size
  le : S.bs.length ≤ 800000
theorem Te.below {B : Nat} {w w' : World} {p q : Nat} {S : OS} (h : Te B w p q S) (k : Below w.heap.size w w') : Te B w' p q S := by
  obtain ⟨O1, O2, L, h1, h2, h3⟩ := h.two
  exact ⟨h.ok, ⟨O1, O2, L, h1.below k, h2.below k, h3⟩, Nat.le_trans h.hB k.size, h.le⟩
end
end Go.Proofs.YtbejpafephofaaaGreat
