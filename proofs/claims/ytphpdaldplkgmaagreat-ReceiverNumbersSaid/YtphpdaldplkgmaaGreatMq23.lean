/-
  Chapter 17's law: what was told grows by a frame.
-/
import Derived.Test.YtphpdaldplkgmaaGreatMq22
import Derived.Maps.AppendAt
import Derived.Test.YtphpdaldplkgmaaGreatMq2
import Derived.Test.YtphpdaldplkgmaaGreatMq19
import Derived.ChangeKeysEq
namespace Go.Proofs.YtphpdaldplkgmaaGreat
section
set_option linter.unusedVariables false
set_option linter.unusedSimpArgs false
open Go.RowKit
theorem frq_info3 : (Tryz.prog.info? 54).map (fun i => (i.zero, i.size, i.bytes)) = some (some (.agg #[.int .i64 0, .int .u64 0, .int .u64 0, .slice none 0 0, .bool false, .int .u64 0, .int .u64 0, .int .u64 0, .int .u64 0, .int .u64 0, .slice none 0 0,
  .int .u8 0, .int .u8 0, .int .u8 0, .int .u8 0, .int .u8 0, .int .u8 0, .int .u8 0, .int .u8 0]), 19, 128) := by kernel_rfl
theorem qfold_set : ∀ (l : List Value) (k : Nat) (C : Array Value), (l.zipIdx k).foldl (fun cs (x : Value × Nat) => cs.setIfInBounds (0 + x.2) x.1) C = (setFrom C.toList k l).toArray
  | [], k, C => by simp [setFrom]
  | v :: r, k, C => by
    rw [List.zipIdx_cons, List.foldl_cons, qfold_set r (k + 1)]
    simp [setFrom]
theorem qrun_bs1 (w : World) (l : List Value) (hl : l.length = 19) :
    (Instr.buildSlice 29 1 #[(0, .agg l.toArray)]).run Tryz.prog w = .ok (.slice (some ⟨w.heap.size, 0, none⟩) 1 1) (w.alloc (.cells l.toArray 54)) := by
  have hI := frq_info3
  cases hq : Tryz.prog.info? 54 with
  | none => rw [hq] at hI; cases hI
  | some i =>
    rw [hq] at hI
    simp only [Option.map_some, Option.some.injEq, Prod.mk.injEq] at hI
    obtain ⟨hz, hs, _⟩ := hI
    have hf : ∀ C : Array Value, C.size = 19 → Instr.fill (fun i => some (i * 19, 19)) C [(0, .agg l.toArray)] = some l.toArray := by
      intro C hC
      unfold Instr.fill
      simp only [Value.cells, List.size_toArray, hl, hC]
      have := qfold_set l 0 C
      rw [setFrom_all _ _ (by simp [hC, hl])] at this
      simp [Instr.fill]
      rw [← this]
      simp [Array.foldl_toList]
    have hu := Tryz.underlying29
    simp [Instr.buildSlice, run_underlying hu, sizeOf, typeInfo, hq, hs, zeroValue, hz, newRow]
    rw [hf _ (by simp)]
    simp
/-- []Frame{x}, in a region that draws its order. -/
theorem step_bsq {ops : Array Oper} {a : Act} {w : World} {K : Act → World → Prop} {Q : Exit → Act → World → Prop} {E : Prop} {dst : Option Tmp} {x : Operand} {t : TypeId} {pos : String} {after : Array Edge} (l : List Value) (g : Nat) (hg : g = w.heap.size) (hx : a.eval x = .agg l.toArray) (hl : l.length = 19) (h : K (a.put dst (.slice (some ⟨g, 0, none⟩) 1 1)) (w.alloc (.cells l.toArray 54))) :
    if Region.wanted ⟨dst, .buildSlice 29 1 #[(0, x)], t, pos, after, none⟩ (yielded ops a.tmps) = true then Oper.wp Tryz.prog ⟨dst, .buildSlice 29 1 #[(0, x)], t, pos, after, none⟩ a w K Q else E := by
  subst hg
  rw [if_pos (by rfl)]
  unfold Oper.wp
  simp [execOp, hx, qrun_bs1 w l hl, Result.andThen]
  exact h
/-- append(told, x) of one frame, in a region that draws its order. -/
theorem step_append_fq {w : World} {ops : Array Oper} {o : Oper} {a : Act} {K : Act → World → Prop} {Q : Exit → Act → World → Prop} {E : Prop} (hgd : Region.wanted o (yielded ops a.tmps) = true) (s x : Operand)
    (ho : o.op = .call { callee := .builtin .append, args := #[s, x], argTypes := #[29, 29] }) (base : Nat) (v : Value) (L : List FN) (hs : a.eval s = v) (hown : OwnT w base v L) (g c : Nat) (y : FN)
    (hx : a.eval x = .slice (some ⟨g, 0, none⟩) 1 c) (hcell : At w g 54 (frL y .nil .nil)) (hl : L.length ≤ 1000) (hbase : base ≤ w.heap.size)
    (h : ∀ v' w', OwnT w' base v' (L ++ [y]) → w.grownBy w' v.ownBlock → (v'.ownBlock = v.ownBlock ∨ v'.ownBlock = some w.heap.size) → K (a.put o.dst v') w') :
    if Region.wanted o (yielded ops a.tmps) = true then Oper.wp Tryz.prog o a w K Q else E := by
  rw [if_pos hgd]
  have hI := frq_info3
  cases hq : Tryz.prog.info? 54 with
  | none => rw [hq] at hI; cases hI
  | some i =>
    rw [hq] at hI
    simp only [Option.map_some, Option.some.injEq, Prod.mk.injEq] at hI
    obtain ⟨v', w', k1, k2, k3, _, k5⟩ := run_append_own_at (P := Tryz.prog) (w := w) base 29 o.type 54 i _ 19 128 Tryz.underlying29 hq hI.1 hI.2.1 hI.2.2 rfl (by omega) v L.length (tlC L) hown ⟨g, 0, none⟩ 1 c (frL y .nil .nil) rfl (fun j u hu => by rw [addr_add, Nat.zero_add, hcell.cell, hu]) (fun u hu => by simp [frL] at hu; rcases hu with rfl | rfl | rfl | rfl | rfl | rfl | rfl | rfl | rfl | rfl | rfl | rfl | rfl | rfl | rfl | rfl | rfl | rfl | rfl <;> rfl) (by unfold maxLen; omega) (by omega) hbase
    unfold Oper.wp
    simp [execOp, ho, resolve, invoke, builtin, hs, hx, k1, Result.andThen]
    refine h v' w' ?_ k3 k5
    unfold OwnT
    rw [tlC_app, List.length_append, show tlC [y] = frL y .nil .nil by simp [tlC]]
    exact k2
section
variable {wb W0 W W1 : World} {base p q pw : Nat} {O F O1 O2 : Nat → Prop} {tv v' : Value} {L : List FN} {y : FN} {X1 X2 : QS}
/-- What was told is longer by a frame, and stands in the world. -/
theorem Lzx.told (h : Lzx wb W0 W base p q pw O F O1 O2 tv L X1 X2) (hl : L.length < 1000) (ho : OwnT W1 base v' (L ++ [y])) (hg : W.grownBy W1 tv.ownBlock) (hv : v'.ownBlock = tv.ownBlock ∨ v'.ownBlock = some W.heap.size) :
    Lzx wb W0 (W1.setCell ⟨pw, 2, none⟩ v') base p q pw O F O1 O2 v' (L ++ [y]) X1 X2 := by
  obtain ⟨h1, h2, h3, h4, h5⟩ := h
  have k1 : Kept (fun j => tv.ownBlock = some j) W W1 := Kept.of_grown hg (fun k hk => .inl hk)
  have k2 : Kept (· = pw) W1 (W1.setCell ⟨pw, 2, none⟩ v') := (Kept.refl _ _).setAt 2 v'
  have kk : Kept (fun j => tv.ownBlock = some j ∨ j = pw) W (W1.setCell ⟨pw, 2, none⟩ v') := (k1.mono fun j hj => .inl (.inl hj)).trans (k2.mono fun j hj => .inl (.inr hj))
  have hbs : base ≤ W.heap.size := by have := (h1.lt pw (.inr (.inr (.inl rfl)))); omega
  have nv : ∀ j, v'.ownBlock = some j → tv.ownBlock = some j ∨ j = W.heap.size := fun j hj => by
    rcases hv with e | e
    · exact .inl (e ▸ hj)
    · rw [e] at hj; injection hj with hj; exact .inr hj.symm
  refine ⟨⟨h1.pr.kept kk fun j hj e => ?_, h1.rf.kept kk fun j hj e => ?_, ?_, ho.keep fun j hj => k2.block j (ho.block_lt j hj).2 fun e => ?_, by simp; omega, h1.bp, h1.d12, fun j hj => ⟨(h1.d1 j hj).1, fun e => ?_⟩, fun j hj => ⟨(h1.d2 j hj).1, fun e => ?_⟩, fun e => ?_⟩, h2.trans' kk fun j hj => ?_, ?_, ?_, ?_⟩
  · rcases e with e | e
    · exact (h1.d1 j hj).2 e
    · exact (h1.d1 j hj).1 e
  · rcases e with e | e
    · exact (h1.d2 j hj).2 e
    · exact (h1.d2 j hj).1 e
  · exact (h1.at_.kept k1 h1.dp).set 2 v'
  · rcases nv j hj with e' | e'
    · exact h1.dp (e ▸ e')
    · have := h1.at_.lt; omega
  · rcases nv j e with e' | e'
    · exact (h1.d1 j hj).2 e'
    · have := (h1.pr.lt j hj).2; omega
  · rcases nv j e with e' | e'
    · exact (h1.d2 j hj).2 e'
    · have := (h1.rf.lt j hj).2; omega
  · rcases nv pw e with e' | e'
    · exact h1.dp e'
    · have := h1.at_.lt; omega
  · rcases hj with e | e
    · exact h3 j (.inr (.inr (.inr e)))
    · exact h3 j (.inr (.inr (.inl e)))
  · rintro j (hj | hj | hj | hj)
    · exact h3 j (.inl hj)
    · exact h3 j (.inr (.inl hj))
    · exact h3 j (.inr (.inr (.inl hj)))
    · rcases nv j hj with e' | e'
      · exact h3 j (.inr (.inr (.inr e')))
      · exact .inr (by have := h2.size; omega)
  · intro b hb
    refine ⟨fun e => ?_, Nat.lt_of_lt_of_le (h4 b hb).2 kk.size⟩
    rcases e with e | e | e | e
    · exact (h4 b hb).1 (.inl e)
    · exact (h4 b hb).1 (.inr (.inl e))
    · exact (h4 b hb).1 (.inr (.inr (.inl e)))
    · rcases nv b e with e' | e'
      · exact (h4 b hb).1 (.inr (.inr (.inr e')))
      · have := (h4 b hb).2; omega
  · exact kk.below h5 hbs fun j hj => by
      rcases hj with e | e
      · exact (h1.own.block_lt j e).1
      · rw [e]; exact h1.bp
end
end
section
set_option linter.unusedVariables false
open Go.RowKit
def cidB (m m' : FN) : Bool := m.c0 == m'.c0 && (m.c1 == m'.c1 && (m.c2 == m'.c2 && (m.c3 == m'.c3 && (m.c4 == m'.c4 && (m.c5 == m'.c5 && (m.c6 == m'.c6 && m.c7 == m'.c7))))))
end
end Go.Proofs.YtphpdaldplkgmaaGreat
