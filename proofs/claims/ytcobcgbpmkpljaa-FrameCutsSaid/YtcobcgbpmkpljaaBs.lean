/-
  A slice literal of one whole frame.
-/
import Derived.Test.YtcobcgbpmkpljaaEat
namespace Go.Proofs.Ytcobcgbpmkpljaa
set_option linter.unusedVariables false
set_option linter.unusedSimpArgs false
open Go.RowKit
theorem fold_set : ∀ (l : List Value) (k : Nat) (C : Array Value), (l.zipIdx k).foldl (fun cs (x : Value × Nat) => cs.setIfInBounds (0 + x.2) x.1) C = (setFrom C.toList k l).toArray
  | [], k, C => by simp [setFrom]
  | v :: r, k, C => by
    rw [List.zipIdx_cons, List.foldl_cons, fold_set r (k + 1)]
    simp [setFrom]
theorem run_bs1 (w : World) (l : List Value) (hl : l.length = 19) :
    (Instr.buildSlice 22 1 #[(0, .agg l.toArray)]).run Try.prog w = .ok (.slice (some ⟨w.heap.size, 0, none⟩) 1 1) (w.alloc (.cells l.toArray 31)) := by
  have hI := fr_info3
  cases hq : Try.prog.info? 31 with
  | none => rw [hq] at hI; cases hI
  | some i =>
    rw [hq] at hI
    simp only [Option.map_some, Option.some.injEq, Prod.mk.injEq] at hI
    obtain ⟨hz, hs, _⟩ := hI
    have hf : ∀ C : Array Value, C.size = 19 → Instr.fill (fun i => some (i * 19, 19)) C [(0, .agg l.toArray)] = some l.toArray := by
      intro C hC
      unfold Instr.fill
      simp only [Value.cells, List.size_toArray, hl, hC]
      have := fold_set l 0 C
      rw [setFrom_all _ _ (by simp [hC, hl])] at this
      simp [Instr.fill]
      rw [← this]
      simp [Array.foldl_toList]
    have hu := Try.underlying22
    simp [Instr.buildSlice, run_underlying hu, sizeOf, typeInfo, hq, hs, zeroValue, hz, newRow]
    rw [hf _ (by simp)]
    simp
section
variable {ops : Array Oper} {rest : List Oper} {a : Act} {w : World} {Q : Exit → Act → World → Prop} {dst : Option Tmp} {x : Operand} {t : TypeId} {pos : String} {after : Array Edge}
theorem wpList_bs1 (l : List Value) (g : Nat) (hg : g = w.heap.size) (hx : a.eval x = .agg l.toArray) (hl : l.length = 19) (h : wpList Try.prog ops Q rest (a.put dst (.slice (some ⟨g, 0, none⟩) 1 1)) (w.alloc (.cells l.toArray 31))) :
    wpList Try.prog ops Q (⟨dst, .buildSlice 22 1 #[(0, x)], t, pos, after, none⟩ :: rest) a w := by
  subst hg
  refine wpList_plain rfl fun K hK => ?_
  unfold Oper.wp
  simp [execOp, hx, run_bs1 w l hl, Result.andThen]
  exact hK _ _ h
end
end Go.Proofs.Ytcobcgbpmkpljaa
