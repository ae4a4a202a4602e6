/-
  Steps in a region that draws its order; whole structs of any type there; what a call made as a slice that reads.
-/
import Derived.Test.YtkgeeoogmkpjhaaCid8
import Derived.Test.YtkgeeoogmkpjhaaN8
import Derived.Test.YtkgeeoogmkpjhaaWtr
import Derived.Test.YtkgeeoogmkpjhaaSteps
import Derived.Deep.RegionHeld
namespace Go.Proofs.Ytkgeeoogmkpjhaa
set_option linter.unusedVariables false
set_option linter.unusedSimpArgs false
open Go.RowKit
theorem Rdr.cells_ {w : World} {p : Nat} {T : TypeId} {P : Nat → Prop} {s : St} (h : Rdr w p T P s) : ∃ A n c, w.cell? ⟨p, 0, none⟩ = some (.slice A n c) ∧ n = s.1.length ∧ n ≤ c ∧ c ≤ maxLen ∧ w.cell? ⟨p, 1, none⟩ = some (.bool s.2) := by
  obtain ⟨A, n, c, h1, h2, h3, h4, h5, h6⟩ := h
  exact ⟨A, n, c, h1.cell 0, h5.1.1.symm, h2, h3, h1.cell 1⟩
theorem Own.inD_ {w : World} {base n c : Nat} {e : TypeId} {A : Option Addr} {bs : List Int} (h : Own w base e (.slice A n c) bs) (hn : bs.length = n) : InD w (fun b => base ≤ b) ⟨A, n, c⟩ bs := by
  subst hn
  obtain ⟨A', c', hv, h1, h2, h3⟩ := h.open_
  injection hv with e1 e2 e3
  subst e1; subst e3
  refine ⟨⟨h3, fun b off hn hA => ?_⟩, h1, h2, fun hA => h.nil_cap hA⟩
  simp only at hA
  exact (h.block_lt b (by rw [hA]; rfl)).1
theorem results_cell_tmp3 {P : Program} {w : World} {fn : Func} {tmps : Array Value} (s t t' t'' : Tmp) (ty : TypeId) (hr : fn.results = #[.cell s ty, .tmp t, .tmp t', .tmp t'']) (p : Nat) (T : TypeId) (l : List Value) (d : TypeDesc) (v v' v'' : Value) (hs : tmps.getD s undef = .pointer (some ⟨p, 0, none⟩)) (ht : tmps.getD t undef = v) (ht' : tmps.getD t' undef = v') (ht'' : tmps.getD t'' undef = v'') (hA : At w p T l)
    (hu : P.underlying ty = some d) (hd : d.isRow = true) (hi : (P.info? ty).map (·.size) = some l.length) : (results fn tmps).run P w = .ok (.tuple #[.agg l.toArray, v, v', v'']) w := by
  have h := run_loadVar_mid (P := P) w p 0 ty l d hA.rangeAt hu hd hi
  rw [Array.getD_eq_getD_getElem?] at hs ht ht' ht''
  simp [results, hr, hs, ht, ht', ht'', asAddr, h]
theorem Kept.of_belowB' {B : Nat} {w w' : World} (h : Below B w w') (S : Nat → Prop) (hS : ∀ j, B ≤ j → S j ∨ w.heap.size ≤ j) : Kept S w w' :=
  (Kept.refl S w).trans' (Kept.of_belowB h) (fun j hj => hS j hj)
end Go.Proofs.Ytkgeeoogmkpjhaa
