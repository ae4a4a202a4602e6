/-
  Steps in a region that draws its order; whole structs of any type there; what a call made as a slice that reads.
-/
import Derived.Test.YthpcfcnkpipmnaaCid8
import Derived.Test.YthpcfcnkpipmnaaN8
import Derived.Test.YthpcfcnkpipmnaaWtr
import Derived.Deep.RegionHeld
namespace Go.Proofs.Ythpcfcnkpipmnaa
set_option linter.unusedVariables false
set_option linter.unusedSimpArgs false
open Go.RowKit
theorem Rdr.cells_ {w : World} {p : Nat} {T : TypeId} {P : Nat → Prop} {s : St} (h : Rdr w p T P s) : ∃ A n c, w.cell? ⟨p, 0, none⟩ = some (.slice A n c) ∧ n = s.1.length ∧ n ≤ c ∧ c ≤ maxLen ∧ w.cell? ⟨p, 1, none⟩ = some (.bool s.2) := by
  obtain ⟨A, n, c, h1, h2, h3, h4, h5, h6⟩ := h
  exact ⟨A, n, c, h1.cell 0, h5.1.1.symm, h2, h3, h1.cell 1⟩
theorem tk_dst {P : Program} {md : Region.Mode} {ops : Array Oper} {Q : Exit → Act → World → Prop} {S : World → Prop} {i : Nat} {oi : Oper} {dst : Option Tmp} {v : Value} {fuel : Nat} {listed : Array Bool} {a : Act} {w : World} (hi : ops[i]? = some oi) (hd : oi.dst = dst)
    (hs : Region.noSelect ops = true) (hf : Region.free md ops listed i = true) (hr : (Region.ready md ops listed).contains i = true)
    (hQ : ∀ c a w, Q (.panic c) (a.put dst v) w → Q (.panic c) a w) (hy : YieldsIf P ops S oi v a) (hS : S w)
    (h : wpAnyH P md ops Q S fuel (listed.setIfInBounds i true) (a.put dst v) w) : wpAnyH P md ops Q S (fuel + 1) listed a w := by
  subst hd
  exact wpAnyH_take hi hs hf hr hQ hy hS h
theorem yl_any {P : Program} {ops : Array Oper} {S : World → Prop} {op : Oper} {a : Act} (ty : TypeId) (x : Operand) (ho : op.op = .load ty x) (b o : Nat) (hx : a.eval x = .pointer (some ⟨b, o, none⟩)) (L : List Value) (d : TypeDesc) (hS : ∀ w, S w → w.rangeAt b o L)
    (hu : P.underlying ty = some d) (hd : d.isRow = true) (hi : (P.info? ty).map (·.size) = some L.length) (hw : Region.wanted op (yielded ops a.tmps) = true) : YieldsIf P ops S op (.agg L.toArray) a :=
  yieldsIf_load_mid hw _ x ho b o hx L _ hS hu hd hi
theorem step_st_any {P : Program} {ops : Array Oper} {a : Act} {w : World} {K : Act → World → Prop} {Q : Exit → Act → World → Prop} {E : Prop} {dst : Option Tmp} {x y : Operand} {ty t : TypeId} {pos : String} {after : Array Edge} {g : Option (Nat × Bool)}
    (hg : Region.wanted ⟨dst, .store ty x y, t, pos, after, g⟩ (yielded ops a.tmps) = true) (p : Nat) (T : TypeId) (l l' : List Value) (hx : a.eval x = .pointer (some ⟨p, 0, none⟩)) (hy : a.eval y = .agg l'.toArray) (hA : At w p T l) (hl : l.length = l'.length)
    (hi : (P.info? ty).map (·.size) = some l'.length) (h1 : l'.all (·.oneCell') = true) (h : ∀ w', At w' p T l' → Kept (· = p) w w' → K (a.put dst undef) w') :
    if Region.wanted ⟨dst, .store ty x y, t, pos, after, g⟩ (yielded ops a.tmps) = true then Oper.wp P ⟨dst, .store ty x y, t, pos, after, g⟩ a w K Q else E := by
  rw [if_pos hg]
  refine wp_store_mid _ x y rfl p 0 l'.toArray hx hy (by simpa using hA.there _ (by omega)) (by simpa using hi) (by simpa using h1) ?_
  have := At.setFrom l' l 0 w hA
  rw [setFrom_all l l' hl] at this
  exact h _ (by simpa using this) (by simpa using Kept.setCells (S := (· = p)) rfl l' 0 w (Kept.refl _ _))
theorem Own.inD_ {w : World} {base n c : Nat} {e : TypeId} {A : Option Addr} {bs : List Int} (h : Own w base e (.slice A n c) bs) (hn : bs.length = n) : InD w (fun b => base ≤ b) ⟨A, n, c⟩ bs := by
  subst hn
  obtain ⟨A', c', hv, h1, h2, h3⟩ := h.open_
  injection hv with e1 e2 e3
  subst e1; subst e3
  refine ⟨⟨h3, fun b off hn hA => ?_⟩, h1, h2, fun hA => h.nil_cap hA⟩
  simp only at hA
  exact (h.block_lt b (by rw [hA]; rfl)).1
theorem results_cell_tmp3 {P : Program} {w : World} {fn : Func} {tmps : Array Value} (s t t' t'' : Tmp) (ty : TypeId) (hr : fn.results = #[.cell s ty, .tmp t, .tmp t', .tmp t'']) (p : Nat) (T : TypeId) (l : List Value) (d : TypeDesc) (v v' v'' : Value) (hs : tmps.getD s undef = .pointer (some ⟨p, 0, none⟩)) (ht : tmps.getD t undef = v) (ht' : tmps.getD t' undef = v') (ht'' : tmps.getD t'' undef = v'') (hA : At w p T l)
    (hu : P.underlying ty = some d) (hd : d.isRow = true) (hi : (P.info? ty).map (·.size) = some l.length) : (results fn tmps).run P w = .ok (.tuple #[.agg l.toArray, v, v', v'']) w := by
  have h := run_loadVar_mid (P := P) w p 0 ty l d hA.rangeAt hu hd hi
  rw [Array.getD_eq_getD_getElem?] at hs ht ht' ht''
  simp [results, hr, hs, ht, ht', ht'', asAddr, h]
theorem Kept.of_belowB' {B : Nat} {w w' : World} (h : Below B w w') (S : Nat → Prop) (hS : ∀ j, B ≤ j → S j ∨ w.heap.size ≤ j) : Kept S w w' :=
  (Kept.refl S w).trans' (Kept.of_belowB h) (fun j hj => hS j hj)
end Go.Proofs.Ythpcfcnkpipmnaa
