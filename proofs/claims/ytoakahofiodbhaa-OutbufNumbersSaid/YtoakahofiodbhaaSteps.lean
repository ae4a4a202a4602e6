/-
  Steps in a region that draws its order: free moves, loads and stores of whole blocks.
-/
import Derived.Test.YtoakahofiodbhaaProg
import Derived.Test.YtoakahofiodbhaaStru
import Derived.Deep.RegionHeld
namespace Go.Proofs.Ytoakahofiodbhaa
set_option linter.unusedVariables false
set_option linter.unusedSimpArgs false
open Go.RowKit
theorem tk_dst {P : Program} {md : Region.Mode} {ops : Array Oper} {Q : Exit → Act → World → Prop} {S : World → Prop} {i : Nat} {oi : Oper} {dst : Option Tmp} {v : Value} {fuel : Nat} {listed : Array Bool} {a : Act} {w : World} (hi : ops[i]? = some oi) (hd : oi.dst = dst)
    (hs : Region.noSelect ops = true) (hf : Region.free md ops listed i = true) (hr : (Region.ready md ops listed).contains i = true)
    (hQ : ∀ c a w, Q (.panic c) (a.put dst v) w → Q (.panic c) a w) (hy : YieldsIf P ops S oi v a) (hS : S w)
    (h : wpAnyH P md ops Q S fuel (listed.setIfInBounds i true) (a.put dst v) w) : wpAnyH P md ops Q S (fuel + 1) listed a w := by
  subst hd
  exact wpAnyH_take hi hs hf hr hQ hy hS h
theorem yl_any {P : Program} {ops : Array Oper} {S : World → Prop} {op : Oper} {a : Act} (ty : TypeId) (x : Operand) (ho : op.op = .load ty x) (b o : Nat) (hx : a.eval x = .pointer (some ⟨b, o, none⟩)) (L : List Value) (d : TypeDesc) (hS : ∀ w, S w → w.rangeAt b o L)
    (hu : P.underlying ty = some d) (hd : d.isRow = true) (hi : (P.info? ty).map (·.size) = some L.length) (hw : Region.wanted op (yielded ops a.tmps) = true) : YieldsIf P ops S op (.agg L.toArray) a :=
  yieldsIf_load_mid hw _ x ho b o hx L _ hS hu hd hi
theorem step_st_any {P : Program} {ops : Array Oper} {a : Act} {w : World} {K : Act → World → Prop} {Q : Exit → Act → World → Prop} {E : Prop} {dst : Option Tmp} {x y : Operand} {ty t : TypeId} {pos : String} {after : Array Edge} {g : Option (Nat × Bool)}
    (hg : Region.wanted ⟨dst, .store ty x y, t, pos, after, g⟩ (yielded ops a.tmps) = true) (p : Nat) (T : TypeId) (l l' : List Value) (hx : a.eval x = .pointer (some ⟨p, 0, none⟩)) (hy : a.eval y = .agg l'.toArray) (hA : At w p T l) (hl : l.length = l'.length)
    (hi : (P.info? ty).map (·.size) = some l'.length) (h1 : l'.all (·.oneCell') = true) (h : ∀ w', At w' p T l' → Kept (· = p) w w' → K (a.put dst undef) w') :
    if Region.wanted ⟨dst, .store ty x y, t, pos, after, g⟩ (yielded ops a.tmps) = true then Oper.wp P ⟨dst, .store ty x y, t, pos, after, g⟩ a w K Q else E := by
  rw [if_pos hg]
  refine wp_store_mid _ x y rfl p 0 l'.toArray hx hy (by simpa using hA.there _ (by omega)) (by simpa using hi) (by simpa using h1) ?_
  have := At.setFrom l' l 0 w hA
  rw [setFrom_all l l' hl] at this
  exact h _ (by simpa using this) (by simpa using Kept.setCells (S := (· = p)) rfl l' 0 w (Kept.refl _ _))
end Go.Proofs.Ytoakahofiodbhaa
