/-
  A region that draws its order, by an invariant: if each operation that may come up keeps it, it holds at the end, whatever the order.
-/
import Derived.Test.YtkahndjflhgccaaProg
import Derived.Deep.RegionHeld
import Derived.WalkKit
import Derived.ProofKit
import Derived.OwnWalk
import Derived.Test.YtkahndjflhgccaaSteps
import Derived.Test.YtkahndjflhgccaaMc
namespace Go.Proofs.Ytkahndjflhgccaa
section
set_option linter.unusedVariables false
set_option linter.unusedSimpArgs false
open Go.RowKit
/-- How many of the first n have not come up. -/
def leftOf (listed : Array Bool) (n : Nat) : Nat := (List.range n).countP fun i => !listed.getD i true
theorem leftOf_zero {listed : Array Bool} {n : Nat} (h : leftOf listed n = 0) (i : Nat) (hi : i < n) : listed.getD i true = true := by
  unfold leftOf at h
  rw [List.countP_eq_zero] at h
  have := h i (List.mem_range.2 hi)
  simpa using this
theorem getD_set {listed : Array Bool} {i j : Nat} (hi : i < listed.size) : (listed.setIfInBounds i true).getD j true = if j = i then true else listed.getD j true := by
  rw [Array.getD_eq_getD_getElem?, Array.getD_eq_getD_getElem?]
  by_cases h : j = i
  · subst h; simp [Array.getElem?_setIfInBounds_self_of_lt hi]
  · rw [Array.getElem?_setIfInBounds_ne (fun e => h e.symm), if_neg h]
theorem getD_setF {listed : Array Bool} {i j : Nat} (hi : i < listed.size) : (listed.setIfInBounds i true).getD j false = if j = i then true else listed.getD j false := by
  rw [Array.getD_eq_getD_getElem?, Array.getD_eq_getD_getElem?]
  by_cases h : j = i
  · subst h; simp [Array.getElem?_setIfInBounds_self_of_lt hi]
  · rw [Array.getElem?_setIfInBounds_ne (fun e => h e.symm), if_neg h]
theorem leftOf_set {listed : Array Bool} {n i : Nat} (hs : listed.size = n) (hi : i < n) (h : listed.getD i true = false) : leftOf (listed.setIfInBounds i true) n + 1 = leftOf listed n := by
  unfold leftOf
  have key : ∀ l : List Nat, l.Nodup → (i ∈ l → l.countP (fun j => !(listed.setIfInBounds i true).getD j true) + 1 = l.countP fun j => !listed.getD j true) ∧ (i ∉ l → l.countP (fun j => !(listed.setIfInBounds i true).getD j true) = l.countP fun j => !listed.getD j true) := by
    intro l
    induction l with
    | nil => intro _; exact ⟨fun h => (by cases h), fun _ => rfl⟩
    | cons x l ih =>
      intro hn
      rw [List.nodup_cons] at hn
      obtain ⟨i1, i2⟩ := ih hn.2
      have hx := getD_set (listed := listed) (i := i) (j := x) (by omega)
      refine ⟨fun hm => ?_, fun hm => ?_⟩
      · rw [List.countP_cons, List.countP_cons]
        by_cases e : x = i
        · subst e
          rw [if_pos rfl] at hx
          rw [i2 hn.1, hx, h]; simp
        · rw [if_neg e] at hx
          rw [hx]
          have := i1 (by rcases List.mem_cons.1 hm with h1 | h1; exact absurd h1.symm e; exact h1)
          omega
      · have hne : ¬ x = i := fun e => hm (by rw [e]; exact List.mem_cons_self)
        rw [if_neg hne] at hx
        rw [List.countP_cons, List.countP_cons, hx, i2 (fun h1 => hm (List.mem_cons_of_mem _ h1))]
  exact (key _ List.nodup_range).1 (List.mem_range.2 hi)
section
variable {P : Program} {ops : Array Oper} {Q : Exit → Act → World → Prop} {md : Region.Mode} {S : World → Prop}
/-- If nothing may come up, all has come up. -/
theorem all_listed {listed : Array Bool} {n : Nat} (hn : ops.size = n) (hord : ∀ (i : Nat) (o : Oper), ops[i]? = some o → ∀ e ∈ o.after, e.on < i) (hr : Region.ready md ops listed = []) (hs : listed.size = n) : ∀ i, i < n → listed.getD i true = true := by
  intro i
  induction i using Nat.strongRecOn with
  | _ i ih =>
    intro hi
    cases hl : listed.getD i true with
    | true => rfl
    | false =>
      exfalso
      obtain ⟨o, ho⟩ : ∃ o, ops[i]? = some o := ⟨_, Array.getElem?_eq_getElem (by omega)⟩
      have : i ∈ Region.ready md ops listed := mem_ready.2 ⟨hl, o, ho, fun e he _ => by
        have h1 := hord i o ho e he
        have h2 := ih e.on h1 (by omega)
        rw [Array.getD_eq_getD_getElem?, Array.getElem?_eq_getElem (by omega)] at h2 ⊢
        exact h2⟩
      rw [hr] at this
      cases this
theorem wpAnyH_inv (n : Nat) (hn : ops.size = n) (hord : ∀ (i : Nat) (o : Oper), ops[i]? = some o → ∀ e ∈ o.after, e.on < i) (I : Array Bool → Act → World → Prop)
    (hstep : ∀ listed a w i, listed.size = n → i < n → I listed a w → i ∈ Region.ready md ops listed → wpOp P ops Q i (fun a' w' => S w' ∧ I (listed.setIfInBounds i true) a' w') a w)
    (hend : ∀ listed a w, listed.size = n → I listed a w → (∀ i, i < n → listed.getD i true = true) → Q .normal a w) :
    ∀ (fuel : Nat) (listed : Array Bool) (a : Act) (w : World), leftOf listed n ≤ fuel → listed.size = n → I listed a w → wpAnyH P md ops Q S fuel listed a w := by
  intro fuel
  induction fuel with
  | zero =>
    intro listed a w hf hs hI
    have hall := leftOf_zero (Nat.le_zero.1 hf)
    refine ⟨?_, hend _ _ _ hs hI hall⟩
    cases hr : Region.ready md ops listed with
    | nil => rfl
    | cons i l =>
      have h1 := (mem_ready.1 (show i ∈ Region.ready md ops listed by rw [hr]; exact List.mem_cons_self))
      obtain ⟨h2, o, ho, _⟩ := h1
      rw [hall i (by rw [← hn]; exact (Array.getElem?_eq_some_iff.1 ho).1)] at h2
      cases h2
  | succ fuel ih =>
    intro listed a w hf hs hI
    refine ⟨fun hr => hend _ _ _ hs hI (all_listed hn hord hr hs), fun i hi => ?_⟩
    obtain ⟨h2, o, ho, _⟩ := mem_ready.1 hi
    have hin : i < n := by rw [← hn]; exact (Array.getElem?_eq_some_iff.1 ho).1
    refine wpOp_mono (fun a' w' h => ⟨h.1, ih _ a' w' ?_ (by simpa using hs) h.2⟩) (hstep listed a w i hs hin hI hi)
    have := leftOf_set hs hin h2
    omega
end
end
section
set_option linter.unusedVariables false
open Go.RowKit
theorem tkq {P : Program} {md : Region.Mode} {ops : Array Oper} {Q : Exit → Act → World → Prop} {S : World → Prop} (i : Nat) (dst : Option Tmp) {oi : Oper} {v : Value} {fuel : Nat} {listed : Array Bool} {a : Act} {w : World} (hi : ops[i]? = some oi)
    (hy : YieldsIf P ops S oi v a) (hS : S w) (h : wpAnyH P md ops Q S fuel (listed.setIfInBounds i true) (a.put dst v) w)
    (hd : oi.dst = dst := by rfl) (hs : Region.noSelect ops = true := by kernel_rfl) (hf : Region.free md ops listed i = true := by kernel_rfl) (hr : (Region.ready md ops listed).contains i = true := by kernel_rfl)
    (hQ : ∀ c a w, Q (.panic c) (a.put dst v) w → Q (.panic c) a w := by exact fun _ _ _ h => h) : wpAnyH P md ops Q S (fuel + 1) listed a w :=
  tk_dst hi hd hs hf hr hQ hy hS h
end
section
set_option linter.unusedVariables false
set_option linter.unusedSimpArgs false
open Go.RowKit
theorem step_append_at2 {P : Program} {ops : Array Oper} {o : Oper} {a : Act} {w : World} {K : Act → World → Prop} {Q : Exit → Act → World → Prop} {E : Prop} (dst : Option Tmp) (hd : o.dst = dst) (hgd : Region.wanted o (yielded ops a.tmps) = true) (s x : Operand) (t : TypeId)
    (ho : o.op = .call { callee := .builtin .append, args := #[s, x], argTypes := #[t, t] })
    (base : Nat) (e : TypeId) (i : TypeInfo) (ht : P.underlying t = some (.slice e)) (hi : P.info? e = some i) (hz : i.zero = some (.int .u8 0)) (hsize : i.size = 1) (hby : i.bytes = 1)
    (v : Value) (bs : List Int) (hs : a.eval s = v) (hown : Own w base e v bs)
    (B : Nat) (A : Option Addr) (m c : Nat) (news : List Int) (hx : a.eval x = .slice A m c) (hr : Rd w B A m news)
    (hlen : bs.length + m ≤ 140737488355328) (hbase : base ≤ w.heap.size) (w0 : World) (hb : Below base w0 w)
    (h : ∀ v' w', Own w' base e v' (bs ++ news) → Below base w0 w' → K (a.put dst v') w') :
    if Region.wanted o (yielded ops a.tmps) = true then Oper.wp P o a w K Q else E := by
  subst hd
  rw [if_pos hgd]
  obtain ⟨v', w', h1, h2, h3, h4⟩ := run_append_at (P := P) (w := w) base t o.type e i ht hi hz hsize hby v bs hown B A m c news hr hlen hbase
  unfold Oper.wp
  simp [execOp, ho, resolve, invoke, builtin, hs, hx, h1, Result.andThen]
  exact h v' w' h2 ((Kept.of_grown (S := fun j => base ≤ j) h3 (fun k hk => .inl (hown.block_lt k hk).1)).below hb hbase (fun j hj => hj))
theorem step_ok {P : Program} {ops : Array Oper} {o : Oper} {a : Act} {w w' : World} {v : Value} {K : Act → World → Prop} {Q : Exit → Act → World → Prop} {E : Prop} (dst : Option Tmp) (hd : o.dst = dst) (hgd : Region.wanted o (yielded ops a.tmps) = true)
    (hrun : (execOp a.eval o).run P w = .ok (.value v) w') (h : K (a.put dst v) w') : if Region.wanted o (yielded ops a.tmps) = true then Oper.wp P o a w K Q else E := by
  subst hd
  rw [if_pos hgd]
  unfold Oper.wp
  rw [hrun]
  exact h
end
end Go.Proofs.Ytkahndjflhgccaa
