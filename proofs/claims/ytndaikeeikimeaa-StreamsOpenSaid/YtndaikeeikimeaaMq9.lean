/-
  Steps in a region that draws its order: free moves, loads and stores of whole blocks.
-/
import Derived.Test.YtndaikeeikimeaaProg
import Derived.Test.YtndaikeeikimeaaMq0
import Derived.Deep.RegionHeld
import Derived.Test.YtndaikeeikimeaaMq8
import Derived.StillTailTactics
namespace Go.Proofs.Ytndaikeeikimeaa
section
set_option linter.unusedVariables false
set_option linter.unusedSimpArgs false
open Go.RowKit
theorem tk_dst {P : Program} {md : Region.Mode} {ops : Array Oper} {Q : Exit → Act → World → Prop} {S : World → Prop} {i : Nat} {oi : Oper} {dst : Option Tmp} {v : Value} {fuel : Nat} {listed : Array Bool} {a : Act} {w : World} (hi : ops[i]? = some oi) (hd : oi.dst = dst)
    (hs : Region.noSelect ops = true) (hf : Region.free md ops listed i = true) (hr : (Region.ready md ops listed).contains i = true)
    (hQ : ∀ c a w, Q (.panic c) (a.put dst v) w → Q (.panic c) a w) (hy : YieldsIf P ops S oi v a) (hS : S w)
    (h : wpAnyH P md ops Q S fuel (listed.setIfInBounds i true) (a.put dst v) w) : wpAnyH P md ops Q S (fuel + 1) listed a w := by
  subst hd
  exact wpAnyH_take hi hs hf hr hQ hy hS h
theorem yl_any {P : Program} {ops : Array Oper} {S : World → Prop} {op : Oper} {a : Act} (ty : TypeId) (x : Operand) (ho : op.op = .load ty x) (b o : Nat) (hx : a.eval x = .pointer (some ⟨b, o, none⟩)) (L : List Value) (d : TypeDesc) (hS : ∀ w, S w → w.rangeAt b o L)
    (hu : P.underlying ty = some d) (hd : d.isRow = true) (hi : (P.info? ty).map (·.size) = some L.length) (hw : Region.wanted op (yielded ops a.tmps) = true) : YieldsIf P ops S op (.agg L.toArray) a :=
  yieldsIf_load_mid hw _ x ho b o hx L _ hS hu hd hi
end
section
set_option linter.unusedVariables false
open Go.RowKit
theorem tkq {P : Program} {md : Region.Mode} {ops : Array Oper} {Q : Exit → Act → World → Prop} {S : World → Prop} (i : Nat) (dst : Option Tmp) {oi : Oper} {v : Value} {fuel : Nat} {listed : Array Bool} {a : Act} {w : World} (hi : ops[i]? = some oi)
    (hy : YieldsIf P ops S oi v a) (hS : S w) (h : wpAnyH P md ops Q S fuel (listed.setIfInBounds i true) (a.put dst v) w)
    (hd : oi.dst = dst := by rfl) (hs : Region.noSelect ops = true := by kernel_rfl) (hf : Region.free md ops listed i = true := by kernel_rfl) (hr : (Region.ready md ops listed).contains i = true := by kernel_rfl)
    (hQ : ∀ c a w, Q (.panic c) (a.put dst v) w → Q (.panic c) a w := by exact fun _ _ _ h => h) : wpAnyH P md ops Q S (fuel + 1) listed a w :=
  tk_dst hi hd hs hf hr hQ hy hS h
end
section
set_option linter.unusedVariables false
section
variable {P : Program} {ops : Array Oper} {Q : Exit → Act → World → Prop} {md : Region.Mode} {S S' : World → Prop} {D : Nat}
/-- Whatever comes up next; S holds behind it as long as D has not come up. -/
def wpTail (P : Program) (md : Region.Mode) (ops : Array Oper) (Q : Exit → Act → World → Prop) (S : World → Prop) (D : Nat) : Nat → Array Bool → Act → World → Prop
  | 0, l, a, w => Region.ready md ops l = [] ∧ Q .normal a w
  | f + 1, l, a, w => (Region.ready md ops l = [] → Q .normal a w) ∧
    ∀ i ∈ Region.ready md ops l, wpOp P ops Q i (fun a' w' => ((l.setIfInBounds i true).getD D true = false → S w') ∧ wpTail P md ops Q S D f (l.setIfInBounds i true) a' w') a w
theorem wpTail.any : ∀ (f : Nat) (l : Array Bool) (a : Act) (w : World), wpTail P md ops Q S D f l a w → wpAny P md ops Q f l a w
  | 0, _, _, _, h => h
  | f + 1, _, _, _, h => ⟨h.1, fun i hi => wpOp_mono (fun a' w' k => wpTail.any f _ a' w' k.2) (h.2 i hi)⟩
theorem wp_region_tail {id : Nat} {a : Act} {w : World} (hm : P.follows .mixedOrders = true) (h : wpTail P .any ops Q S D ops.size (Array.replicate ops.size false) a w.drew) : (Code.region id ops true).wp P Q a w :=
  wp_region_any hm (wpTail.any _ _ _ _ h)
theorem unlisted {l : Array Bool} {d : Nat} (h : l.getD d true = false) : l.getD d false = false := by
  rcases Nat.lt_or_ge d l.size with h' | h'
  · simp [h'] at h ⊢; exact h
  · simp [Array.getElem?_eq_none h'] at h
/-- Operation i goes first, if it yields v wherever S' holds, and S' holds as long as none of Ds has come up, each of which waits for i. -/
theorem wpTail.first {i : Nat} {oi : Oper} {v : Value} (hi : ops[i]? = some oi) (hsel : ∀ (j : Nat) (o : Oper) cs b, ops[j]? = some o → o.op ≠ .select cs b) (hQ : ∀ c a w, Q (.panic c) (a.put oi.dst v) w → Q (.panic c) a w)
    (hiD : i ≠ D) (Ds : List Nat) (hcl : ∀ d ∈ Ds, ∀ o, ops[d]? = some o → ∃ e ∈ o.after, Region.binds md e = true ∧ (e.on = i ∨ e.on ∈ Ds))
    (H2 : ∀ (l : Array Bool) (w : World), (∀ d ∈ Ds, l.getD d true = false) → (l.getD D true = false → S w) → S' w) :
    ∀ (f : Nat) (l : Array Bool) (a : Act) (w : World), (∀ j oj, ops[j]? = some oj → j ≠ i → l.getD j true = false → (∀ e ∈ oj.after, Region.binds md e = true → e.on ≠ i) → oi.apart ops oj = true) →
      i ∈ Region.ready md ops l → (∀ d ∈ Ds, l.getD d true = false) → YieldsIf P ops S' oi v a → (l.getD D true = false → S w) →
      wpTail P md ops Q S D f (l.setIfInBounds i true) (a.put oi.dst v) w → wpTail P md ops Q S D (f + 1) l a w := by
  have own : ∀ (l : Array Bool) (w : World), (l.getD D true = false → S w) → ((l.setIfInBounds i true).getD D true = false → S w) := fun l w h e => h (by rw [getD_set_ne true hiD] at e; exact e)
  intro f
  induction f with
  | zero =>
    intro l a w _ hr hD hy hS H
    refine ⟨fun h => (by rw [h] at hr; cases hr), fun j hj => ?_⟩
    rcases Nat.decEq j i with hne | rfl
    · have := ready_mono hj hne
      rw [H.1] at this
      cases this
    · exact hy.wpOp hi (H2 l w hD hS) ⟨own l w hS, H⟩
  | succ f ih =>
    intro l a w hfree hr hD hy hS H
    refine ⟨fun h => (by rw [h] at hr; cases hr), fun j hj => ?_⟩
    rcases Nat.decEq j i with hne | rfl
    · obtain ⟨hjun, oj, hoj, hall⟩ := mem_ready.1 hj
      have iun := unlisted (mem_ready.1 hr).1
      have hnot : ∀ e ∈ oj.after, Region.binds md e = true → e.on ≠ i := fun e he hb heq => by
        have := hall e he hb
        rw [heq, iun] at this
        cases this
      have hjD : ∀ d ∈ Ds, j ≠ d := fun d hd e => by
        subst e
        obtain ⟨x, hx, hb, ho⟩ := hcl j hd oj hoj
        have := hall x hx hb
        rcases ho with ho | ho
        · rw [ho, iun] at this; cases this
        · rw [unlisted (hD _ ho)] at this; cases this
      have k := wpOp_putIf hoj (hfree j oj hoj hne hjun hnot) (fun cs b => hsel i oi cs b hi) (fun cs b => hsel j oj cs b hoj) hQ hy (H.2 j (ready_mono hj hne))
      refine wpOp_mono (fun a' w' h3 => ?_) k
      have hS' : (l.setIfInBounds j true).getD D true = false → S w' := fun e => h3.2.1 (by rw [Array.setIfInBounds_comm _ _ (Ne.symm hne), getD_set_ne true hiD]; exact e)
      refine ⟨hS', ih (l.setIfInBounds j true) a' w' (fun m om hm hmi hun hno => hfree m om hm hmi ?_ hno) (ready_mono hr (Ne.symm hne)) (fun d hd => by rw [getD_set_ne true (hjD d hd)]; exact hD d hd) h3.1 hS' ?_⟩
      · rcases Nat.decEq j m with h | rfl
        · rw [getD_set_ne true h] at hun; exact hun
        · exact hjun
      · rw [Array.setIfInBounds_comm _ _ hne]
        exact h3.2.2
    · exact hy.wpOp hi (H2 l w hD hS) ⟨own l w hS, H⟩
def waits (md : Region.Mode) (ops : Array Oper) (i : Nat) (Ds : List Nat) : Bool := Ds.all fun d => match ops[d]? with | some o => o.after.toList.any fun e => Region.binds md e && (e.on == i || Ds.contains e.on) | none => true
theorem waits_spec {i : Nat} {Ds : List Nat} (h : waits md ops i Ds = true) : ∀ d ∈ Ds, ∀ o, ops[d]? = some o → ∃ e ∈ o.after, Region.binds md e = true ∧ (e.on = i ∨ e.on ∈ Ds) := fun d hd o ho => by
  have h1 := List.all_eq_true.1 h d hd
  simp only [ho] at h1
  obtain ⟨e, he, hb⟩ := List.any_eq_true.1 h1
  simp only [Bool.and_eq_true, Bool.or_eq_true, beq_iff_eq, List.contains_iff_mem] at hb
  exact ⟨e, Array.mem_toList_iff.1 he, hb⟩
/-- What yields anywhere is taken. -/
theorem tail_pure (i : Nat) (dst : Option Tmp) {oi : Oper} {v : Value} {f : Nat} {l : Array Bool} {a : Act} {w : World} (hi : ops[i]? = some oi) (hy : YieldsIf P ops (fun _ => True) oi v a) (hS : l.getD D true = false → S w) (h : wpTail P md ops Q S D f (l.setIfInBounds i true) (a.put dst v) w)
    (hd : oi.dst = dst := by rfl) (hs : Region.noSelect ops = true := by kernel_rfl) (hf : Region.free md ops l i = true := by kernel_rfl) (hr : (Region.ready md ops l).contains i = true := by kernel_rfl) (hiD : i ≠ D := by decide)
    (hQ : ∀ c a w, Q (.panic c) (a.put dst v) w → Q (.panic c) a w := by exact fun _ _ _ h => h) : wpTail P md ops Q S D (f + 1) l a w := by
  subst hd
  exact wpTail.first hi (Region.noSelect_spec hs) hQ hiD [] (fun _ h => by cases h) (fun _ _ _ _ => trivial) f l a w (Region.free_spec hi hf) (by simpa using hr) (fun _ h => by cases h) hy hS h
/-- What yields where S holds is taken, if D waits for it by way of Ds. -/
theorem tail_load (i : Nat) (dst : Option Tmp) (Ds : List Nat) {oi : Oper} {v : Value} {f : Nat} {l : Array Bool} {a : Act} {w : World} (hi : ops[i]? = some oi) (hy : YieldsIf P ops S oi v a) (hS : S w) (h : wpTail P md ops Q S D f (l.setIfInBounds i true) (a.put dst v) w)
    (hd : oi.dst = dst := by rfl) (hs : Region.noSelect ops = true := by kernel_rfl) (hf : Region.free md ops l i = true := by kernel_rfl) (hr : (Region.ready md ops l).contains i = true := by kernel_rfl) (hiD : i ≠ D := by decide)
    (hw : waits md ops i Ds = true := by kernel_rfl) (hDD : Ds.contains D = true := by rfl) (hun : (Ds.all fun d => !(l.getD d true)) = true := by kernel_rfl)
    (hQ : ∀ c a w, Q (.panic c) (a.put dst v) w → Q (.panic c) a w := by exact fun _ _ _ h => h) : wpTail P md ops Q S D (f + 1) l a w := by
  subst hd
  refine wpTail.first hi (Region.noSelect_spec hs) hQ hiD Ds (waits_spec hw) (fun l w h1 h2 => h2 (h1 D (by simpa using hDD))) f l a w (Region.free_spec hi hf) (by simpa using hr) (fun d hd => ?_) hy (fun _ => hS) h
  have := List.all_eq_true.1 hun d hd
  simpa using this
def AllTail (P : Program) (md : Region.Mode) (ops : Array Oper) (Q : Exit → Act → World → Prop) (S : World → Prop) (D f : Nat) (l : Array Bool) (a : Act) (w : World) (rs : List Nat) : Prop :=
  ∀ i ∈ rs, wpOp P ops Q i (fun a' w' => ((l.setIfInBounds i true).getD D true = false → S w') ∧ wpTail P md ops Q S D f (l.setIfInBounds i true) a' w') a w
theorem AllTail.nil {f : Nat} {l : Array Bool} {a : Act} {w : World} : AllTail P md ops Q S D f l a w [] := fun _ h => by cases h
/-- One that comes up ahead of D. -/
theorem AllTail.cons {f : Nat} {l : Array Bool} {a : Act} {w : World} {i : Nat} {o : Oper} {rs : List Nat} (ho : ops[i]? = some o)
    (h : ∀ K' : Act → World → Prop, Shut (∀ a w, S w → (S w → wpTail P md ops Q S D f (l.setIfInBounds i true) a w) → K' a w) → if Region.wanted o (yielded ops a.tmps) = true then Oper.wp P o a w K' Q else K' (a.put o.dst undef) w)
    (hs : AllTail P md ops Q S D f l a w rs) : AllTail P md ops Q S D f l a w (i :: rs) := fun j hj => by
  rcases List.mem_cons.1 hj with rfl | hj
  · exact wpOp_step ho (fun K' hK => h K' (fun a w hS hW => hK a w ⟨fun _ => hS, hW hS⟩))
  · exact hs j hj
/-- D itself, or one behind it. -/
theorem AllTail.late {f : Nat} {l : Array Bool} {a : Act} {w : World} {i : Nat} {o : Oper} {rs : List Nat} (ho : ops[i]? = some o) (hD : (l.setIfInBounds i true).getD D true = true)
    (h : ∀ K' : Act → World → Prop, Shut (∀ a w, wpTail P md ops Q S D f (l.setIfInBounds i true) a w → K' a w) → if Region.wanted o (yielded ops a.tmps) = true then Oper.wp P o a w K' Q else K' (a.put o.dst undef) w)
    (hs : AllTail P md ops Q S D f l a w rs) : AllTail P md ops Q S D f l a w (i :: rs) := fun j hj => by
  rcases List.mem_cons.1 hj with rfl | hj
  · exact wpOp_step ho (fun K' hK => h K' (fun a w hW => hK a w ⟨fun e => (by rw [hD] at e; cases e), hW⟩))
  · exact hs j hj
theorem wpTail.ready {rs : List Nat} {f : Nat} {l : Array Bool} {a : Act} {w : World} (hr : Region.ready md ops l = rs) (hne : rs ≠ []) (h : AllTail P md ops Q S D f l a w rs) : wpTail P md ops Q S D (f + 1) l a w :=
  ⟨fun h0 => absurd (hr ▸ h0) hne, hr ▸ h⟩
theorem wpTail.done {l : Array Bool} {a : Act} {w : World} (hr : Region.ready md ops l = []) (h : Q .normal a w) : ∀ f, wpTail P md ops Q S D f l a w
  | 0 => ⟨hr, h⟩
  | _ + 1 => ⟨fun _ => h, by rw [hr]; simp⟩
end
end
section
set_option linter.unusedVariables false
set_option linter.unusedSimpArgs false
open Go.RowKit
/-- What Next keeps: r stands at block g. -/
structure Nz (w W : World) (base p pa pl : Nat) (va vl vw : Value) (la ll' : RL) (S : OS) (lo hi g : Nat) (vl' : Value) (gn : Nat) (du en : Bool) : Prop where
  om : Om W base p pa pl va vl' vw la ll' (S.bs.drop (baseO S)) (baseO S) gn S.ov du en S.ea
  k : Kept (oO p pa pl va vl vw) w W
  n : ∀ j, oO p pa pl va vl' vw j → j ≠ g ∧ (oO p pa pl va vl vw j ∨ w.heap.size ≤ j)
  r : At W g 105 [.int .u64 lo, .int .u64 hi]
section
variable {w W W' : World} {base p pa pl : Nat} {va vl vw : Value} {la ll' : RL} {S : OS} {lo hi g : Nat} {vl' : Value} {gn : Nat} {du en : Bool}
theorem Nz.below (h : Nz w W base p pa pl va vl vw la ll' S lo hi g vl' gn du en) (k : Below W.heap.size W W') : Nz w W' base p pa pl va vl vw la ll' S lo hi g vl' gn du en :=
  ⟨h.om.below k, h.k.trans (Kept.of_below k _), h.n, h.r.below k h.r.lt⟩
theorem Nz.drewN (h : Nz w W base p pa pl va vl vw la ll' S lo hi g vl' gn du en) (n : Nat) : Nz w (W.drewN n) base p pa pl va vl vw la ll' S lo hi g vl' gn du en := h.below (below_drewN (Below.refl _ _) n)
theorem Nz.r0 (h : Nz w W base p pa pl va vl vw la ll' S lo hi g vl' gn du en) : W.cell? ⟨g, 0, none⟩ = some (.int .u64 lo) := by rw [h.r.cell]; rfl
theorem Nz.r1 (h : Nz w W base p pa pl va vl vw la ll' S lo hi g vl' gn du en) : W.cell? ⟨g, 1, none⟩ = some (.int .u64 hi) := by rw [h.r.cell]; rfl
end
end
end Go.Proofs.Ytndaikeeikimeaa
