/-
  ParamNumbers: chapter 6's runs, numbers at each bound, rows cut off at each place, names twice, unknown ones.
-/
import Derived.Test.YthpcfcnkpipmnaaPb
import Derived.Test.YthpcfcnkpipmnaaPlace
import Derived.Test.YthpcfcnkpipmnaaPr
import Derived.Deep.LoopGhost
import Derived.Deep.Cut
namespace Go.Proofs.Ythpcfcnkpipmnaa
set_option linter.unusedVariables false
set_option linter.unusedSimpArgs false
open Go.RowKit Go.ChangeShapes Go.WideShapes Go.Deep
theorem step_append_at {P : Program} {ops : Array Oper} {o : Oper} {a : Act} {w : World} {K : Act → World → Prop} {Q : Exit → Act → World → Prop} {E : Prop} (hgd : Region.wanted o (yielded ops a.tmps) = true) (s x : Operand) (t : TypeId)
    (ho : o.op = .call { callee := .builtin .append, args := #[s, x], argTypes := #[t, t] })
    (base : Nat) (e : TypeId) (i : TypeInfo) (ht : P.underlying t = some (.slice e)) (hi : P.info? e = some i) (hz : i.zero = some (.int .u8 0)) (hsize : i.size = 1) (hby : i.bytes = 1)
    (v : Value) (bs : List Int) (hs : a.eval s = v) (hown : Own w base e v bs)
    (B : Nat) (A : Option Addr) (m c : Nat) (news : List Int) (hx : a.eval x = .slice A m c) (hr : Rd w B A m news)
    (hlen : bs.length + m ≤ 140737488355328) (hbase : base ≤ w.heap.size)
    (h : ∀ v' w', Own w' base e v' (bs ++ news) → w.grownBy w' v.ownBlock → (v'.ownBlock = v.ownBlock ∨ v'.ownBlock = some w.heap.size) → K (a.put o.dst v') w') :
    if Region.wanted o (yielded ops a.tmps) = true then Oper.wp P o a w K Q else E := by
  rw [if_pos hgd]
  obtain ⟨v', w', h1, h2, h3, h4⟩ := run_append_at (P := P) (w := w) base t o.type e i ht hi hz hsize hby v bs hown B A m c news hr hlen hbase
  unfold Oper.wp
  simp [execOp, ho, resolve, invoke, builtin, hs, hx, h1, Result.andThen]
  exact h v' w' h2 h3 h4
theorem grown_below {w w' w0 : World} {base : Nat} {v : Value} {e : TypeId} {bs : List Int} (hown : Own w base e v bs) (hg : w.grownBy w' v.ownBlock) (hb : Below base w0 w) (hs : base ≤ w.heap.size) : Below base w0 w' :=
  (Kept.of_grown (S := fun j => base ≤ j) hg (fun k hk => .inl (hown.block_lt k hk).1)).below hb hs (fun j hj => hj)
def psN : List PN := [⟨0, 0, 0, 0, .zero⟩, ⟨1073741824, 0, 0, 0, .zero⟩, ⟨1073741825, 0, 0, 0, .zero⟩, ⟨0, 1099511627776, 0, 0, .zero⟩, ⟨0, 1099511627777, 0, 0, .zero⟩, ⟨0, 0, 1099511627777, 0, .zero⟩, ⟨0, 0, 0, 1048576, .zero⟩, ⟨1, 2, 3, 4, ⟨5, 0, 0, 0, 0, 0, 0, 0⟩⟩]
def psL : List Value := psN.flatMap pmL
theorem psN_wf : ∀ p ∈ psN, p.wf := by
  intro p hp
  simp only [psN, List.mem_cons, List.not_mem_nil, or_false] at hp
  rcases hp with rfl | rfl | rfl | rfl | rfl | rfl | rfl | rfl
  all_goals
    refine ⟨by decide, by decide, by decide, by decide, by decide, by decide, by decide, by decide, ?_⟩
    intro x hx
    simp only [N8.zero, N8.l, List.mem_cons, List.not_mem_nil, or_false, or_self] at hx
    omega
theorem psL_at (k : Nat) (hk : k < 8) : ∃ p : PN, p.wf ∧ ∀ (W : World) (g : Nat) (T : TypeId), At W g T psL → W.rangeAt g (k * 12) (pmL p) := by
  refine ⟨psN[k]'hk, psN_wf _ (List.getElem_mem _), fun W g T h j v hj => ?_⟩
  rw [h.cell]
  have hj12 : j < 12 := (List.getElem?_eq_some_iff.1 hj).1
  have hk8 : k = 0 ∨ k = 1 ∨ k = 2 ∨ k = 3 ∨ k = 4 ∨ k = 5 ∨ k = 6 ∨ k = 7 := by omega
  have hjc : j = 0 ∨ j = 1 ∨ j = 2 ∨ j = 3 ∨ j = 4 ∨ j = 5 ∨ j = 6 ∨ j = 7 ∨ j = 8 ∨ j = 9 ∨ j = 10 ∨ j = 11 := by omega
  rw [← hj]
  rcases hk8 with rfl | rfl | rfl | rfl | rfl | rfl | rfl | rfl <;> rcases hjc with rfl | rfl | rfl | rfl | rfl | rfl | rfl | rfl | rfl | rfl | rfl | rfl <;> rfl
def YR (W : World) (g : Nat) : Prop := ∀ j, j < 7 → ∃ A n c bs, W.cell? ⟨g, j, none⟩ = some (.slice A n c) ∧ InRow W A n c bs ∧ n ≤ 10
theorem YR.below {w w' : World} {g : Nat} (h : YR w g) (hg : g < w.heap.size) (hb : Below w.heap.size w w') : YR w' g := by
  intro j hj
  obtain ⟨A, n, c, bs, h1, h2, h3⟩ := h j hj
  refine ⟨A, n, c, bs, ?_, ⟨(h2.1.below hb).more hb.size, h2.2⟩, h3⟩
  rw [(Kept.of_below hb (fun _ => False)).cell (p := ⟨g, j, none⟩) hg (fun h => h)]
  exact h1
theorem lit_row (W : World) (bs : List Int) (hb : Byt bs) (g : Nat) (hg : W.heap.size = g) : InRow (W.alloc (.cells (bs.map (Value.int .u8)).toArray 5)) (some ⟨g, 0, none⟩) bs.length bs.length bs ∨ 140737488355328 < bs.length := by
  rcases Nat.lt_or_ge 140737488355328 bs.length with h | h
  · exact .inr h
  · subst hg
    exact .inl ⟨(Rd.lit W 5 bs hb _ rfl).more (by simp), Nat.le_refl _, by unfold maxLen; omega, fun h => by cases h⟩
theorem InRow.alloc_ {W : World} {A : Option Addr} {n c : Nat} {bs : List Int} (h : InRow W A n c bs) (o : Obj) : InRow (W.alloc o) A n c bs := ⟨(h.1.alloc (Nat.le_refl _) o).more (by simp), h.2⟩
abbrev OB (bs : List Int) : Obj := .cells (bs.map (Value.int .u8)).toArray 5
theorem yrows (W : World) (x : Int) (hx : 0 ≤ x ∧ x < 256) (g : Nat) (hg : W.heap.size = g) :
    YR ((((((((W.alloc (OB [x, 1, 5])).alloc (OB [x, 0])).alloc (OB [x, 2, 64, 5])).alloc (OB [x, 2, 5, 5])).alloc (OB [x, 8, 192, 0, 1, 0, 0, 0, 0, 0])).alloc (OB [x, 8, 192, 0, 2, 0, 0, 0, 0, 0])).alloc (OB [x, 9])).alloc
      (.cells ([.slice (some ⟨g, 0, none⟩) 3 3, .slice (some ⟨g + 1, 0, none⟩) 2 2, .slice (some ⟨g + 1 + 1, 0, none⟩) 4 4, .slice (some ⟨g + 1 + 1 + 1, 0, none⟩) 4 4, .slice (some ⟨g + 1 + 1 + 1 + 1, 0, none⟩) 10 10, .slice (some ⟨g + 1 + 1 + 1 + 1 + 1, 0, none⟩) 10 10, .slice (some ⟨g + 1 + 1 + 1 + 1 + 1 + 1, 0, none⟩) 2 2] : List Value).toArray 29)) (g + 1 + 1 + 1 + 1 + 1 + 1 + 1) := by
  have hb : ∀ l : List Int, (∀ y ∈ l, 0 ≤ y ∧ y < 256) → Byt (x :: l) := by
    intro l hl y hy
    rcases List.mem_cons.1 hy with rfl | hy
    · exact hx
    · exact hl y hy
  have h0 := (lit_row W [x, 1, 5] (hb _ (by decide)) g hg).resolve_right (by simp)
  have h1 := (lit_row (W.alloc (OB [x, 1, 5])) [x, 0] (hb _ (by decide)) (g + 1) (by simp [hg])).resolve_right (by simp)
  have h2 := (lit_row ((W.alloc (OB [x, 1, 5])).alloc (OB [x, 0])) [x, 2, 64, 5] (hb _ (by decide)) (g + 1 + 1) (by simp [hg])).resolve_right (by simp)
  have h3 := (lit_row (((W.alloc (OB [x, 1, 5])).alloc (OB [x, 0])).alloc (OB [x, 2, 64, 5])) [x, 2, 5, 5] (hb _ (by decide)) (g + 1 + 1 + 1) (by simp [hg])).resolve_right (by simp)
  have h4 := (lit_row ((((W.alloc (OB [x, 1, 5])).alloc (OB [x, 0])).alloc (OB [x, 2, 64, 5])).alloc (OB [x, 2, 5, 5])) [x, 8, 192, 0, 1, 0, 0, 0, 0, 0] (hb _ (by decide)) (g + 1 + 1 + 1 + 1) (by simp [hg])).resolve_right (by simp)
  have h5 := (lit_row (((((W.alloc (OB [x, 1, 5])).alloc (OB [x, 0])).alloc (OB [x, 2, 64, 5])).alloc (OB [x, 2, 5, 5])).alloc (OB [x, 8, 192, 0, 1, 0, 0, 0, 0, 0])) [x, 8, 192, 0, 2, 0, 0, 0, 0, 0] (hb _ (by decide)) (g + 1 + 1 + 1 + 1 + 1) (by simp [hg])).resolve_right (by simp)
  have h6 := (lit_row ((((((W.alloc (OB [x, 1, 5])).alloc (OB [x, 0])).alloc (OB [x, 2, 64, 5])).alloc (OB [x, 2, 5, 5])).alloc (OB [x, 8, 192, 0, 1, 0, 0, 0, 0, 0])).alloc (OB [x, 8, 192, 0, 2, 0, 0, 0, 0, 0])) [x, 9] (hb _ (by decide)) (g + 1 + 1 + 1 + 1 + 1 + 1) (by simp [hg])).resolve_right (by simp)
  intro j hj
  have hA := At.new_ (w := (((((((W.alloc (OB [x, 1, 5])).alloc (OB [x, 0])).alloc (OB [x, 2, 64, 5])).alloc (OB [x, 2, 5, 5])).alloc (OB [x, 8, 192, 0, 1, 0, 0, 0, 0, 0])).alloc (OB [x, 8, 192, 0, 2, 0, 0, 0, 0, 0])).alloc (OB [x, 9]))) 29
    ([.slice (some ⟨g, 0, none⟩) 3 3, .slice (some ⟨g + 1, 0, none⟩) 2 2, .slice (some ⟨g + 1 + 1, 0, none⟩) 4 4, .slice (some ⟨g + 1 + 1 + 1, 0, none⟩) 4 4, .slice (some ⟨g + 1 + 1 + 1 + 1, 0, none⟩) 10 10, .slice (some ⟨g + 1 + 1 + 1 + 1 + 1, 0, none⟩) 10 10, .slice (some ⟨g + 1 + 1 + 1 + 1 + 1 + 1, 0, none⟩) 2 2] : List Value) (g + 1 + 1 + 1 + 1 + 1 + 1 + 1) (by simp [hg])
  have hjc : j = 0 ∨ j = 1 ∨ j = 2 ∨ j = 3 ∨ j = 4 ∨ j = 5 ∨ j = 6 := by omega
  rcases hjc with rfl | rfl | rfl | rfl | rfl | rfl | rfl
  · exact ⟨_, _, _, _, hA.cell 0, (((((((h0.alloc_ _).alloc_ _).alloc_ _).alloc_ _).alloc_ _).alloc_ _).alloc_ _), by decide⟩
  · exact ⟨_, _, _, _, hA.cell 1, ((((((h1.alloc_ _).alloc_ _).alloc_ _).alloc_ _).alloc_ _).alloc_ _), by decide⟩
  · exact ⟨_, _, _, _, hA.cell 2, (((((h2.alloc_ _).alloc_ _).alloc_ _).alloc_ _).alloc_ _), by decide⟩
  · exact ⟨_, _, _, _, hA.cell 3, ((((h3.alloc_ _).alloc_ _).alloc_ _).alloc_ _), by decide⟩
  · exact ⟨_, _, _, _, hA.cell 4, (((h4.alloc_ _).alloc_ _).alloc_ _), by decide⟩
  · exact ⟨_, _, _, _, hA.cell 5, ((h5.alloc_ _).alloc_ _), by decide⟩
  · exact ⟨_, _, _, _, hA.cell 6, (h6.alloc_ _), by decide⟩
set_option maxRecDepth 100000 in
set_option maxHeartbeats 8000000 in
theorem pnumbers_walk (w : World) : Calls Try.prog 3 #[] w fun e w'' => e = .returned (.bool true) ∧ Below w.heap.size w w'' := by
  obtain ⟨i0, hi, hz0, hz1, hz2⟩ := info_parts u8_info
  have hB1 : Below w.heap.size w (w.alloc (.cells psL.toArray 26)) := (Below.refl _ _).alloc (Nat.le_refl _) _
  have hP1 : At (w.alloc (.cells psL.toArray 26)) w.heap.size 26 psL := At.new w _ _
  have HI := Lib.hid (And.intro hB1 hP1)
  clear hB1 hP1
  go_enter Try.func3, Try.ntmps3
  go_wp2_with fail
  generalize (Value.agg #[.int .u64 0, .int .u64 0, .int .u64 0, .int .u64 0, .int .u8 0, .int .u8 0, .int .u8 0, .int .u8 0, .int .u8 0, .int .u8 0, .int .u8 0, .int .u8 0]) = z0
  generalize (Value.agg #[.int .u64 1073741824, .int .u64 0, .int .u64 0, .int .u64 0, .int .u8 0, .int .u8 0, .int .u8 0, .int .u8 0, .int .u8 0, .int .u8 0, .int .u8 0, .int .u8 0]) = z1
  generalize (Value.agg #[.int .u64 1073741825, .int .u64 0, .int .u64 0, .int .u64 0, .int .u8 0, .int .u8 0, .int .u8 0, .int .u8 0, .int .u8 0, .int .u8 0, .int .u8 0, .int .u8 0]) = z2
  generalize (Value.agg #[.int .u64 0, .int .u64 1099511627776, .int .u64 0, .int .u64 0, .int .u8 0, .int .u8 0, .int .u8 0, .int .u8 0, .int .u8 0, .int .u8 0, .int .u8 0, .int .u8 0]) = z3
  generalize (Value.agg #[.int .u64 0, .int .u64 1099511627777, .int .u64 0, .int .u64 0, .int .u8 0, .int .u8 0, .int .u8 0, .int .u8 0, .int .u8 0, .int .u8 0, .int .u8 0, .int .u8 0]) = z4
  generalize (Value.agg #[.int .u64 0, .int .u64 0, .int .u64 1099511627777, .int .u64 0, .int .u8 0, .int .u8 0, .int .u8 0, .int .u8 0, .int .u8 0, .int .u8 0, .int .u8 0, .int .u8 0]) = z5
  generalize (Value.agg #[.int .u64 0, .int .u64 0, .int .u64 0, .int .u64 1048576, .int .u8 0, .int .u8 0, .int .u8 0, .int .u8 0, .int .u8 0, .int .u8 0, .int .u8 0, .int .u8 0]) = z6
  generalize (Value.agg #[.int .u64 1, .int .u64 2, .int .u64 3, .int .u64 4, .int .u8 5, .int .u8 0, .int .u8 0, .int .u8 0, .int .u8 0, .int .u8 0, .int .u8 0, .int .u8 0]) = z7
  generalize (Value.agg #[.int .u8 5, .int .u8 0, .int .u8 0, .int .u8 0, .int .u8 0, .int .u8 0, .int .u8 0, .int .u8 0]) = z8
  go_loopw [20] (fun i wr => ∃ k : Nat, k ≤ 8 ∧ i = .int .i64 k ∧ Hid (Below w.heap.size w wr ∧ At wr w.heap.size 26 psL)) (fun i _ => 8 - (intOf i).toNat)
  case atStart => exact ⟨0, by omega, rfl, HI⟩
  case round =>
    obtain ⟨k, hk, rfl, hst⟩ := hrel
    have hB := hst.out.1
    have hP := hst.out.2
    clear hst HI
    by_cases hk8 : k < 8
    · obtain ⟨p, hwf, hrg⟩ := psL_at k hk8
      have hrg0 := hrg _ _ _ hP
      have hes := fun W => pencs_any p W hwf
      have hrr := fun W => rpright_any p W
      obtain ⟨L, hL⟩ : ∃ L, pmL p = L := ⟨_, rfl⟩
      have hLl : L.length = 12 := by rw [← hL]; rfl
      have hLo : L.all (·.oneCell') = true := by rw [← hL]; rfl
      have hLv : pmV p = .agg L.toArray := by rw [← hL]; rfl
      have hen := fun W (h : prightB p = true) => rpenc_any p W hwf h
      obtain ⟨l1, l2⟩ := penc_len p
      obtain ⟨E, hE⟩ : ∃ x, pencS p = x := ⟨_, rfl⟩
      obtain ⟨N, hN⟩ : ∃ x, E.length = x := ⟨_, rfl⟩
      rw [hE] at hen l1 l2
      rw [hN] at l1 l2
      rw [hLv] at hes hrr hen
      rw [hL] at hrg0
      obtain ⟨rb, hrb⟩ : ∃ x, prightB p = x := ⟨_, rfl⟩
      rw [hrb] at hrr
      have HRB := Lib.hid hrb
      have HLl := Lib.hid hLl
      have HLo := Lib.hid hLo
      have HES := Lib.hid hes
      have HRR := Lib.hid hrr
      have HEN := Lib.hid hen
      have HN := Lib.hid hN
      have hA2 := At.new wr 26 L
      have hbA : Below wr.heap.size wr (wr.alloc (.cells L.toArray 26)) := (Below.refl _ _).alloc (Nat.le_refl _) _
      obtain ⟨w2, hw2⟩ : ∃ x, wr.alloc (.cells L.toArray 26) = x := ⟨_, rfl⟩
      rw [hw2] at hA2 hbA
      have hP2 := hP.of_below hbA
      have hB2 := hB.trans (hbA.mono hB.size)
      obtain ⟨g1, hg1⟩ : ∃ x, wr.heap.size = x := ⟨_, rfl⟩
      rw [hg1] at hA2
      have hkI : (k : Int) < 8 := by omega
      clear hL hLl hLo hLv hes hrr hen hrg hE hN hrb hbA hP hB
      go_wp2_with (first | ((with_reducible refine at_ldp (x := .tmp 22) ?_); refine ld_pm_g (by rfl) w.heap.size (k * 12) L (by rfl) hrg0 HLl.out ?_) | ((with_reducible refine at_stp (x := .tmp 2) ?_); refine wpList_store_top wr 26 (pmL .zero) L (by rfl) _ (by rfl) hg1.symm (by rfl) (by rw [HLl.out]; rfl) (by rw [HLl.out]; exact pm_info) HLo.out ?_; rw [hw2]; clear hw2 hg1) | ((with_reducible refine at_ldp (x := .tmp 2) ?_); refine ld_pm_g (by rfl) g1 0 L (by rfl) hA2.rangeAt HLl.out ?_) | fail)
      refine (HES.out w2).mono ?_
      rintro e w3 ⟨rfl, hb3⟩
      have hA3 := hA2.of_below hb3
      have hP3 := hP2.of_below hb3
      have hB3 := hB2.trans (hb3.mono hB2.size)
      clear hA2 hP2 hB2 hb3 hrg0 HES
      go_wp2_with (first | ((with_reducible refine at_ldp (x := .tmp 2) ?_); refine ld_pm_g (by rfl) g1 0 L (by rfl) hA3.rangeAt HLl.out ?_) | fail)
      refine (HRR.out w3).mono ?_
      rintro e w4 ⟨rfl, hb4⟩
      have hA4 := hA3.of_below hb4
      have hP4 := hP3.of_below hb4
      have hB4 := hB3.trans (hb4.mono hB3.size)
      clear hA3 hP3 hB3 hb4 HRR
      cases rb with
      | false =>
        go_wp2_with fail
        go_roundw
        case rel => exact ⟨k + 1, by omega, by go_num, Lib.hid ⟨hB4, hP4⟩⟩
        case measure => simp [intOf]; omega
      | true =>
        go_wp2_with (first | ((with_reducible refine at_ldp (x := .tmp 2) ?_); refine ld_pm_g (by rfl) g1 0 L (by rfl) hA4.rangeAt HLl.out ?_) | fail)
        refine (HEN.out w4 HRB.out).mono ?_
        rintro e w5 ⟨v5, rfl, hown5, hb5⟩
        have hP5 := hP4.of_below hb5
        have hB5 := hB4.trans (hb5.mono hB4.size)
        obtain ⟨A5, c5, rfl, hc5, hm5, hr5⟩ := hown5.open_n N HN.out
        obtain ⟨bk, off, rfl, _, _⟩ := hr5.2.2 (by omega)
        have hm5' := hm5
        unfold maxLen at hm5'
        clear hA4 hP4 hB4 hb5 hown5 HEN HRB HLl HLo
        have HJ := Lib.hid (And.intro hB5 (And.intro hP5 hr5))
        clear hB5 hP5 hr5
        go_wp2_with fail
        go_loopw [4] (fun i wr => ∃ j : Nat, j ≤ N + 1 ∧ i = .int .i64 j ∧ Hid (Below w.heap.size w wr ∧ At wr w.heap.size 26 psL ∧ Rd wr wr.heap.size (some ⟨bk, off, none⟩) N E)) (fun i _ => N + 1 - (intOf i).toNat)
        case atStart => exact ⟨0, by omega, rfl, HJ⟩
        case round =>
          obtain ⟨j, hj, rfl, hst⟩ := hrel
          have hB := hst.out.1
          have hP := hst.out.2.1
          have hr := hst.out.2.2
          obtain ⟨wi, rfl⟩ : ∃ wi : World, wi = wr := ⟨_, rfl⟩
          clear hst HJ
          by_cases hjN : j ≤ N
          · have hjI : (j : Int) ≤ N := by omega
            have hjc : (j : Int) ≤ c5 := by omega
            have hjc' : j ≤ c5 := by omega
            go_upto_region 11 with fail
            have hBd : Below w.heap.size w wi.drew := belowN hB 1
            have hPd := hP.drew
            have hrd := hr.drew
            have hsd : wi.drew.heap.size = wi.heap.size := rfl
            refine wp_region_held_drew (S := fun _ => True) (by kernel_rfl) (trivial) (fun hHeld => ?_)
            obtain ⟨wd, hwd⟩ : ∃ x, wi.drew = x := ⟨_, rfl⟩
            rw [hwd] at hBd hPd hrd hsd ⊢
            have hrd : Rd wd wd.heap.size (some ⟨bk, off, none⟩) N E := by rw [hsd]; exact hrd
            clear hwd hB hP hr hsd
            refine tk_dst (i := 0) (dst := some 38) rfl rfl (by kernel_rfl) (by kernel_rfl) (by kernel_rfl) (fun _ _ _ h => h) (v := ?_) (Or.inl ⟨by rfl, ?_⟩) (by assumption) ?_
            rotate_left
            · intro w hSw; (try dsimp only at hSw); go_simp; first | done | (with_reducible rfl)
            simp only [Act.put, List.setIfInBounds_toArray, List.set_cons_zero, List.set_cons_succ]
            refine tk_dst (i := 1) (dst := some 39) rfl rfl (by kernel_rfl) (by kernel_rfl) (by kernel_rfl) (fun _ _ _ h => h) (v := ?_) (Or.inl ⟨by rfl, ?_⟩) (by assumption) ?_
            rotate_left
            · intro w hSw; (try dsimp only at hSw); go_simp; first | done | (with_reducible rfl)
            simp only [Act.put, List.setIfInBounds_toArray, List.set_cons_zero, List.set_cons_succ]
            refine tk_dst (i := 2) (dst := some 40) rfl rfl (by kernel_rfl) (by kernel_rfl) (by kernel_rfl) (fun _ _ _ h => h) (v := ?_) (Or.inl ⟨by rfl, ?_⟩) (by assumption) ?_
            rotate_left
            · intro w hSw; (try dsimp only at hSw); go_simp; first | done | (with_reducible rfl)
            simp only [Act.put, List.setIfInBounds_toArray, List.set_cons_zero, List.set_cons_succ]
            refine wpAnyH_ready (rs := [3]) (by kernel_rfl) (by simp) ?_
            refine AllReadyH.cons rfl (fun K hK => ?_) AllReadyH.nil
            go_simp
            go_wp2_with (go_at_call 10; refine (pdecs_any (some ⟨bk, off, none⟩) j c5 (E.take j) _ ⟨hrd.cut hjN, hjc', hm5, fun h => by cases h⟩ (by omega)).mono ?_; rintro e x1 ⟨rfl, hb1⟩)
            refine hK.out _ _ trivial (fun hHeld => ?_)
            clear hK K
            have hB1 := hBd.trans (hb1.mono hBd.size)
            have hP1 := hPd.of_below hb1
            have hr1 := (hrd.below hb1).more hb1.size
            clear hBd hPd hrd hb1
            refine tk_dst (i := 4) (dst := some 42) rfl rfl (by kernel_rfl) (by kernel_rfl) (by kernel_rfl) (fun _ _ _ h => h) (v := ?_) (Or.inl ⟨by rfl, ?_⟩) (by assumption) ?_
            rotate_left
            · intro w hSw; (try dsimp only at hSw); go_simp; first | done | (with_reducible rfl)
            simp only [Act.put, List.setIfInBounds_toArray, List.set_cons_zero, List.set_cons_succ]
            refine tk_dst (i := 5) (dst := some 43) rfl rfl (by kernel_rfl) (by kernel_rfl) (by kernel_rfl) (fun _ _ _ h => h) (v := ?_) (Or.inl ⟨by rfl, ?_⟩) (by assumption) ?_
            rotate_left
            · intro w hSw; (try dsimp only at hSw); go_simp; first | done | (with_reducible rfl)
            simp only [Act.put, List.setIfInBounds_toArray, List.set_cons_zero, List.set_cons_succ]
            refine tk_dst (i := 7) (dst := some 45) rfl rfl (by kernel_rfl) (by kernel_rfl) (by kernel_rfl) (fun _ _ _ h => h) (v := ?_) (Or.inl ⟨by rfl, ?_⟩) (by assumption) ?_
            rotate_left
            · intro w hSw; (try dsimp only at hSw); go_simp; first | done | (with_reducible rfl)
            simp only [Act.put, List.setIfInBounds_toArray, List.set_cons_zero, List.set_cons_succ]
            refine tk_dst (i := 9) (dst := some 47) rfl rfl (by kernel_rfl) (by kernel_rfl) (by kernel_rfl) (fun _ _ _ h => h) (v := ?_) (Or.inl ⟨by rfl, ?_⟩) (by assumption) ?_
            rotate_left
            · intro w hSw; (try dsimp only at hSw); go_simp; first | done | (with_reducible rfl)
            simp only [Act.put, List.setIfInBounds_toArray, List.set_cons_zero, List.set_cons_succ]
            refine tk_dst (i := 10) (dst := some 48) rfl rfl (by kernel_rfl) (by kernel_rfl) (by kernel_rfl) (fun _ _ _ h => h) (v := ?_) (Or.inl ⟨by rfl, ?_⟩) (by assumption) ?_
            rotate_left
            · intro w hSw; (try dsimp only at hSw); go_simp; first | done | (with_reducible rfl)
            simp only [Act.put, List.setIfInBounds_toArray, List.set_cons_zero, List.set_cons_succ]
            refine tk_dst (i := 11) (dst := some 49) rfl rfl (by kernel_rfl) (by kernel_rfl) (by kernel_rfl) (fun _ _ _ h => h) (v := ?_) (Or.inl ⟨by rfl, ?_⟩) (by assumption) ?_
            rotate_left
            · intro w hSw; (try dsimp only at hSw); go_simp; first | done | (with_reducible rfl)
            simp only [Act.put, List.setIfInBounds_toArray, List.set_cons_zero, List.set_cons_succ]
            refine wpAnyH_ready (rs := [6]) (by kernel_rfl) (by simp) ?_
            refine AllReadyH.cons rfl (fun K hK => ?_) AllReadyH.nil
            go_simp
            refine hK.out _ _ trivial (fun hHeld => ?_)
            clear hK K
            have hO2 : Own (x1.alloc (.cells #[] 5)) x1.heap.size 5 (.slice (some ⟨x1.heap.size, 0, none⟩) 0 0) [] := Own.of_block (n := 0) (cap := 0) Byt.nil rfl (heap_alloc_new x1 _) (Nat.le_refl _) (Nat.le_refl _) (Nat.zero_le _) rfl rfl
            have hb2 : Below x1.heap.size x1 (x1.alloc (.cells #[] 5)) := (Below.refl _ _).alloc (Nat.le_refl _) _
            obtain ⟨x2, hx2⟩ : ∃ x, x1.alloc (.cells #[] 5) = x := ⟨_, rfl⟩
            rw [hx2] at hO2 hb2 ⊢
            have hs2 := hb2.size
            have hr2 := (hr1.below hb2).more hs2
            clear hx2
            refine wpAnyH_ready (rs := [8]) (by kernel_rfl) (by simp) ?_
            refine AllReadyH.cons rfl (fun K hK => ?_) AllReadyH.nil
            refine step_append_at (by rfl) (.tmp 44) (.tmp 45) 29 rfl x1.heap.size 5 i0 Try.underlying29 hi hz0 hz1 hz2 _ [] (by rfl) hO2 _ (some ⟨bk, off, none⟩) N c5 E (by rfl) hr2 (by simp only [List.length_nil]; omega) hs2 ?_
            intro v3 x3 hO3 hg3 _
            refine hK.out _ _ trivial (fun hHeld => ?_)
            clear hK K
            have hb3 := grown_below hO2 hg3 hb2 hs2
            have hs3 := hb3.size
            have hr3 := (hr1.below hb3).more hs3
            rw [List.nil_append] at hO3
            clear hO2 hg3 hb2 hr2 hs2
            refine wpAnyH_ready (rs := [12]) (by kernel_rfl) (by simp) ?_
            refine AllReadyH.cons rfl (fun K hK => ?_) AllReadyH.nil
            refine step_append_at (by rfl) (.tmp 46) (.tmp 49) 29 rfl x1.heap.size 5 i0 Try.underlying29 hi hz0 hz1 hz2 v3 E (by rfl) hO3 _ (some ⟨bk, off, none⟩) j c5 (E.take j) (by rfl) (hr3.cut hjN) (by rw [HN.out]; omega) hs3 ?_
            intro v4 x4 hO4 hg4 _
            refine hK.out _ _ trivial (fun hHeld => ?_)
            clear hK K
            have hb4 := grown_below hO3 hg4 hb3 hs3
            obtain ⟨n4, hn4⟩ : ∃ q, (E ++ E.take j).length = q := ⟨_, rfl⟩
            have hn4b : n4 ≤ 1000 := by rw [← hn4, List.length_append, List.length_take, HN.out]; omega
            obtain ⟨A4, c4, rfl, hl4, hm4, hr4⟩ := hO4.open_n n4 hn4
            have hnil4 := hO4.nil_cap
            clear hn4 hO3 hg4 hb3 hr3 hs3
            refine wpAnyH_ready (rs := [13]) (by kernel_rfl) (by simp) ?_
            refine AllReadyH.cons rfl (fun K hK => ?_) AllReadyH.nil
            go_simp
            go_wp2_with (go_at_call 10; refine (pdecs_any A4 n4 c4 _ _ ⟨hr4, hl4, hm4, hnil4⟩ (by omega)).mono ?_; rintro e x5 ⟨rfl, hb5⟩)
            refine hK.out _ _ trivial (fun hHeld => ?_)
            clear hK K
            have hb15 := hb4.trans (hb5.mono hb4.size)
            have hB5 := hB1.trans (hb15.mono hB1.size)
            have hP5 := hP1.of_below hb15
            have hr5 := (hr1.below hb15).more hb15.size
            clear hB1 hP1 hr1 hb15 hb5 hb4 hr4 hO4 hnil4 hl4
            refine tk_dst (i := 14) (dst := some 52) rfl rfl (by kernel_rfl) (by kernel_rfl) (by kernel_rfl) (fun _ _ _ h => h) (v := ?_) (Or.inl ⟨by rfl, ?_⟩) (by assumption) ?_
            rotate_left
            · intro w hSw; (try dsimp only at hSw); go_simp; first | done | (with_reducible rfl)
            simp only [Act.put, List.setIfInBounds_toArray, List.set_cons_zero, List.set_cons_succ]
            refine tk_dst (i := 15) (dst := some 53) rfl rfl (by kernel_rfl) (by kernel_rfl) (by kernel_rfl) (fun _ _ _ h => h) (v := ?_) (Or.inl ⟨by rfl, ?_⟩) (by assumption) ?_
            rotate_left
            · intro w hSw; (try dsimp only at hSw); go_simp; first | done | (with_reducible rfl)
            simp only [Act.put, List.setIfInBounds_toArray, List.set_cons_zero, List.set_cons_succ]
            refine tk_dst (i := 16) (dst := some 54) rfl rfl (by kernel_rfl) (by kernel_rfl) (by kernel_rfl) (fun _ _ _ h => h) (v := ?_) (Or.inl ⟨by rfl, ?_⟩) (by assumption) ?_
            rotate_left
            · intro w hSw; (try dsimp only at hSw); go_simp; first | done | (with_reducible rfl)
            simp only [Act.put, List.setIfInBounds_toArray, List.set_cons_zero, List.set_cons_succ]
            refine tk_dst (i := 18) (dst := some 56) rfl rfl (by kernel_rfl) (by kernel_rfl) (by kernel_rfl) (fun _ _ _ h => h) (v := ?_) (Or.inl ⟨by rfl, ?_⟩) (by assumption) ?_
            rotate_left
            · intro w hSw; (try dsimp only at hSw); go_simp; first | done | (with_reducible rfl)
            simp only [Act.put, List.setIfInBounds_toArray, List.set_cons_zero, List.set_cons_succ]
            refine tk_dst (i := 19) (dst := some 57) rfl rfl (by kernel_rfl) (by kernel_rfl) (by kernel_rfl) (fun _ _ _ h => h) (v := ?_) (Or.inl ⟨by rfl, ?_⟩) (by assumption) ?_
            rotate_left
            · intro w hSw; (try dsimp only at hSw); go_simp; first | done | (with_reducible rfl)
            simp only [Act.put, List.setIfInBounds_toArray, List.set_cons_zero, List.set_cons_succ]
            refine tk_dst (i := 20) (dst := some 58) rfl rfl (by kernel_rfl) (by kernel_rfl) (by kernel_rfl) (fun _ _ _ h => h) (v := ?_) (Or.inl ⟨by rfl, ?_⟩) (by assumption) ?_
            rotate_left
            · intro w hSw; (try dsimp only at hSw); go_simp; first | done | (with_reducible rfl)
            simp only [Act.put, List.setIfInBounds_toArray, List.set_cons_zero, List.set_cons_succ]
            refine tk_dst (i := 22) (dst := some 60) rfl rfl (by kernel_rfl) (by kernel_rfl) (by kernel_rfl) (fun _ _ _ h => h) (v := ?_) (Or.inl ⟨by rfl, ?_⟩) (by assumption) ?_
            rotate_left
            · intro w hSw; (try dsimp only at hSw); go_simp; first | done | (with_reducible rfl)
            simp only [Act.put, List.setIfInBounds_toArray, List.set_cons_zero, List.set_cons_succ]
            refine wpAnyH_ready (rs := [17]) (by kernel_rfl) (by simp) ?_
            refine AllReadyH.cons rfl (fun K hK => ?_) AllReadyH.nil
            go_simp
            refine hK.out _ _ trivial (fun hHeld => ?_)
            clear hK K
            have hO6 : Own (x5.alloc (.cells #[Value.int .u8 9, Value.int .u8 2, Value.int .u8 1, Value.int .u8 1] 5)) x5.heap.size 5 (.slice (some ⟨x5.heap.size, 0, none⟩) 4 4) [9, 2, 1, 1] := Own.of_block (n := 4) (cap := 4) (fun y hy => by simp at hy; omega) rfl (heap_alloc_new x5 _) (Nat.le_refl _) (Nat.le_refl _) (by unfold maxLen; omega) rfl rfl
            have hb6 : Below x5.heap.size x5 (x5.alloc (.cells #[Value.int .u8 9, Value.int .u8 2, Value.int .u8 1, Value.int .u8 1] 5)) := (Below.refl _ _).alloc (Nat.le_refl _) _
            obtain ⟨x6, hx6⟩ : ∃ x, x5.alloc (.cells #[Value.int .u8 9, Value.int .u8 2, Value.int .u8 1, Value.int .u8 1] 5) = x := ⟨_, rfl⟩
            rw [hx6] at hO6 hb6 ⊢
            have hs6 := hb6.size
            have hr6 := (hr5.below hb6).more hs6
            clear hx6
            refine wpAnyH_ready (rs := [21]) (by kernel_rfl) (by simp) ?_
            refine AllReadyH.cons rfl (fun K hK => ?_) AllReadyH.nil
            refine step_append_at (by rfl) (.tmp 55) (.tmp 58) 29 rfl x5.heap.size 5 i0 Try.underlying29 hi hz0 hz1 hz2 _ [9, 2, 1, 1] (by rfl) hO6 _ (some ⟨bk, off, none⟩) j c5 (E.take j) (by rfl) (hr6.cut hjN) (by simp only [List.length_cons, List.length_nil]; omega) hs6 ?_
            intro v7 x7 hO7 hg7 _
            refine hK.out _ _ trivial (fun hHeld => ?_)
            clear hK K
            have hb7 := grown_below hO6 hg7 hb6 hs6
            have hs7 := hb7.size
            have hr7 := (hr5.below hb7).more hs7
            clear hO6 hg7 hb6 hr6 hs6
            refine wpAnyH_ready (rs := [23]) (by kernel_rfl) (by simp) ?_
            refine AllReadyH.cons rfl (fun K hK => ?_) AllReadyH.nil
            refine step_append_at (by rfl) (.tmp 59) (.tmp 60) 29 rfl x5.heap.size 5 i0 Try.underlying29 hi hz0 hz1 hz2 v7 _ (by rfl) hO7 _ (some ⟨bk, off, none⟩) N c5 E (by rfl) hr7 (by simp only [List.length_append, List.length_cons, List.length_nil, List.length_take, HN.out]; omega) hs7 ?_
            intro v8 x8 hO8 hg8 _
            refine hK.out _ _ trivial (fun hHeld => ?_)
            clear hK K
            have hb8 := grown_below hO7 hg8 hb7 hs7
            obtain ⟨n8, hn8⟩ : ∃ q, ([9, 2, 1, 1] ++ E.take j ++ E).length = q := ⟨_, rfl⟩
            have hn8b : n8 ≤ 1000 := by rw [← hn8]; simp only [List.length_append, List.length_cons, List.length_nil, List.length_take, HN.out]; omega
            obtain ⟨A8, c8, rfl, hl8, hm8, hr8⟩ := hO8.open_n n8 hn8
            have hnil8 := hO8.nil_cap
            clear hn8 hO7 hg8 hb7 hr7 hs7
            refine wpAnyH_ready (rs := [24]) (by kernel_rfl) (by simp) ?_
            refine AllReadyH.cons rfl (fun K hK => ?_) AllReadyH.nil
            go_simp
            go_wp2_with (go_at_call 10; refine (pdecs_any A8 n8 c8 _ _ ⟨hr8, hl8, hm8, hnil8⟩ (by omega)).mono ?_; rintro e x9 ⟨rfl, hb9⟩)
            refine hK.out _ _ trivial (fun hHeld => ?_)
            clear hK K
            have hb59 := hb8.trans (hb9.mono hb8.size)
            have hB9 := hB5.trans (hb59.mono hB5.size)
            have hP9 := hP5.of_below hb59
            have hr9 := (hr5.below hb59).more hb59.size
            clear hB5 hP5 hr5 hb59 hb9 hb8 hr8 hO8 hnil8 hl8
            refine tk_dst (i := 25) (dst := some 63) rfl rfl (by kernel_rfl) (by kernel_rfl) (by kernel_rfl) (fun _ _ _ h => h) (v := ?_) (Or.inl ⟨by rfl, ?_⟩) (by assumption) ?_
            rotate_left
            · intro w hSw; (try dsimp only at hSw); go_simp; first | done | (with_reducible rfl)
            simp only [Act.put, List.setIfInBounds_toArray, List.set_cons_zero, List.set_cons_succ]
            refine tk_dst (i := 26) (dst := some 64) rfl rfl (by kernel_rfl) (by kernel_rfl) (by kernel_rfl) (fun _ _ _ h => h) (v := ?_) (Or.inl ⟨by rfl, ?_⟩) (by assumption) ?_
            rotate_left
            · intro w hSw; (try dsimp only at hSw); go_simp; first | done | (with_reducible rfl)
            simp only [Act.put, List.setIfInBounds_toArray, List.set_cons_zero, List.set_cons_succ]
            refine wpAnyH_done (by kernel_rfl) ?_ _
            go_wp2_with fail
            go_roundw
            case rel => exact ⟨j + 1, by omega, by go_num, Lib.hid ⟨hB9, hP9, hr9⟩⟩
            case measure => simp [intOf]; omega
          · obtain rfl : j = N + 1 := by omega
            have hjI : ¬ (((N + 1 : Nat) : Int) ≤ N) := by omega
            go_wp2_with fail
            go_roundw
            case rel => exact ⟨k + 1, by omega, by go_num, Lib.hid ⟨hB, hP⟩⟩
            case measure => simp [intOf]; omega
    · obtain rfl : k = 8 := by omega
      have hnr := (lit_row wr [0, 8, 1, 2, 3, 4, 5, 6, 7, 8] (by intro y hy; simp at hy; omega) wr.heap.size rfl).resolve_right (by simp)
      have hBn : Below w.heap.size w (wr.alloc (OB [0, 8, 1, 2, 3, 4, 5, 6, 7, 8])) := hB.alloc hB.size _
      have HQ := Lib.hid (And.intro hBn hnr)
      obtain ⟨g5, hg5⟩ : ∃ x, wr.heap.size = x := ⟨_, rfl⟩
      have HQ' : Hid (Below w.heap.size w (wr.alloc (OB [0, 8, 1, 2, 3, 4, 5, 6, 7, 8])) ∧ InRow (wr.alloc (OB [0, 8, 1, 2, 3, 4, 5, 6, 7, 8])) (some ⟨g5, 0, none⟩) 10 10 [0, 8, 1, 2, 3, 4, 5, 6, 7, 8]) := Lib.hid (by rw [← hg5]; exact HQ.out)
      clear hnr hBn HQ hB hP
      rw [show ((8 : Nat) : Int) = 8 from rfl]
      go_wp2_with fail
      go_loopw [6] (fun i wq => ∃ x : Nat, x ≤ 64 ∧ i = .int .i64 x ∧ Hid (Below w.heap.size w wq ∧ InRow wq (some ⟨g5, 0, none⟩) 10 10 [0, 8, 1, 2, 3, 4, 5, 6, 7, 8])) (fun i _ => 64 - (intOf i).toNat)
      case atStart => exact ⟨0, by omega, rfl, HQ'⟩
      case round =>
        obtain ⟨x, hx, rfl, hst⟩ := hrel
        obtain ⟨wl, rfl⟩ : ∃ wl : World, wl = wr := ⟨_, rfl⟩
        have hB := hst.out.1
        have hN := hst.out.2
        clear hst HQ'
        by_cases hx64 : x < 64
        · have hxI : (x : Int) < 64 := by omega
          have hux : IntKind.u8.wrap (x : Int) = (x : Int) := by rw [IntKind.wrap_u8]; omega
          have hyr := yrows wl x (by omega) wl.heap.size rfl
          have hBy : Below w.heap.size w (((((((((wl.alloc (OB [(x : Int), 1, 5])).alloc (OB [(x : Int), 0])).alloc (OB [(x : Int), 2, 64, 5])).alloc (OB [(x : Int), 2, 5, 5])).alloc (OB [(x : Int), 8, 192, 0, 1, 0, 0, 0, 0, 0])).alloc (OB [(x : Int), 8, 192, 0, 2, 0, 0, 0, 0, 0])).alloc (OB [(x : Int), 9])).alloc (.cells ([.slice (some ⟨wl.heap.size, 0, none⟩) 3 3, .slice (some ⟨wl.heap.size + 1, 0, none⟩) 2 2, .slice (some ⟨wl.heap.size + 1 + 1, 0, none⟩) 4 4, .slice (some ⟨wl.heap.size + 1 + 1 + 1, 0, none⟩) 4 4, .slice (some ⟨wl.heap.size + 1 + 1 + 1 + 1, 0, none⟩) 10 10, .slice (some ⟨wl.heap.size + 1 + 1 + 1 + 1 + 1, 0, none⟩) 10 10, .slice (some ⟨wl.heap.size + 1 + 1 + 1 + 1 + 1 + 1, 0, none⟩) 2 2] : List Value).toArray 29))) := ((((((((hB.alloc hB.size _).alloc (by have := hB.size; simp; omega) _).alloc (by have := hB.size; simp; omega) _).alloc (by have := hB.size; simp; omega) _).alloc (by have := hB.size; simp; omega) _).alloc (by have := hB.size; simp; omega) _).alloc (by have := hB.size; simp; omega) _).alloc (by have := hB.size; simp; omega) _)
          have hNy := (((((((hN.alloc_ (OB [(x : Int), 1, 5])).alloc_ (OB [(x : Int), 0])).alloc_ (OB [(x : Int), 2, 64, 5])).alloc_ (OB [(x : Int), 2, 5, 5])).alloc_ (OB [(x : Int), 8, 192, 0, 1, 0, 0, 0, 0, 0])).alloc_ (OB [(x : Int), 8, 192, 0, 2, 0, 0, 0, 0, 0])).alloc_ (OB [(x : Int), 9])).alloc_ (.cells ([.slice (some ⟨wl.heap.size, 0, none⟩) 3 3, .slice (some ⟨wl.heap.size + 1, 0, none⟩) 2 2, .slice (some ⟨wl.heap.size + 1 + 1, 0, none⟩) 4 4, .slice (some ⟨wl.heap.size + 1 + 1 + 1, 0, none⟩) 4 4, .slice (some ⟨wl.heap.size + 1 + 1 + 1 + 1, 0, none⟩) 10 10, .slice (some ⟨wl.heap.size + 1 + 1 + 1 + 1 + 1, 0, none⟩) 10 10, .slice (some ⟨wl.heap.size + 1 + 1 + 1 + 1 + 1 + 1, 0, none⟩) 2 2] : List Value).toArray 29)
          have hgy : wl.heap.size + 1 + 1 + 1 + 1 + 1 + 1 + 1 < (((((((((wl.alloc (OB [(x : Int), 1, 5])).alloc (OB [(x : Int), 0])).alloc (OB [(x : Int), 2, 64, 5])).alloc (OB [(x : Int), 2, 5, 5])).alloc (OB [(x : Int), 8, 192, 0, 1, 0, 0, 0, 0, 0])).alloc (OB [(x : Int), 8, 192, 0, 2, 0, 0, 0, 0, 0])).alloc (OB [(x : Int), 9])).alloc (.cells ([.slice (some ⟨wl.heap.size, 0, none⟩) 3 3, .slice (some ⟨wl.heap.size + 1, 0, none⟩) 2 2, .slice (some ⟨wl.heap.size + 1 + 1, 0, none⟩) 4 4, .slice (some ⟨wl.heap.size + 1 + 1 + 1, 0, none⟩) 4 4, .slice (some ⟨wl.heap.size + 1 + 1 + 1 + 1, 0, none⟩) 10 10, .slice (some ⟨wl.heap.size + 1 + 1 + 1 + 1 + 1, 0, none⟩) 10 10, .slice (some ⟨wl.heap.size + 1 + 1 + 1 + 1 + 1 + 1, 0, none⟩) 2 2] : List Value).toArray 29))).heap.size := by simp
          have HY := Lib.hid (And.intro hBy (And.intro hNy (And.intro hyr hgy)))
          clear hBy hNy hyr hgy
          go_wp2_with fail
          go_loopw [94] (fun i wq => ∃ j : Nat, j ≤ 7 ∧ i = .int .i64 j ∧ Hid (Below w.heap.size w wq ∧ InRow wq (some ⟨g5, 0, none⟩) 10 10 [0, 8, 1, 2, 3, 4, 5, 6, 7, 8] ∧ YR wq (wl.heap.size + 1 + 1 + 1 + 1 + 1 + 1 + 1) ∧ wl.heap.size + 1 + 1 + 1 + 1 + 1 + 1 + 1 < wq.heap.size)) (fun i _ => 7 - (intOf i).toNat)
          case atStart => exact ⟨0, by omega, rfl, HY⟩
          case round =>
            obtain ⟨j, hj, rfl, hst⟩ := hrel
            obtain ⟨wq, rfl⟩ : ∃ wq : World, wq = wr := ⟨_, rfl⟩
            have hBq := hst.out.1
            have hNq := hst.out.2.1
            have hYq := hst.out.2.2.1
            have hgq := hst.out.2.2.2
            clear hst HY
            by_cases hj7 : j < 7
            · obtain ⟨A, n, c, ys, hcell, hrow, hn10⟩ := hYq j hj7
              have hjI : (j : Int) < 7 := by omega
              have hO1 : Own (wq.alloc (.cells #[] 5)) wq.heap.size 5 (.slice (some ⟨wq.heap.size, 0, none⟩) 0 0) [] := Own.of_block (n := 0) (cap := 0) Byt.nil rfl (heap_alloc_new wq _) (Nat.le_refl _) (Nat.le_refl _) (Nat.zero_le _) rfl rfl
              have hb1 : Below wq.heap.size wq (wq.alloc (.cells #[] 5)) := (Below.refl _ _).alloc (Nat.le_refl _) _
              obtain ⟨y1, hy1⟩ : ∃ y, wq.alloc (.cells #[] 5) = y := ⟨_, rfl⟩
              rw [hy1] at hO1 hb1
              have hs1 := hb1.size
              have hrow1 := (hrow.1.below hb1).more hs1
              have hyl : ys.length = n := hrow.1.1
              have HYL := Lib.hid hyl
              have hl0 : ([] : List Int).length + n ≤ 140737488355328 := by simp only [List.length_nil]; omega
              have hl1 : ([] ++ ys : List Int).length + 10 ≤ 140737488355328 := by simp only [List.nil_append]; omega
              clear hyl
              go_wp2_with (first | (at_builtin; refine wpList_append_at_g (by rfl) (.tmp 98) (.tmp 99) 29 rfl wq.heap.size 5 i0 Try.underlying29 hi hz0 hz1 hz2 _ [] rfl hO1 _ A n c ys rfl hrow1 hl0 hs1 ?_; intro v2 y2 hO2 hg2 _; have hb2 := grown_below hO1 hg2 hb1 hs1; have hs2 := hb2.size; have hN2 := (hNq.1.below hb2).more hs2) | (at_builtin; refine wpList_append_at_g (by rfl) (.tmp 100) (.tmp 101) 29 rfl wq.heap.size 5 i0 Try.underlying29 hi hz0 hz1 hz2 v2 _ rfl hO2 _ (some ⟨g5, 0, none⟩) 10 10 [0, 8, 1, 2, 3, 4, 5, 6, 7, 8] rfl hN2 hl1 hs2 ?_; intro v3 y3 hO3 hg3 _; have hb3 := grown_below hO2 hg3 hb2 hs2; obtain ⟨n3, hn3⟩ : ∃ q, ([] ++ ys ++ [0, 8, 1, 2, 3, 4, 5, 6, 7, 8] : List Int).length = q := ⟨_, rfl⟩; obtain ⟨A3, c3, rfl, hl3, hm3, hr3⟩ := hO3.open_n n3 hn3) | fail)
              have hnil3 := hO3.nil_cap
              have hn3b : n3 ≤ 1000 := by rw [← hn3]; simp only [List.length_append, List.length_cons, List.length_nil, HYL.out]; omega
              clear hO1 hO2 hg2 hg3 hb1 hb2 hs1 hs2 hN2 hrow1 hn3 hl0 hl1 hy1
              refine (pdecs_any A3 n3 c3 _ _ ⟨hr3, hl3, hm3, hnil3⟩ (by omega)).mono ?_
              rintro e y4 ⟨rfl, hb4⟩
              have hb14 := hb3.trans (hb4.mono hb3.size)
              have hB4 := hBq.trans (hb14.mono hBq.size)
              have hN4 : InRow y4 (some ⟨g5, 0, none⟩) 10 10 [0, 8, 1, 2, 3, 4, 5, 6, 7, 8] := ⟨(hNq.1.below hb14).more hb14.size, hNq.2⟩
              have hY4 := hYq.below hgq hb14
              have hrow4 : InRow y4 A n c ys := ⟨(hrow.1.below hb14).more hb14.size, hrow.2⟩
              have hg4 : wl.heap.size + 1 + 1 + 1 + 1 + 1 + 1 + 1 < y4.heap.size := Nat.lt_of_lt_of_le hgq hb14.size
              clear hBq hNq hYq hrow hgq hb14 hb4 hb3 hr3 hO3 hnil3
              have hO5 : Own (y4.alloc (.cells #[] 5)) y4.heap.size 5 (.slice (some ⟨y4.heap.size, 0, none⟩) 0 0) [] := Own.of_block (n := 0) (cap := 0) Byt.nil rfl (heap_alloc_new y4 _) (Nat.le_refl _) (Nat.le_refl _) (Nat.zero_le _) rfl rfl
              have hb5 : Below y4.heap.size y4 (y4.alloc (.cells #[] 5)) := (Below.refl _ _).alloc (Nat.le_refl _) _
              obtain ⟨y5, hy5⟩ : ∃ y, y4.alloc (.cells #[] 5) = y := ⟨_, rfl⟩
              rw [hy5] at hO5 hb5
              have hs5 := hb5.size
              have hN5 := (hN4.1.below hb5).more hs5
              have hl0 : ([] : List Int).length + 10 ≤ 140737488355328 := by simp only [List.length_nil]; omega
              have hl1 : ([] ++ [0, 8, 1, 2, 3, 4, 5, 6, 7, 8] : List Int).length + n ≤ 140737488355328 := by simp only [List.nil_append, List.length_cons, List.length_nil]; omega
              go_wp2_with (first | (at_builtin; refine wpList_append_at_g (by rfl) (.tmp 106) (.tmp 107) 29 rfl y4.heap.size 5 i0 Try.underlying29 hi hz0 hz1 hz2 _ [] rfl hO5 _ (some ⟨g5, 0, none⟩) 10 10 [0, 8, 1, 2, 3, 4, 5, 6, 7, 8] rfl hN5 hl0 hs5 ?_; intro v6 y6 hO6 hg6 _; have hb6 := grown_below hO5 hg6 hb5 hs5; have hs6 := hb6.size; have hrow6 := (hrow4.1.below hb6).more hs6) | (at_builtin; refine wpList_append_at_g (by rfl) (.tmp 108) (.tmp 109) 29 rfl y4.heap.size 5 i0 Try.underlying29 hi hz0 hz1 hz2 v6 _ rfl hO6 _ A n c ys rfl hrow6 hl1 hs6 ?_; intro v7 y7 hO7 hg7 _; have hb7 := grown_below hO6 hg7 hb6 hs6; obtain ⟨n7, hn7⟩ : ∃ q, ([] ++ [0, 8, 1, 2, 3, 4, 5, 6, 7, 8] ++ ys : List Int).length = q := ⟨_, rfl⟩; obtain ⟨A7, c7, rfl, hl7, hm7, hr7⟩ := hO7.open_n n7 hn7) | fail)
              have hnil7 := hO7.nil_cap
              have hn7b : n7 ≤ 1000 := by rw [← hn7]; simp only [List.length_append, List.length_cons, List.length_nil, HYL.out]; omega
              clear hO5 hO6 hg6 hg7 hb5 hb6 hs5 hs6 hN5 hrow6 hn7 hl0 hl1 hy5
              refine (pdecs_any A7 n7 c7 _ _ ⟨hr7, hl7, hm7, hnil7⟩ (by omega)).mono ?_
              rintro e y8 ⟨rfl, hb8⟩
              have hb48 := hb7.trans (hb8.mono hb7.size)
              have hB8 := hB4.trans (hb48.mono hB4.size)
              have hN8 : InRow y8 (some ⟨g5, 0, none⟩) 10 10 [0, 8, 1, 2, 3, 4, 5, 6, 7, 8] := ⟨(hN4.1.below hb48).more hb48.size, hN4.2⟩
              have hY8 := hY4.below hg4 hb48
              have hg8 : wl.heap.size + 1 + 1 + 1 + 1 + 1 + 1 + 1 < y8.heap.size := Nat.lt_of_lt_of_le hg4 hb48.size
              clear hB4 hN4 hY4 hrow4 hg4 hb48 hb8 hb7 hr7 hO7 hnil7
              go_wp2_with fail
              go_roundw
              case rel => exact ⟨j + 1, by omega, by go_num, Lib.hid ⟨hB8, hN8, hY8, hg8⟩⟩
              case measure => simp [intOf]; omega
            · obtain rfl : j = 7 := by omega
              rw [show ((7 : Nat) : Int) = 7 from rfl]
              go_wp2_with fail
              go_roundw
              case rel => exact ⟨x + 1, by omega, by go_num, Lib.hid ⟨hBq, hNq⟩⟩
              case measure => simp [intOf]; omega
        · obtain rfl : x = 64 := by omega
          rw [show ((64 : Nat) : Int) = 64 from rfl]
          go_wp2_with fail
          refine (paknown_any _).mono ?_
          rintro e w9 ⟨rfl, hb9⟩
          go_wp2_with fail
          go_ret
          exact ⟨rfl, hB.trans (hb9.mono hB.size)⟩
end Go.Proofs.Ythpcfcnkpipmnaa
