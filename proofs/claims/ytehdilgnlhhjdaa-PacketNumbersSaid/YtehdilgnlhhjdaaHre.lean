/-
  The document's own Encode of a head (narthexref5).
-/
import Derived.Test.YtehdilgnlhhjdaaMq12
import Derived.Test.YtehdilgnlhhjdaaMq8
import Derived.Test.YtehdilgnlhhjdaaMq16
import Derived.Deep.AppendLies
namespace Go.Proofs.Ytehdilgnlhhjdaa
set_option linter.unusedVariables false
set_option linter.unusedSimpArgs false
open Go.RowKit
/-- append of a row that is not empty, as a step of a region that draws its order. -/
theorem step_append_b {P : Program} {ops : Array Oper} {o : Oper} {a : Act} {w : World} {K : Act → World → Prop} {Q : Exit → Act → World → Prop} {E : Prop} (hgd : o.guard = none) (s x : Operand) (t : TypeId)
    (ho : o.op = .call { callee := .builtin .append, args := #[s, x], argTypes := #[t, t] })
    (base : Nat) (e : TypeId) (i : TypeInfo) (ht : P.underlying t = some (.slice e)) (hi : P.info? e = some i) (hz : i.zero = some (.int .u8 0)) (hsize : i.size = 1) (hby : i.bytes = 1)
    (v : Value) (bs : List Int) (hs : a.eval s = v) (hown : Own w base e v bs) (B : Nat) (A : Option Addr) (m c : Nat) (news : List Int) (hx : a.eval x = .slice A m c) (hr : Rd w B A m news) (hm : 0 < m)
    (hlen : bs.length + m ≤ 140737488355328) (w0 : World) (hb : Below base w0 w) (hbase : base ≤ w.heap.size)
    (h : ∀ v' w', Own w' base e v' (bs ++ news) → Below base w0 w' → w.grownBy w' v.ownBlock → K (a.put o.dst v') w') :
    if Region.wanted o (yielded ops a.tmps) = true then Oper.wp P o a w K Q else E := by
  obtain ⟨ad, rfl, hc⟩ := hr.cells hm
  refine step_append_lies w hgd s x t ho base e i (.int .u8 0) 1 1 ht hi hz hsize hby rfl (by decide) v bs.length (bs.map (Value.int .u8)) hs hown.1 ad m c (news.map (Value.int .u8)) hx (by simp [hr.1]) hc (oneCell_u8 news) hm (by unfold maxLen; omega) (by omega) hbase _ rfl ?_
  intro g cap w' h2 h3 _ _
  refine h _ _ ⟨?_, hown.2.app hr.2.1⟩ (hb.grown h3 hbase fun k hk => (hown.block_lt k hk).1) h3
  rw [List.map_append, List.length_append, hr.1]
  exact h2
def REPost (w : World) (bs : List Int) (e : Ending) (w' : World) : Prop := ∃ v, e = .returned v ∧ Own w' w.heap.size 5 v bs ∧ Below w.heap.size w w' 
set_option maxRecDepth 100000 in
set_option maxHeartbeats 1000000 in
theorem rhenc_2t (P : Nat → Prop) (m : HN) (d : Sl) (tok : List Int) (n : Int) (w : World) (hf : HFits w P m d tok) (htl : tok.length ≤ 32) (hs : m.s = 2) (hph : m.ph = true) (r3 : 1 ≤ m.w) (r4 : m.w ≤ 4) (hn0 : 0 ≤ n) (hn1 : n ≤ 16383) :
    Calls Try.prog 21 #[hdV m d, .int .i64 n] w (REPost w (hencS m tok n)) := by
  obtain ⟨i0, hi, hz0, hz1, hz2⟩ := info_parts u8_info
  obtain ⟨hwf, hdt⟩ := hf
  have htb := hwf.tb
  have hfb := hwf.fb
  have hB0 : Below w.heap.size w (w.alloc (.cells (hdL m d).toArray 30)) := (Below.refl _ _).alloc (Nat.le_refl _) _
  have hA0 : At (w.alloc (.cells (hdL m d).toArray 30)) w.heap.size 30 (hdL m d) := At.new w _ _
  have hE : hencS m tok n = [64 + m.w - 1 + 4] ++ m.t.l := by unfold hencS hfirst; rw [if_pos hs, if_pos hs, hph]; simp only [if_true]; show _ = (64 + m.w - 1 + 4) :: m.t.l; congr 1; omega
  obtain ⟨L, hL⟩ : ∃ L, hdL m d = L := ⟨_, rfl⟩
  have hto : ∀ W : World, At W w.heap.size 30 L → Rd W W.heap.size (some ⟨w.heap.size, 1, none⟩) 8 m.t.l := fun W hW => to_rd m d (by rw [hL]; exact hW) htb
  have hfr : ∀ W : World, At W w.heap.size 30 L → Rd W W.heap.size (some ⟨w.heap.size, 9, none⟩) 8 m.f.l := fun W hW => from_rd m d (by rw [hL]; exact hW) hfb
  have hLl : L.length = 20 := by rw [← hL]; rfl
  have hfv : hdV m d = .agg L.toArray := by rw [← hL]; rfl
  have hl0 : L[0]? = some (.int .i64 m.s) := by rw [← hL]; rfl
  have hl17 : L[17]? = some (.slice d.A d.n d.c) := by rw [← hL]; rfl
  have hl4 : L[18]? = some (.int .i64 m.w) := by rw [← hL]; rfl
  have hl5 : L[19]? = some (.bool m.ph) := by rw [← hL]; rfl
  rw [hL] at hA0 hB0
  rw [hfv]
  rw [hs] at hl0
  rw [hph] at hl5
  obtain ⟨wd, hwd⟩ : ∃ x, m.w = x := ⟨_, rfl⟩
  rw [hwd] at hl4 r3 r4 hE
  obtain ⟨ts, hts⟩ : ∃ x, m.t.l = x := ⟨_, rfl⟩
  obtain ⟨fs, hfs⟩ : ∃ x, m.f.l = x := ⟨_, rfl⟩
  have ht8 : textB m.t.l = 8 :: m.t.l := textB8 m.t
  have hf8 : textB m.f.l = 8 :: m.f.l := textB8 m.f
  rw [hts] at hto hE ht8
  rw [hfs] at hfr hf8
  obtain ⟨E, hEE⟩ : ∃ x, hencS m tok n = x := ⟨_, rfl⟩
  rw [hEE] at hE ⊢
  have e0 := (hA0.cell 0).trans hl0
  have e4 := (hA0.cell 18).trans hl4
  have e5 := (hA0.cell 19).trans hl5
  have HTO := Lib.hid hto
  have HFR := Lib.hid hfr
  have HL0 := Lib.hid hl0
  have HL17 := Lib.hid hl17
  have HE := Lib.hid hE
  have HDT := Lib.hid hdt
  clear hL hfv hl0 hl17 hl4 hl5 hs hto hfr hts hfs ht8 hf8 hEE hE hdt hwf htb hfb hwd hph
  obtain ⟨dA, dn, dc⟩ := d
  have hdn : dn ≤ 32 := by have e : tok.length = dn := HDT.out.rd.1.1; omega
  have hs0 : (w.alloc (.cells L.toArray 30)).heap.size = w.heap.size + 1 := by simp
  have hbx : Byt [64 + wd - 1 + 4] := fun y hy => by simp at hy; omega
  have hown : Own ((w.alloc (.cells L.toArray 30)).alloc (.cells (([64 + wd - 1 + 4] : List Int).map (Value.int .u8)).toArray 5)) (w.heap.size + 1) 5 (.slice (some ⟨w.heap.size + 1, 0, none⟩) 1 1) [64 + wd - 1 + 4] :=
    Own.of_block (n := 1) (cap := 1) hbx rfl (by have := heap_alloc_new (w.alloc (.cells L.toArray 30)) (.cells (([64 + wd - 1 + 4] : List Int).map (Value.int .u8)).toArray 5); rw [hs0] at this; exact this) (Nat.le_refl _) (Nat.le_refl _) (by unfold maxLen; omega) rfl rfl
  have hA1 := hA0.alloc (.cells (([64 + wd - 1 + 4] : List Int).map (Value.int .u8)).toArray 5)
  have hB1 := hB0.alloc (by omega) (.cells (([64 + wd - 1 + 4] : List Int).map (Value.int .u8)).toArray 5)
  have hs1 : ((w.alloc (.cells L.toArray 30)).alloc (.cells (([64 + wd - 1 + 4] : List Int).map (Value.int .u8)).toArray 5)).heap.size = w.heap.size + 2 := by simp
  obtain ⟨w1, hw1⟩ : ∃ x, (w.alloc (.cells L.toArray 30)).alloc (.cells (([64 + wd - 1 + 4] : List Int).map (Value.int .u8)).toArray 5) = x := ⟨_, rfl⟩
  rw [hw1] at hown hA1 hB1 hs1
  clear hA0 hB0 hs0 hbx
  go_enter Try.func21, Try.ntmps21
  go_wp2_with (at_builtin; change wpList _ _ _ _ _ ((w.alloc (.cells L.toArray 30)).alloc (.cells (([64 + wd - 1 + 4] : List Int).map (Value.int .u8)).toArray 5)); rw [hw1]; refine wpList_append_rd rfl (.tmp 20) (.tmp 22) 28 rfl (w.heap.size + 1) 5 i0 Try.underlying28 hi hz0 hz1 hz2 _ _ rfl hown _ (some ⟨w.heap.size, 1, none⟩) 8 8 ts rfl (HTO.out _ hA1) (by simp only [List.length_cons, List.length_nil]; omega) w1 (Below.refl _ _) (by omega) ?_; intro v2 w2 hown2 hb2 hgr2)
  go_ret
  refine ⟨_, rfl, (hown2.cast HE.out.symm).base_ (by omega), hB1.trans (hb2.mono (by omega))⟩
set_option maxRecDepth 100000 in
set_option maxHeartbeats 1000000 in
theorem rhenc_2f (P : Nat → Prop) (m : HN) (d : Sl) (tok : List Int) (n : Int) (w : World) (hf : HFits w P m d tok) (htl : tok.length ≤ 32) (hs : m.s = 2) (hph : m.ph = false) (r3 : 1 ≤ m.w) (r4 : m.w ≤ 4) (hn0 : 0 ≤ n) (hn1 : n ≤ 16383) :
    Calls Try.prog 21 #[hdV m d, .int .i64 n] w (REPost w (hencS m tok n)) := by
  obtain ⟨i0, hi, hz0, hz1, hz2⟩ := info_parts u8_info
  obtain ⟨hwf, hdt⟩ := hf
  have htb := hwf.tb
  have hfb := hwf.fb
  have hB0 : Below w.heap.size w (w.alloc (.cells (hdL m d).toArray 30)) := (Below.refl _ _).alloc (Nat.le_refl _) _
  have hA0 : At (w.alloc (.cells (hdL m d).toArray 30)) w.heap.size 30 (hdL m d) := At.new w _ _
  have hE : hencS m tok n = [64 + m.w - 1] ++ m.t.l := by unfold hencS hfirst; rw [if_pos hs, if_pos hs, hph]; simp only [Bool.false_eq_true, if_false]; show _ = (64 + m.w - 1) :: m.t.l; congr 1; omega
  obtain ⟨L, hL⟩ : ∃ L, hdL m d = L := ⟨_, rfl⟩
  have hto : ∀ W : World, At W w.heap.size 30 L → Rd W W.heap.size (some ⟨w.heap.size, 1, none⟩) 8 m.t.l := fun W hW => to_rd m d (by rw [hL]; exact hW) htb
  have hfr : ∀ W : World, At W w.heap.size 30 L → Rd W W.heap.size (some ⟨w.heap.size, 9, none⟩) 8 m.f.l := fun W hW => from_rd m d (by rw [hL]; exact hW) hfb
  have hLl : L.length = 20 := by rw [← hL]; rfl
  have hfv : hdV m d = .agg L.toArray := by rw [← hL]; rfl
  have hl0 : L[0]? = some (.int .i64 m.s) := by rw [← hL]; rfl
  have hl17 : L[17]? = some (.slice d.A d.n d.c) := by rw [← hL]; rfl
  have hl4 : L[18]? = some (.int .i64 m.w) := by rw [← hL]; rfl
  have hl5 : L[19]? = some (.bool m.ph) := by rw [← hL]; rfl
  rw [hL] at hA0 hB0
  rw [hfv]
  rw [hs] at hl0
  rw [hph] at hl5
  obtain ⟨wd, hwd⟩ : ∃ x, m.w = x := ⟨_, rfl⟩
  rw [hwd] at hl4 r3 r4 hE
  obtain ⟨ts, hts⟩ : ∃ x, m.t.l = x := ⟨_, rfl⟩
  obtain ⟨fs, hfs⟩ : ∃ x, m.f.l = x := ⟨_, rfl⟩
  have ht8 : textB m.t.l = 8 :: m.t.l := textB8 m.t
  have hf8 : textB m.f.l = 8 :: m.f.l := textB8 m.f
  rw [hts] at hto hE ht8
  rw [hfs] at hfr hf8
  obtain ⟨E, hEE⟩ : ∃ x, hencS m tok n = x := ⟨_, rfl⟩
  rw [hEE] at hE ⊢
  have e0 := (hA0.cell 0).trans hl0
  have e4 := (hA0.cell 18).trans hl4
  have e5 := (hA0.cell 19).trans hl5
  have HTO := Lib.hid hto
  have HFR := Lib.hid hfr
  have HL0 := Lib.hid hl0
  have HL17 := Lib.hid hl17
  have HE := Lib.hid hE
  have HDT := Lib.hid hdt
  clear hL hfv hl0 hl17 hl4 hl5 hs hto hfr hts hfs ht8 hf8 hEE hE hdt hwf htb hfb hwd hph
  obtain ⟨dA, dn, dc⟩ := d
  have hdn : dn ≤ 32 := by have e : tok.length = dn := HDT.out.rd.1.1; omega
  have hs0 : (w.alloc (.cells L.toArray 30)).heap.size = w.heap.size + 1 := by simp
  have hbx : Byt [64 + wd - 1] := fun y hy => by simp at hy; omega
  have hown : Own ((w.alloc (.cells L.toArray 30)).alloc (.cells (([64 + wd - 1] : List Int).map (Value.int .u8)).toArray 5)) (w.heap.size + 1) 5 (.slice (some ⟨w.heap.size + 1, 0, none⟩) 1 1) [64 + wd - 1] :=
    Own.of_block (n := 1) (cap := 1) hbx rfl (by have := heap_alloc_new (w.alloc (.cells L.toArray 30)) (.cells (([64 + wd - 1] : List Int).map (Value.int .u8)).toArray 5); rw [hs0] at this; exact this) (Nat.le_refl _) (Nat.le_refl _) (by unfold maxLen; omega) rfl rfl
  have hA1 := hA0.alloc (.cells (([64 + wd - 1] : List Int).map (Value.int .u8)).toArray 5)
  have hB1 := hB0.alloc (by omega) (.cells (([64 + wd - 1] : List Int).map (Value.int .u8)).toArray 5)
  have hs1 : ((w.alloc (.cells L.toArray 30)).alloc (.cells (([64 + wd - 1] : List Int).map (Value.int .u8)).toArray 5)).heap.size = w.heap.size + 2 := by simp
  obtain ⟨w1, hw1⟩ : ∃ x, (w.alloc (.cells L.toArray 30)).alloc (.cells (([64 + wd - 1] : List Int).map (Value.int .u8)).toArray 5) = x := ⟨_, rfl⟩
  rw [hw1] at hown hA1 hB1 hs1
  clear hA0 hB0 hs0 hbx
  go_enter Try.func21, Try.ntmps21
  go_wp2_with (at_builtin; change wpList _ _ _ _ _ ((w.alloc (.cells L.toArray 30)).alloc (.cells (([64 + wd - 1] : List Int).map (Value.int .u8)).toArray 5)); rw [hw1]; refine wpList_append_rd rfl (.tmp 20) (.tmp 22) 28 rfl (w.heap.size + 1) 5 i0 Try.underlying28 hi hz0 hz1 hz2 _ _ rfl hown _ (some ⟨w.heap.size, 1, none⟩) 8 8 ts rfl (HTO.out _ hA1) (by simp only [List.length_cons, List.length_nil]; omega) w1 (Below.refl _ _) (by omega) ?_; intro v2 w2 hown2 hb2 hgr2)
  go_ret
  refine ⟨_, rfl, (hown2.cast HE.out.symm).base_ (by omega), hB1.trans (hb2.mono (by omega))⟩
set_option maxRecDepth 100000 in
set_option maxHeartbeats 1000000 in
theorem rhenc_0 (P : Nat → Prop) (m : HN) (d : Sl) (tok : List Int) (n : Int) (w : World) (hf : HFits w P m d tok) (htl : tok.length ≤ 32) (hs : m.s = 0) (r3 : 1 ≤ m.w) (r4 : m.w ≤ 4) (hn0 : 0 ≤ n) (hn1 : n ≤ 16383) :
    Calls Try.prog 21 #[hdV m d, .int .i64 n] w (REPost w (hencS m tok n)) := by
  obtain ⟨i0, hi, hz0, hz1, hz2⟩ := info_parts u8_info
  obtain ⟨hwf, hdt⟩ := hf
  have htb := hwf.tb
  have hfb := hwf.fb
  have hB0 : Below w.heap.size w (w.alloc (.cells (hdL m d).toArray 30)) := (Below.refl _ _).alloc (Nat.le_refl _) _
  have hA0 : At (w.alloc (.cells (hdL m d).toArray 30)) w.heap.size 30 (hdL m d) := At.new w _ _
  have hE := henc_long m tok n (by omega) []
  rw [List.nil_append, hs, if_pos rfl, show hfirst m = 192 + m.w - 1 by unfold hfirst; rw [if_neg (by omega), hs]; omega] at hE
  obtain ⟨L, hL⟩ : ∃ L, hdL m d = L := ⟨_, rfl⟩
  have hto : ∀ W : World, At W w.heap.size 30 L → Rd W W.heap.size (some ⟨w.heap.size, 1, none⟩) 8 m.t.l := fun W hW => to_rd m d (by rw [hL]; exact hW) htb
  have hfr : ∀ W : World, At W w.heap.size 30 L → Rd W W.heap.size (some ⟨w.heap.size, 9, none⟩) 8 m.f.l := fun W hW => from_rd m d (by rw [hL]; exact hW) hfb
  have hLl : L.length = 20 := by rw [← hL]; rfl
  have hfv : hdV m d = .agg L.toArray := by rw [← hL]; rfl
  have hl0 : L[0]? = some (.int .i64 m.s) := by rw [← hL]; rfl
  have hl17 : L[17]? = some (.slice d.A d.n d.c) := by rw [← hL]; rfl
  have hl4 : L[18]? = some (.int .i64 m.w) := by rw [← hL]; rfl
  have hl5 : L[19]? = some (.bool m.ph) := by rw [← hL]; rfl
  rw [hL] at hA0 hB0
  rw [hfv]
  rw [hs] at hl0
  obtain ⟨wd, hwd⟩ : ∃ x, m.w = x := ⟨_, rfl⟩
  rw [hwd] at hl4 r3 r4 hE
  obtain ⟨ts, hts⟩ : ∃ x, m.t.l = x := ⟨_, rfl⟩
  obtain ⟨fs, hfs⟩ : ∃ x, m.f.l = x := ⟨_, rfl⟩
  have ht8 : textB m.t.l = 8 :: m.t.l := textB8 m.t
  have hf8 : textB m.f.l = 8 :: m.f.l := textB8 m.f
  rw [hts] at hto hE ht8
  rw [hfs] at hfr hf8
  rw [hfs] at hE
  rw [ht8, hf8, twoB_0, twoB_1] at hE
  obtain ⟨E, hEE⟩ : ∃ x, hencS m tok n = x := ⟨_, rfl⟩
  rw [hEE] at hE ⊢
  have e0 := (hA0.cell 0).trans hl0
  have e4 := (hA0.cell 18).trans hl4
  have e5 := (hA0.cell 19).trans hl5
  have HTO := Lib.hid hto
  have HFR := Lib.hid hfr
  have HL0 := Lib.hid hl0
  have HL17 := Lib.hid hl17
  have HE := Lib.hid hE
  have HDT := Lib.hid hdt
  clear hL hfv hl0 hl17 hl4 hl5 hs hto hfr hts hfs ht8 hf8 hEE hE hdt hwf htb hfb hwd
  obtain ⟨dA, dn, dc⟩ := d
  have hdn : dn ≤ 32 := by have e : tok.length = dn := HDT.out.rd.1.1; omega
  have hs0 : (w.alloc (.cells L.toArray 30)).heap.size = w.heap.size + 1 := by simp
  have hbx : Byt [192 + wd - 1, 0, 0, 0, 1, 8] := fun y hy => by simp at hy; omega
  have hown : Own ((w.alloc (.cells L.toArray 30)).alloc (.cells (([192 + wd - 1, 0, 0, 0, 1, 8] : List Int).map (Value.int .u8)).toArray 5)) (w.heap.size + 1) 5 (.slice (some ⟨w.heap.size + 1, 0, none⟩) 6 6) [192 + wd - 1, 0, 0, 0, 1, 8] :=
    Own.of_block (n := 6) (cap := 6) hbx rfl (by have := heap_alloc_new (w.alloc (.cells L.toArray 30)) (.cells (([192 + wd - 1, 0, 0, 0, 1, 8] : List Int).map (Value.int .u8)).toArray 5); rw [hs0] at this; exact this) (Nat.le_refl _) (Nat.le_refl _) (by unfold maxLen; omega) rfl rfl
  have hA1 := hA0.alloc (.cells (([192 + wd - 1, 0, 0, 0, 1, 8] : List Int).map (Value.int .u8)).toArray 5)
  have hB1 := hB0.alloc (by omega) (.cells (([192 + wd - 1, 0, 0, 0, 1, 8] : List Int).map (Value.int .u8)).toArray 5)
  have hs1 : ((w.alloc (.cells L.toArray 30)).alloc (.cells (([192 + wd - 1, 0, 0, 0, 1, 8] : List Int).map (Value.int .u8)).toArray 5)).heap.size = w.heap.size + 2 := by simp
  obtain ⟨w1, hw1⟩ : ∃ x, (w.alloc (.cells L.toArray 30)).alloc (.cells (([192 + wd - 1, 0, 0, 0, 1, 8] : List Int).map (Value.int .u8)).toArray 5) = x := ⟨_, rfl⟩
  rw [hw1] at hown hA1 hB1 hs1
  clear hA0 hB0 hs0 hbx
  go_enter Try.func21, Try.ntmps21
  go_wp2_with fail
  change (Code.region _ _ _).wp _ _ _ ((w.alloc (.cells L.toArray 30)).alloc (.cells (([192 + wd - 1, 0, 0, 0, 1, 8] : List Int).map (Value.int .u8)).toArray 5))
  rw [hw1]
  clear hw1 e0 e4 e5
  have hown := hown.drew
  have hA1 := hA1.drew
  have hB1 : Below w.heap.size w w1.drew := belowN hB1 1
  have hs1 : w1.drew.heap.size = w.heap.size + 2 := hs1
  obtain ⟨wd1, hwd1⟩ : ∃ x, w1.drew = x := ⟨_, rfl⟩
  refine wp_region_held_drew (S := fun _ => True) (by kernel_rfl) (trivial) (fun hHeld => ?_)
  rw [hwd1] at hown hA1 hB1 hs1 ⊢
  clear hwd1
  refine tk_dst (i := 0) (dst := some 34) rfl rfl (by kernel_rfl) (by kernel_rfl) (by kernel_rfl) (fun _ _ _ h => h) (v := ?_) (Or.inl ⟨by rfl, ?_⟩) (by assumption) ?_
  rotate_left
  · intro w hSw; (try dsimp only at hSw); go_simp; first | done | (with_reducible rfl)
  simp only [Act.put, List.setIfInBounds_toArray, List.set_cons_zero, List.set_cons_succ]
  refine tk_dst (i := 1) (dst := some 35) rfl rfl (by kernel_rfl) (by kernel_rfl) (by kernel_rfl) (fun _ _ _ h => h) (v := ?_) (Or.inl ⟨by rfl, ?_⟩) (by assumption) ?_
  rotate_left
  · intro w hSw; (try dsimp only at hSw); go_simp; first | done | (with_reducible rfl)
  simp only [Act.put, List.setIfInBounds_toArray, List.set_cons_zero, List.set_cons_succ]
  refine tk_dst (i := 2) (dst := some 36) rfl rfl (by kernel_rfl) (by kernel_rfl) (by kernel_rfl) (fun _ _ _ h => h) (v := ?_) (Or.inl ⟨by rfl, ?_⟩) (by assumption) ?_
  rotate_left
  · intro w hSw; (try dsimp only at hSw); go_simp; first | done | (with_reducible rfl)
  simp only [Act.put, List.setIfInBounds_toArray, List.set_cons_zero, List.set_cons_succ]
  refine tk_dst (i := 6) (dst := some 40) rfl rfl (by kernel_rfl) (by kernel_rfl) (by kernel_rfl) (fun _ _ _ h => h) (v := ?_) (Or.inl ⟨by rfl, ?_⟩) (by assumption) ?_
  rotate_left
  · intro w hSw; (try dsimp only at hSw); go_simp; first | done | (with_reducible rfl)
  simp only [Act.put, List.setIfInBounds_toArray, List.set_cons_zero, List.set_cons_succ]
  refine tk_dst (i := 7) (dst := some 41) rfl rfl (by kernel_rfl) (by kernel_rfl) (by kernel_rfl) (fun _ _ _ h => h) (v := ?_) (Or.inl ⟨by rfl, ?_⟩) (by assumption) ?_
  rotate_left
  · intro w hSw; (try dsimp only at hSw); go_simp; first | done | (with_reducible rfl)
  simp only [Act.put, List.setIfInBounds_toArray, List.set_cons_zero, List.set_cons_succ]
  refine wpAnyH_ready (rs := [3, 4]) (by kernel_rfl) (by simp) ?_
  refine AllReadyH.cons rfl (fun K hK => ?_) (AllReadyH.cons rfl (fun K hK => ?_) AllReadyH.nil)
  · skip
    have hts8 : ts.length = 8 := (HTO.out _ hA1).1
    have hfs8 : fs.length = 8 := (HFR.out _ hA1).1
    have hAd := hA1
    have hBd := hB1
    refine step_append_b rfl (.tmp 34) (.tmp 36) 28 rfl (w.heap.size + 1) 5 i0 Try.underlying28 hi hz0 hz1 hz2 _ _ rfl hown _ (some ⟨w.heap.size, 1, none⟩) 8 8 ts rfl (HTO.out _ hA1) (by decide) (by simp only [List.length_append, List.length_cons, List.length_nil]; omega) wd1 (Below.refl _ _) (by omega) ?_
    intro v2 w2 hown2 hb2 hgr2
    refine hK.out _ _ (trivial) (fun hHeld => ?_)
    clear hK K hgr2
    have hs2 := hb2.size
    refine wpAnyH_ready (rs := [4]) (by kernel_rfl) (by simp) ?_
    refine AllReadyH.cons rfl (fun K hK => ?_) AllReadyH.nil
    go_simp
    refine hK.out _ _ (trivial) (fun hHeld => ?_)
    clear hK K
    have hrd : Rd (w2.alloc (.cells #[Value.int .u8 8] 5)) (w2.heap.size + 1) (some ⟨w2.heap.size, 0, none⟩) 1 [8] := Rd.byte w2 5 _ rfl 8 (by decide)
    have hown3 := hown2.alloc (.cells #[Value.int .u8 8] 5)
    have hb3 := hb2.alloc (by omega) (.cells #[Value.int .u8 8] 5)
    have hs3 := hb3.size
    refine wpAnyH_ready (rs := [5]) (by kernel_rfl) (by simp) ?_
    refine AllReadyH.cons rfl (fun K hK => ?_) AllReadyH.nil
    refine step_append_b rfl (.tmp 37) (.tmp 38) 28 rfl (w.heap.size + 1) 5 i0 Try.underlying28 hi hz0 hz1 hz2 _ _ rfl hown3 _ _ 1 1 [8] rfl hrd (by decide) (by simp only [List.length_append, List.length_cons, List.length_nil]; omega) wd1 hb3 (by omega) ?_
    intro v4 w4 hown4 hb4 hgr4
    refine hK.out _ _ (trivial) (fun hHeld => ?_)
    clear hK K hgr4 hrd hown3 hb3 hs3 hown2 hb2 hs2
    have hA5 := hA1.below hb4 (by omega)
    have hB5 := hB1.trans (hb4.mono (by omega))
    have hs5 := hb4.size
    have hown5 := hown4
    clear hown hA1 hB1
    refine wpAnyH_ready (rs := [8]) (by kernel_rfl) (by simp) ?_
    refine AllReadyH.cons rfl (fun K hK => ?_) AllReadyH.nil
    refine step_append_b rfl (.tmp 39) (.tmp 41) 28 rfl (w.heap.size + 1) 5 i0 Try.underlying28 hi hz0 hz1 hz2 _ _ rfl hown5 _ (some ⟨w.heap.size, 9, none⟩) 8 8 fs rfl (HFR.out _ hA5) (by decide) (by simp only [List.length_append, List.length_cons, List.length_nil]; omega) wd1 hb4 (by omega) ?_
    intro v6 w6 hown6 hb6 hgr6
    refine hK.out _ _ (trivial) (fun hHeld => ?_)
    clear hK K hgr6
    refine tk_dst (i := 9) (dst := some 6) rfl rfl (by kernel_rfl) (by kernel_rfl) (by kernel_rfl) (fun _ _ _ h => h) (v := ?_) (Or.inl ⟨by rfl, ?_⟩) (by assumption) ?_
    rotate_left
    · intro w hSw; (try dsimp only at hSw); go_simp; first | done | (with_reducible rfl)
    simp only [Act.put, List.setIfInBounds_toArray, List.set_cons_zero, List.set_cons_succ]
    refine wpAnyH_done (by kernel_rfl) ?_ _
    have hA6 := hAd.below hb6 (by omega)
    have hB6 := hBd.trans (hb6.mono (by omega))
    have hs6 := hb6.size
    have e0 := (hA6.cell 0).trans HL0.out
    obtain ⟨bs6, hbs6⟩ : ∃ x, [192 + wd - 1, 0, 0, 0, 1, 8] ++ ts ++ [8] ++ fs = x := ⟨_, rfl⟩
    have hl6 : bs6.length ≤ 1000 := by rw [← hbs6]; simp only [List.length_append, List.length_cons, List.length_nil]; omega
    rw [hbs6] at hown6
    have HE6 := Lib.hid hbs6
    clear hbs6
    obtain ⟨n6, hn6⟩ : ∃ x, bs6.length = x := ⟨_, rfl⟩
    rw [hn6] at hl6
    obtain ⟨A6, c6, rfl, p1, p2, p3⟩ := hown6.open_n n6 hn6
    have e17 := (hA6.cell 17).trans HL17.out
    have hrow := (HDT.out.kept (Kept.of_below hB6 (fun _ => False)) (fun _ _ h => h)).rd.1
    go_wp2_with fail
    refine (rtext2_any A6 n6 c6 bs6 dA dn dc tok w6 p3 hrow (by omega) (by omega)).mono ?_
    rintro e w7 ⟨v7, rfl, hown7, hb7⟩
    have hB7 := hB6.trans (hb7.mono hB6.size)
    have hl7 : (bs6 ++ textB tok).length ≤ 2000 := by have := textB_le tok; have e : tok.length = dn := HDT.out.rd.1.1; simp only [List.length_append]; omega
    obtain ⟨n7, hn7⟩ : ∃ x, (bs6 ++ textB tok).length = x := ⟨_, rfl⟩
    rw [hn7] at hl7
    obtain ⟨A7, c7, rfl, q1, q2, q3⟩ := hown7.open_n n7 hn7
    clear e17 e0
    go_wp2_with fail
    refine (rtwo2_any A7 n7 c7 _ (16384 + n) w7 q3 (by omega) (by omega) (by omega)).mono ?_
    rintro e w8 ⟨v8, rfl, hown8, hb8⟩
    go_wp2_with fail
    go_ret
    refine ⟨v8, rfl, (hown8.cast ?_).base_ hB7.size, hB7.trans (hb8.mono hB7.size)⟩
    rw [HE.out, ← HE6.out]
    simp
  · skip
    have hts8 : ts.length = 8 := (HTO.out _ hA1).1
    have hfs8 : fs.length = 8 := (HFR.out _ hA1).1
    have hAd := hA1
    have hBd := hB1
    go_simp
    refine hK.out _ _ (trivial) (fun hHeld => ?_)
    clear hK K
    have hrd : Rd (wd1.alloc (.cells #[Value.int .u8 8] 5)) (wd1.heap.size + 1) (some ⟨wd1.heap.size, 0, none⟩) 1 [8] := Rd.byte wd1 5 _ rfl 8 (by decide)
    have hrp : RdP (wd1.alloc (.cells #[Value.int .u8 8] 5)) (fun b => b = wd1.heap.size) (some ⟨wd1.heap.size, 0, none⟩) 1 [8] := ⟨by simpa using hrd, fun b off _ e => by injection e with e; injection e with e; exact e.symm⟩
    have hownA := hown.alloc (.cells #[Value.int .u8 8] 5)
    have hAA := hA1.alloc (.cells #[Value.int .u8 8] 5)
    have hbA : Below (w.heap.size + 1) wd1 (wd1.alloc (.cells #[Value.int .u8 8] 5)) := (Below.refl _ _).alloc (by omega) _
    have hsA := hbA.size
    clear hrd
    refine wpAnyH_ready (rs := [3]) (by kernel_rfl) (by simp) ?_
    refine AllReadyH.cons rfl (fun K hK => ?_) AllReadyH.nil
    refine step_append_b rfl (.tmp 34) (.tmp 36) 28 rfl (w.heap.size + 1) 5 i0 Try.underlying28 hi hz0 hz1 hz2 _ _ rfl hownA _ (some ⟨w.heap.size, 1, none⟩) 8 8 ts rfl (HTO.out _ hAA) (by decide) (by simp only [List.length_append, List.length_cons, List.length_nil]; omega) wd1 hbA (by omega) ?_
    intro v2 w2 hown2 hb2 hgr2
    refine hK.out _ _ (trivial) (fun hHeld => ?_)
    clear hK K
    have hs2 := hb2.size
    have hrd2 := (hrp.kept (Kept.of_grown (S := fun b => b = w.heap.size + 1) hgr2 (fun k hk => .inl (show k = w.heap.size + 1 by injection hk with hk; exact hk.symm))) (fun b hb e => by omega)).1
    rw [hs1] at hrd2
    clear hgr2 hrp hownA hAA hbA
    refine wpAnyH_ready (rs := [5]) (by kernel_rfl) (by simp) ?_
    refine AllReadyH.cons rfl (fun K hK => ?_) AllReadyH.nil
    refine step_append_b rfl (.tmp 37) (.tmp 38) 28 rfl (w.heap.size + 1) 5 i0 Try.underlying28 hi hz0 hz1 hz2 _ _ rfl hown2 _ _ 1 1 [8] rfl hrd2 (by decide) (by simp only [List.length_append, List.length_cons, List.length_nil]; omega) wd1 hb2 (by omega) ?_
    intro v4 w4 hown4 hb4 hgr4
    refine hK.out _ _ (trivial) (fun hHeld => ?_)
    clear hK K hgr4 hrd2 hown2 hb2 hs2
    have hA5 := hA1.below hb4 (by omega)
    have hB5 := hB1.trans (hb4.mono (by omega))
    have hs5 := hb4.size
    have hown5 := hown4
    clear hown hA1 hB1
    refine wpAnyH_ready (rs := [8]) (by kernel_rfl) (by simp) ?_
    refine AllReadyH.cons rfl (fun K hK => ?_) AllReadyH.nil
    refine step_append_b rfl (.tmp 39) (.tmp 41) 28 rfl (w.heap.size + 1) 5 i0 Try.underlying28 hi hz0 hz1 hz2 _ _ rfl hown5 _ (some ⟨w.heap.size, 9, none⟩) 8 8 fs rfl (HFR.out _ hA5) (by decide) (by simp only [List.length_append, List.length_cons, List.length_nil]; omega) wd1 hb4 (by omega) ?_
    intro v6 w6 hown6 hb6 hgr6
    refine hK.out _ _ (trivial) (fun hHeld => ?_)
    clear hK K hgr6
    refine tk_dst (i := 9) (dst := some 6) rfl rfl (by kernel_rfl) (by kernel_rfl) (by kernel_rfl) (fun _ _ _ h => h) (v := ?_) (Or.inl ⟨by rfl, ?_⟩) (by assumption) ?_
    rotate_left
    · intro w hSw; (try dsimp only at hSw); go_simp; first | done | (with_reducible rfl)
    simp only [Act.put, List.setIfInBounds_toArray, List.set_cons_zero, List.set_cons_succ]
    refine wpAnyH_done (by kernel_rfl) ?_ _
    have hA6 := hAd.below hb6 (by omega)
    have hB6 := hBd.trans (hb6.mono (by omega))
    have hs6 := hb6.size
    have e0 := (hA6.cell 0).trans HL0.out
    obtain ⟨bs6, hbs6⟩ : ∃ x, [192 + wd - 1, 0, 0, 0, 1, 8] ++ ts ++ [8] ++ fs = x := ⟨_, rfl⟩
    have hl6 : bs6.length ≤ 1000 := by rw [← hbs6]; simp only [List.length_append, List.length_cons, List.length_nil]; omega
    rw [hbs6] at hown6
    have HE6 := Lib.hid hbs6
    clear hbs6
    obtain ⟨n6, hn6⟩ : ∃ x, bs6.length = x := ⟨_, rfl⟩
    rw [hn6] at hl6
    obtain ⟨A6, c6, rfl, p1, p2, p3⟩ := hown6.open_n n6 hn6
    have e17 := (hA6.cell 17).trans HL17.out
    have hrow := (HDT.out.kept (Kept.of_below hB6 (fun _ => False)) (fun _ _ h => h)).rd.1
    go_wp2_with fail
    refine (rtext2_any A6 n6 c6 bs6 dA dn dc tok w6 p3 hrow (by omega) (by omega)).mono ?_
    rintro e w7 ⟨v7, rfl, hown7, hb7⟩
    have hB7 := hB6.trans (hb7.mono hB6.size)
    have hl7 : (bs6 ++ textB tok).length ≤ 2000 := by have := textB_le tok; have e : tok.length = dn := HDT.out.rd.1.1; simp only [List.length_append]; omega
    obtain ⟨n7, hn7⟩ : ∃ x, (bs6 ++ textB tok).length = x := ⟨_, rfl⟩
    rw [hn7] at hl7
    obtain ⟨A7, c7, rfl, q1, q2, q3⟩ := hown7.open_n n7 hn7
    clear e17 e0
    go_wp2_with fail
    refine (rtwo2_any A7 n7 c7 _ (16384 + n) w7 q3 (by omega) (by omega) (by omega)).mono ?_
    rintro e w8 ⟨v8, rfl, hown8, hb8⟩
    go_wp2_with fail
    go_ret
    refine ⟨v8, rfl, (hown8.cast ?_).base_ hB7.size, hB7.trans (hb8.mono hB7.size)⟩
    rw [HE.out, ← HE6.out]
    simp
set_option maxRecDepth 100000 in
set_option maxHeartbeats 1000000 in
theorem rhenc_1 (P : Nat → Prop) (m : HN) (d : Sl) (tok : List Int) (n : Int) (w : World) (hf : HFits w P m d tok) (htl : tok.length ≤ 32) (hs : m.s = 1) (r3 : 1 ≤ m.w) (r4 : m.w ≤ 4) (hn0 : 0 ≤ n) (hn1 : n ≤ 16383) :
    Calls Try.prog 21 #[hdV m d, .int .i64 n] w (REPost w (hencS m tok n)) := by
  obtain ⟨i0, hi, hz0, hz1, hz2⟩ := info_parts u8_info
  obtain ⟨hwf, hdt⟩ := hf
  have htb := hwf.tb
  have hfb := hwf.fb
  have hB0 : Below w.heap.size w (w.alloc (.cells (hdL m d).toArray 30)) := (Below.refl _ _).alloc (Nat.le_refl _) _
  have hA0 : At (w.alloc (.cells (hdL m d).toArray 30)) w.heap.size 30 (hdL m d) := At.new w _ _
  have hE := henc_long m tok n (by omega) []
  rw [List.nil_append, hs, if_neg (by decide), List.append_nil, show hfirst m = 208 + m.w - 1 by unfold hfirst; rw [if_neg (by omega), hs]; omega] at hE
  obtain ⟨L, hL⟩ : ∃ L, hdL m d = L := ⟨_, rfl⟩
  have hto : ∀ W : World, At W w.heap.size 30 L → Rd W W.heap.size (some ⟨w.heap.size, 1, none⟩) 8 m.t.l := fun W hW => to_rd m d (by rw [hL]; exact hW) htb
  have hfr : ∀ W : World, At W w.heap.size 30 L → Rd W W.heap.size (some ⟨w.heap.size, 9, none⟩) 8 m.f.l := fun W hW => from_rd m d (by rw [hL]; exact hW) hfb
  have hLl : L.length = 20 := by rw [← hL]; rfl
  have hfv : hdV m d = .agg L.toArray := by rw [← hL]; rfl
  have hl0 : L[0]? = some (.int .i64 m.s) := by rw [← hL]; rfl
  have hl17 : L[17]? = some (.slice d.A d.n d.c) := by rw [← hL]; rfl
  have hl4 : L[18]? = some (.int .i64 m.w) := by rw [← hL]; rfl
  have hl5 : L[19]? = some (.bool m.ph) := by rw [← hL]; rfl
  rw [hL] at hA0 hB0
  rw [hfv]
  rw [hs] at hl0
  obtain ⟨wd, hwd⟩ : ∃ x, m.w = x := ⟨_, rfl⟩
  rw [hwd] at hl4 r3 r4 hE
  obtain ⟨ts, hts⟩ : ∃ x, m.t.l = x := ⟨_, rfl⟩
  obtain ⟨fs, hfs⟩ : ∃ x, m.f.l = x := ⟨_, rfl⟩
  have ht8 : textB m.t.l = 8 :: m.t.l := textB8 m.t
  have hf8 : textB m.f.l = 8 :: m.f.l := textB8 m.f
  rw [hts] at hto hE ht8
  rw [hfs] at hfr hf8
  rw [hfs] at hE
  rw [ht8, hf8, twoB_0, twoB_1] at hE
  obtain ⟨E, hEE⟩ : ∃ x, hencS m tok n = x := ⟨_, rfl⟩
  rw [hEE] at hE ⊢
  have e0 := (hA0.cell 0).trans hl0
  have e4 := (hA0.cell 18).trans hl4
  have e5 := (hA0.cell 19).trans hl5
  have HTO := Lib.hid hto
  have HFR := Lib.hid hfr
  have HL0 := Lib.hid hl0
  have HL17 := Lib.hid hl17
  have HE := Lib.hid hE
  have HDT := Lib.hid hdt
  clear hL hfv hl0 hl17 hl4 hl5 hs hto hfr hts hfs ht8 hf8 hEE hE hdt hwf htb hfb hwd
  obtain ⟨dA, dn, dc⟩ := d
  have hdn : dn ≤ 32 := by have e : tok.length = dn := HDT.out.rd.1.1; omega
  have hs0 : (w.alloc (.cells L.toArray 30)).heap.size = w.heap.size + 1 := by simp
  have hbx : Byt [208 + wd - 1, 0, 0, 0, 1, 8] := fun y hy => by simp at hy; omega
  have hown : Own ((w.alloc (.cells L.toArray 30)).alloc (.cells (([208 + wd - 1, 0, 0, 0, 1, 8] : List Int).map (Value.int .u8)).toArray 5)) (w.heap.size + 1) 5 (.slice (some ⟨w.heap.size + 1, 0, none⟩) 6 6) [208 + wd - 1, 0, 0, 0, 1, 8] :=
    Own.of_block (n := 6) (cap := 6) hbx rfl (by have := heap_alloc_new (w.alloc (.cells L.toArray 30)) (.cells (([208 + wd - 1, 0, 0, 0, 1, 8] : List Int).map (Value.int .u8)).toArray 5); rw [hs0] at this; exact this) (Nat.le_refl _) (Nat.le_refl _) (by unfold maxLen; omega) rfl rfl
  have hA1 := hA0.alloc (.cells (([208 + wd - 1, 0, 0, 0, 1, 8] : List Int).map (Value.int .u8)).toArray 5)
  have hB1 := hB0.alloc (by omega) (.cells (([208 + wd - 1, 0, 0, 0, 1, 8] : List Int).map (Value.int .u8)).toArray 5)
  have hs1 : ((w.alloc (.cells L.toArray 30)).alloc (.cells (([208 + wd - 1, 0, 0, 0, 1, 8] : List Int).map (Value.int .u8)).toArray 5)).heap.size = w.heap.size + 2 := by simp
  obtain ⟨w1, hw1⟩ : ∃ x, (w.alloc (.cells L.toArray 30)).alloc (.cells (([208 + wd - 1, 0, 0, 0, 1, 8] : List Int).map (Value.int .u8)).toArray 5) = x := ⟨_, rfl⟩
  rw [hw1] at hown hA1 hB1 hs1
  clear hA0 hB0 hs0 hbx
  go_enter Try.func21, Try.ntmps21
  go_wp2_with fail
  change (Code.region _ _ _).wp _ _ _ ((w.alloc (.cells L.toArray 30)).alloc (.cells (([208 + wd - 1, 0, 0, 0, 1, 8] : List Int).map (Value.int .u8)).toArray 5))
  rw [hw1]
  clear hw1 e0 e4 e5
  have hown := hown.drew
  have hA1 := hA1.drew
  have hB1 : Below w.heap.size w w1.drew := belowN hB1 1
  have hs1 : w1.drew.heap.size = w.heap.size + 2 := hs1
  obtain ⟨wd1, hwd1⟩ : ∃ x, w1.drew = x := ⟨_, rfl⟩
  refine wp_region_held_drew (S := fun _ => True) (by kernel_rfl) (trivial) (fun hHeld => ?_)
  rw [hwd1] at hown hA1 hB1 hs1 ⊢
  clear hwd1
  refine tk_dst (i := 0) (dst := some 34) rfl rfl (by kernel_rfl) (by kernel_rfl) (by kernel_rfl) (fun _ _ _ h => h) (v := ?_) (Or.inl ⟨by rfl, ?_⟩) (by assumption) ?_
  rotate_left
  · intro w hSw; (try dsimp only at hSw); go_simp; first | done | (with_reducible rfl)
  simp only [Act.put, List.setIfInBounds_toArray, List.set_cons_zero, List.set_cons_succ]
  refine tk_dst (i := 1) (dst := some 35) rfl rfl (by kernel_rfl) (by kernel_rfl) (by kernel_rfl) (fun _ _ _ h => h) (v := ?_) (Or.inl ⟨by rfl, ?_⟩) (by assumption) ?_
  rotate_left
  · intro w hSw; (try dsimp only at hSw); go_simp; first | done | (with_reducible rfl)
  simp only [Act.put, List.setIfInBounds_toArray, List.set_cons_zero, List.set_cons_succ]
  refine tk_dst (i := 2) (dst := some 36) rfl rfl (by kernel_rfl) (by kernel_rfl) (by kernel_rfl) (fun _ _ _ h => h) (v := ?_) (Or.inl ⟨by rfl, ?_⟩) (by assumption) ?_
  rotate_left
  · intro w hSw; (try dsimp only at hSw); go_simp; first | done | (with_reducible rfl)
  simp only [Act.put, List.setIfInBounds_toArray, List.set_cons_zero, List.set_cons_succ]
  refine tk_dst (i := 6) (dst := some 40) rfl rfl (by kernel_rfl) (by kernel_rfl) (by kernel_rfl) (fun _ _ _ h => h) (v := ?_) (Or.inl ⟨by rfl, ?_⟩) (by assumption) ?_
  rotate_left
  · intro w hSw; (try dsimp only at hSw); go_simp; first | done | (with_reducible rfl)
  simp only [Act.put, List.setIfInBounds_toArray, List.set_cons_zero, List.set_cons_succ]
  refine tk_dst (i := 7) (dst := some 41) rfl rfl (by kernel_rfl) (by kernel_rfl) (by kernel_rfl) (fun _ _ _ h => h) (v := ?_) (Or.inl ⟨by rfl, ?_⟩) (by assumption) ?_
  rotate_left
  · intro w hSw; (try dsimp only at hSw); go_simp; first | done | (with_reducible rfl)
  simp only [Act.put, List.setIfInBounds_toArray, List.set_cons_zero, List.set_cons_succ]
  refine wpAnyH_ready (rs := [3, 4]) (by kernel_rfl) (by simp) ?_
  refine AllReadyH.cons rfl (fun K hK => ?_) (AllReadyH.cons rfl (fun K hK => ?_) AllReadyH.nil)
  · skip
    have hts8 : ts.length = 8 := (HTO.out _ hA1).1
    have hfs8 : fs.length = 8 := (HFR.out _ hA1).1
    have hAd := hA1
    have hBd := hB1
    refine step_append_b rfl (.tmp 34) (.tmp 36) 28 rfl (w.heap.size + 1) 5 i0 Try.underlying28 hi hz0 hz1 hz2 _ _ rfl hown _ (some ⟨w.heap.size, 1, none⟩) 8 8 ts rfl (HTO.out _ hA1) (by decide) (by simp only [List.length_append, List.length_cons, List.length_nil]; omega) wd1 (Below.refl _ _) (by omega) ?_
    intro v2 w2 hown2 hb2 hgr2
    refine hK.out _ _ (trivial) (fun hHeld => ?_)
    clear hK K hgr2
    have hs2 := hb2.size
    refine wpAnyH_ready (rs := [4]) (by kernel_rfl) (by simp) ?_
    refine AllReadyH.cons rfl (fun K hK => ?_) AllReadyH.nil
    go_simp
    refine hK.out _ _ (trivial) (fun hHeld => ?_)
    clear hK K
    have hrd : Rd (w2.alloc (.cells #[Value.int .u8 8] 5)) (w2.heap.size + 1) (some ⟨w2.heap.size, 0, none⟩) 1 [8] := Rd.byte w2 5 _ rfl 8 (by decide)
    have hown3 := hown2.alloc (.cells #[Value.int .u8 8] 5)
    have hb3 := hb2.alloc (by omega) (.cells #[Value.int .u8 8] 5)
    have hs3 := hb3.size
    refine wpAnyH_ready (rs := [5]) (by kernel_rfl) (by simp) ?_
    refine AllReadyH.cons rfl (fun K hK => ?_) AllReadyH.nil
    refine step_append_b rfl (.tmp 37) (.tmp 38) 28 rfl (w.heap.size + 1) 5 i0 Try.underlying28 hi hz0 hz1 hz2 _ _ rfl hown3 _ _ 1 1 [8] rfl hrd (by decide) (by simp only [List.length_append, List.length_cons, List.length_nil]; omega) wd1 hb3 (by omega) ?_
    intro v4 w4 hown4 hb4 hgr4
    refine hK.out _ _ (trivial) (fun hHeld => ?_)
    clear hK K hgr4 hrd hown3 hb3 hs3 hown2 hb2 hs2
    have hA5 := hA1.below hb4 (by omega)
    have hB5 := hB1.trans (hb4.mono (by omega))
    have hs5 := hb4.size
    have hown5 := hown4
    clear hown hA1 hB1
    refine wpAnyH_ready (rs := [8]) (by kernel_rfl) (by simp) ?_
    refine AllReadyH.cons rfl (fun K hK => ?_) AllReadyH.nil
    refine step_append_b rfl (.tmp 39) (.tmp 41) 28 rfl (w.heap.size + 1) 5 i0 Try.underlying28 hi hz0 hz1 hz2 _ _ rfl hown5 _ (some ⟨w.heap.size, 9, none⟩) 8 8 fs rfl (HFR.out _ hA5) (by decide) (by simp only [List.length_append, List.length_cons, List.length_nil]; omega) wd1 hb4 (by omega) ?_
    intro v6 w6 hown6 hb6 hgr6
    refine hK.out _ _ (trivial) (fun hHeld => ?_)
    clear hK K hgr6
    refine tk_dst (i := 9) (dst := some 6) rfl rfl (by kernel_rfl) (by kernel_rfl) (by kernel_rfl) (fun _ _ _ h => h) (v := ?_) (Or.inl ⟨by rfl, ?_⟩) (by assumption) ?_
    rotate_left
    · intro w hSw; (try dsimp only at hSw); go_simp; first | done | (with_reducible rfl)
    simp only [Act.put, List.setIfInBounds_toArray, List.set_cons_zero, List.set_cons_succ]
    refine wpAnyH_done (by kernel_rfl) ?_ _
    have hA6 := hAd.below hb6 (by omega)
    have hB6 := hBd.trans (hb6.mono (by omega))
    have hs6 := hb6.size
    have e0 := (hA6.cell 0).trans HL0.out
    obtain ⟨bs6, hbs6⟩ : ∃ x, [208 + wd - 1, 0, 0, 0, 1, 8] ++ ts ++ [8] ++ fs = x := ⟨_, rfl⟩
    have hl6 : bs6.length ≤ 1000 := by rw [← hbs6]; simp only [List.length_append, List.length_cons, List.length_nil]; omega
    rw [hbs6] at hown6
    have HE6 := Lib.hid hbs6
    clear hbs6
    obtain ⟨n6, hn6⟩ : ∃ x, bs6.length = x := ⟨_, rfl⟩
    rw [hn6] at hl6
    obtain ⟨A6, c6, rfl, p1, p2, p3⟩ := hown6.open_n n6 hn6
    go_wp2_with fail
    refine (rtwo2_any A6 n6 c6 _ (16384 + n) w6 p3 (by omega) (by omega) (by omega)).mono ?_
    rintro e w8 ⟨v8, rfl, hown8, hb8⟩
    go_wp2_with fail
    go_ret
    refine ⟨v8, rfl, (hown8.cast ?_).base_ hB6.size, hB6.trans (hb8.mono hB6.size)⟩
    rw [HE.out, ← HE6.out]
    simp
  · skip
    have hts8 : ts.length = 8 := (HTO.out _ hA1).1
    have hfs8 : fs.length = 8 := (HFR.out _ hA1).1
    have hAd := hA1
    have hBd := hB1
    go_simp
    refine hK.out _ _ (trivial) (fun hHeld => ?_)
    clear hK K
    have hrd : Rd (wd1.alloc (.cells #[Value.int .u8 8] 5)) (wd1.heap.size + 1) (some ⟨wd1.heap.size, 0, none⟩) 1 [8] := Rd.byte wd1 5 _ rfl 8 (by decide)
    have hrp : RdP (wd1.alloc (.cells #[Value.int .u8 8] 5)) (fun b => b = wd1.heap.size) (some ⟨wd1.heap.size, 0, none⟩) 1 [8] := ⟨by simpa using hrd, fun b off _ e => by injection e with e; injection e with e; exact e.symm⟩
    have hownA := hown.alloc (.cells #[Value.int .u8 8] 5)
    have hAA := hA1.alloc (.cells #[Value.int .u8 8] 5)
    have hbA : Below (w.heap.size + 1) wd1 (wd1.alloc (.cells #[Value.int .u8 8] 5)) := (Below.refl _ _).alloc (by omega) _
    have hsA := hbA.size
    clear hrd
    refine wpAnyH_ready (rs := [3]) (by kernel_rfl) (by simp) ?_
    refine AllReadyH.cons rfl (fun K hK => ?_) AllReadyH.nil
    refine step_append_b rfl (.tmp 34) (.tmp 36) 28 rfl (w.heap.size + 1) 5 i0 Try.underlying28 hi hz0 hz1 hz2 _ _ rfl hownA _ (some ⟨w.heap.size, 1, none⟩) 8 8 ts rfl (HTO.out _ hAA) (by decide) (by simp only [List.length_append, List.length_cons, List.length_nil]; omega) wd1 hbA (by omega) ?_
    intro v2 w2 hown2 hb2 hgr2
    refine hK.out _ _ (trivial) (fun hHeld => ?_)
    clear hK K
    have hs2 := hb2.size
    have hrd2 := (hrp.kept (Kept.of_grown (S := fun b => b = w.heap.size + 1) hgr2 (fun k hk => .inl (show k = w.heap.size + 1 by injection hk with hk; exact hk.symm))) (fun b hb e => by omega)).1
    rw [hs1] at hrd2
    clear hgr2 hrp hownA hAA hbA
    refine wpAnyH_ready (rs := [5]) (by kernel_rfl) (by simp) ?_
    refine AllReadyH.cons rfl (fun K hK => ?_) AllReadyH.nil
    refine step_append_b rfl (.tmp 37) (.tmp 38) 28 rfl (w.heap.size + 1) 5 i0 Try.underlying28 hi hz0 hz1 hz2 _ _ rfl hown2 _ _ 1 1 [8] rfl hrd2 (by decide) (by simp only [List.length_append, List.length_cons, List.length_nil]; omega) wd1 hb2 (by omega) ?_
    intro v4 w4 hown4 hb4 hgr4
    refine hK.out _ _ (trivial) (fun hHeld => ?_)
    clear hK K hgr4 hrd2 hown2 hb2 hs2
    have hA5 := hA1.below hb4 (by omega)
    have hB5 := hB1.trans (hb4.mono (by omega))
    have hs5 := hb4.size
    have hown5 := hown4
    clear hown hA1 hB1
    refine wpAnyH_ready (rs := [8]) (by kernel_rfl) (by simp) ?_
    refine AllReadyH.cons rfl (fun K hK => ?_) AllReadyH.nil
    refine step_append_b rfl (.tmp 39) (.tmp 41) 28 rfl (w.heap.size + 1) 5 i0 Try.underlying28 hi hz0 hz1 hz2 _ _ rfl hown5 _ (some ⟨w.heap.size, 9, none⟩) 8 8 fs rfl (HFR.out _ hA5) (by decide) (by simp only [List.length_append, List.length_cons, List.length_nil]; omega) wd1 hb4 (by omega) ?_
    intro v6 w6 hown6 hb6 hgr6
    refine hK.out _ _ (trivial) (fun hHeld => ?_)
    clear hK K hgr6
    refine tk_dst (i := 9) (dst := some 6) rfl rfl (by kernel_rfl) (by kernel_rfl) (by kernel_rfl) (fun _ _ _ h => h) (v := ?_) (Or.inl ⟨by rfl, ?_⟩) (by assumption) ?_
    rotate_left
    · intro w hSw; (try dsimp only at hSw); go_simp; first | done | (with_reducible rfl)
    simp only [Act.put, List.setIfInBounds_toArray, List.set_cons_zero, List.set_cons_succ]
    refine wpAnyH_done (by kernel_rfl) ?_ _
    have hA6 := hAd.below hb6 (by omega)
    have hB6 := hBd.trans (hb6.mono (by omega))
    have hs6 := hb6.size
    have e0 := (hA6.cell 0).trans HL0.out
    obtain ⟨bs6, hbs6⟩ : ∃ x, [208 + wd - 1, 0, 0, 0, 1, 8] ++ ts ++ [8] ++ fs = x := ⟨_, rfl⟩
    have hl6 : bs6.length ≤ 1000 := by rw [← hbs6]; simp only [List.length_append, List.length_cons, List.length_nil]; omega
    rw [hbs6] at hown6
    have HE6 := Lib.hid hbs6
    clear hbs6
    obtain ⟨n6, hn6⟩ : ∃ x, bs6.length = x := ⟨_, rfl⟩
    rw [hn6] at hl6
    obtain ⟨A6, c6, rfl, p1, p2, p3⟩ := hown6.open_n n6 hn6
    go_wp2_with fail
    refine (rtwo2_any A6 n6 c6 _ (16384 + n) w6 p3 (by omega) (by omega) (by omega)).mono ?_
    rintro e w8 ⟨v8, rfl, hown8, hb8⟩
    go_wp2_with fail
    go_ret
    refine ⟨v8, rfl, (hown8.cast ?_).base_ hB6.size, hB6.trans (hb8.mono hB6.size)⟩
    rw [HE.out, ← HE6.out]
    simp
theorem rhenc_any (P : Nat → Prop) (m : HN) (d : Sl) (tok : List Int) (n : Int) (w : World) (hf : HFits w P m d tok) (hr : hrightB m tok.length = true) (hn0 : 0 ≤ n) (hn1 : n ≤ 16383) :
    Calls Try.prog 21 #[hdV m d, .int .i64 n] w (REPost w (hencS m tok n)) := by
  obtain ⟨r1, r2, r3, r4, r5, _⟩ := hright_parts _ _ hr
  by_cases h2 : m.s = 2
  · cases hph : m.ph with
    | true => exact rhenc_2t P m d tok n w hf r5 h2 hph r3 r4 hn0 hn1
    | false => exact rhenc_2f P m d tok n w hf r5 h2 hph r3 r4 hn0 hn1
  · by_cases h0 : m.s = 0
    · exact rhenc_0 P m d tok n w hf r5 h0 r3 r4 hn0 hn1
    · exact rhenc_1 P m d tok n w hf r5 (by omega) r3 r4 hn0 hn1
end Go.Proofs.Ytehdilgnlhhjdaa
