/-
  A head as bytes: head.writeShort, writeLong, Encode, Size.
-/
import Derived.Test.YtehdilgnlhhjdaaMq12
import Derived.Test.YtehdilgnlhhjdaaMq10
import Derived.Test.YtehdilgnlhhjdaaWst
namespace Go.Proofs.Ytehdilgnlhhjdaa
set_option linter.unusedVariables false
set_option linter.unusedSimpArgs false
open Go.RowKit
theorem putS_8 : putS 8 = [8] := by decide
theorem textB8 (m : N8) : textB m.l = 8 :: m.l := by unfold textB; rw [show (m.l.length : Int) = 8 from rfl, putS_8]; rfl
set_option maxRecDepth 100000 in
set_option maxHeartbeats 1000000 in
theorem wshort_any (base p : Nat) (T : TypeId) (v : Value) (bs : List Int) (m : HN) (d : Sl) (w : World) (h : Wtr w base p T v bs) (hl : bs.length ≤ 1000000) (hs : m.s = 2) (hw0 : 1 ≤ m.w) (hw4 : m.w ≤ 4) (htb : Byt m.t.l) (hbase : base ≤ w.heap.size) :
    Calls Try.prog 58 #[.pointer (some ⟨p, 0, none⟩), hdV m d] w (WPost (.tuple #[]) w base p T v (bs ++ (hfirst m :: m.t.l))) := by
  have hB0 : Below w.heap.size w (w.alloc (.cells (hdL m d).toArray 30)) := (Below.refl _ _).alloc (Nat.le_refl _) _
  have hA0 : At (w.alloc (.cells (hdL m d).toArray 30)) w.heap.size 30 (hdL m d) := At.new w _ _
  have hx0 := WSx.refl h hB0
  have hM : w.heap.size ≤ (w.alloc (.cells (hdL m d).toArray 30)).heap.size := hB0.size
  have hg : w.heap.size < (w.alloc (.cells (hdL m d).toArray 30)).heap.size := hA0.lt
  have hn0 := h.not_new (g := w.heap.size) (Nat.le_refl _)
  obtain ⟨L, hL⟩ : ∃ L, hdL m d = L := ⟨_, rfl⟩
  have hto : ∀ W : World, At W w.heap.size 30 L → Rd W W.heap.size (some ⟨w.heap.size, 1, none⟩) 8 m.t.l := fun W hW => to_rd m d (by rw [hL]; exact hW) htb
  have hfv : hdV m d = .agg L.toArray := by rw [← hL]; rfl
  have hl4 : L[18]? = some (.int .i64 m.w) := by rw [← hL]; rfl
  have hl5 : L[19]? = some (.bool m.ph) := by rw [← hL]; rfl
  rw [hL] at hA0 hB0 hx0 hM hg
  rw [hfv]
  have hfi : hfirst m = if m.ph then 67 + m.w else 63 + m.w := by unfold hfirst; rw [if_pos hs]
  obtain ⟨fi, hfi2⟩ : ∃ x, hfirst m = x := ⟨_, rfl⟩
  rw [hfi2] at hfi ⊢
  obtain ⟨wd, hwd⟩ : ∃ x, m.w = x := ⟨_, rfl⟩
  obtain ⟨ph, hph⟩ : ∃ x, m.ph = x := ⟨_, rfl⟩
  obtain ⟨ts, hts⟩ : ∃ x, m.t.l = x := ⟨_, rfl⟩
  rw [hwd] at hw0 hw4 hfi hl4
  rw [hph] at hfi hl5
  rw [hts] at hto ⊢
  have e4 := (hA0.cell 18).trans hl4
  have e5 := (hA0.cell 19).trans hl5
  have HTO := Lib.hid hto
  clear hL hfv hs htb hfi2 hwd hph hts hto hl4 hl5
  obtain ⟨M, hMM⟩ : ∃ M, (w.alloc (.cells L.toArray 30)).heap.size = M := ⟨_, rfl⟩
  rw [hMM] at hx0 hM hg
  have hW : wd = 1 ∨ wd = 2 ∨ wd = 3 ∨ wd = 4 := by omega
  clear hMM hB0
  rcases hW with rfl | rfl | rfl | rfl <;> cases ph
  · simp only [if_true, Bool.false_eq_true, if_false] at hfi
    obtain rfl : fi = 64 := by omega
    go_enter Try.func58, Try.ntmps58
    go_wp2_with fail
    refine (wbyte_any base p T v bs 64 _ hx0.1 (by omega) (by decide) (by decide) (by have := hx0.2.2.2; omega)).mono ?_
    rintro e w1 hw1
    obtain ⟨v1, rfl, hx1, hk1⟩ := hx0.step hM hw1
    have hA1 := hA0.kept hk1 (hx0.apart hg hn0)
    have hm1 := hx1.2.2.2
    go_wp2_with fail
    refine (wraw_any base p T v1 _ (some ⟨w.heap.size, 1, none⟩) 8 8 ts _ hx1.1 (by simp only [List.length_append, List.length_cons, List.length_nil]; omega) (HTO.out _ hA1) (by omega)).mono ?_
    rintro e w2 hw2
    obtain ⟨v2, rfl, hx2, hk2⟩ := hx1.step hM hw2
    go_wp2_with fail
    go_end0
    have hfin := hx2.post hM (.tuple #[])
    simpa only [List.append_assoc, List.cons_append, List.nil_append] using hfin
  · simp only [if_true, Bool.false_eq_true, if_false] at hfi
    obtain rfl : fi = 68 := by omega
    go_enter Try.func58, Try.ntmps58
    go_wp2_with fail
    refine (wbyte_any base p T v bs 68 _ hx0.1 (by omega) (by decide) (by decide) (by have := hx0.2.2.2; omega)).mono ?_
    rintro e w1 hw1
    obtain ⟨v1, rfl, hx1, hk1⟩ := hx0.step hM hw1
    have hA1 := hA0.kept hk1 (hx0.apart hg hn0)
    have hm1 := hx1.2.2.2
    go_wp2_with fail
    refine (wraw_any base p T v1 _ (some ⟨w.heap.size, 1, none⟩) 8 8 ts _ hx1.1 (by simp only [List.length_append, List.length_cons, List.length_nil]; omega) (HTO.out _ hA1) (by omega)).mono ?_
    rintro e w2 hw2
    obtain ⟨v2, rfl, hx2, hk2⟩ := hx1.step hM hw2
    go_wp2_with fail
    go_end0
    have hfin := hx2.post hM (.tuple #[])
    simpa only [List.append_assoc, List.cons_append, List.nil_append] using hfin
  · simp only [if_true, Bool.false_eq_true, if_false] at hfi
    obtain rfl : fi = 65 := by omega
    go_enter Try.func58, Try.ntmps58
    go_wp2_with fail
    refine (wbyte_any base p T v bs 65 _ hx0.1 (by omega) (by decide) (by decide) (by have := hx0.2.2.2; omega)).mono ?_
    rintro e w1 hw1
    obtain ⟨v1, rfl, hx1, hk1⟩ := hx0.step hM hw1
    have hA1 := hA0.kept hk1 (hx0.apart hg hn0)
    have hm1 := hx1.2.2.2
    go_wp2_with fail
    refine (wraw_any base p T v1 _ (some ⟨w.heap.size, 1, none⟩) 8 8 ts _ hx1.1 (by simp only [List.length_append, List.length_cons, List.length_nil]; omega) (HTO.out _ hA1) (by omega)).mono ?_
    rintro e w2 hw2
    obtain ⟨v2, rfl, hx2, hk2⟩ := hx1.step hM hw2
    go_wp2_with fail
    go_end0
    have hfin := hx2.post hM (.tuple #[])
    simpa only [List.append_assoc, List.cons_append, List.nil_append] using hfin
  · simp only [if_true, Bool.false_eq_true, if_false] at hfi
    obtain rfl : fi = 69 := by omega
    go_enter Try.func58, Try.ntmps58
    go_wp2_with fail
    refine (wbyte_any base p T v bs 69 _ hx0.1 (by omega) (by decide) (by decide) (by have := hx0.2.2.2; omega)).mono ?_
    rintro e w1 hw1
    obtain ⟨v1, rfl, hx1, hk1⟩ := hx0.step hM hw1
    have hA1 := hA0.kept hk1 (hx0.apart hg hn0)
    have hm1 := hx1.2.2.2
    go_wp2_with fail
    refine (wraw_any base p T v1 _ (some ⟨w.heap.size, 1, none⟩) 8 8 ts _ hx1.1 (by simp only [List.length_append, List.length_cons, List.length_nil]; omega) (HTO.out _ hA1) (by omega)).mono ?_
    rintro e w2 hw2
    obtain ⟨v2, rfl, hx2, hk2⟩ := hx1.step hM hw2
    go_wp2_with fail
    go_end0
    have hfin := hx2.post hM (.tuple #[])
    simpa only [List.append_assoc, List.cons_append, List.nil_append] using hfin
  · simp only [if_true, Bool.false_eq_true, if_false] at hfi
    obtain rfl : fi = 66 := by omega
    go_enter Try.func58, Try.ntmps58
    go_wp2_with fail
    refine (wbyte_any base p T v bs 66 _ hx0.1 (by omega) (by decide) (by decide) (by have := hx0.2.2.2; omega)).mono ?_
    rintro e w1 hw1
    obtain ⟨v1, rfl, hx1, hk1⟩ := hx0.step hM hw1
    have hA1 := hA0.kept hk1 (hx0.apart hg hn0)
    have hm1 := hx1.2.2.2
    go_wp2_with fail
    refine (wraw_any base p T v1 _ (some ⟨w.heap.size, 1, none⟩) 8 8 ts _ hx1.1 (by simp only [List.length_append, List.length_cons, List.length_nil]; omega) (HTO.out _ hA1) (by omega)).mono ?_
    rintro e w2 hw2
    obtain ⟨v2, rfl, hx2, hk2⟩ := hx1.step hM hw2
    go_wp2_with fail
    go_end0
    have hfin := hx2.post hM (.tuple #[])
    simpa only [List.append_assoc, List.cons_append, List.nil_append] using hfin
  · simp only [if_true, Bool.false_eq_true, if_false] at hfi
    obtain rfl : fi = 70 := by omega
    go_enter Try.func58, Try.ntmps58
    go_wp2_with fail
    refine (wbyte_any base p T v bs 70 _ hx0.1 (by omega) (by decide) (by decide) (by have := hx0.2.2.2; omega)).mono ?_
    rintro e w1 hw1
    obtain ⟨v1, rfl, hx1, hk1⟩ := hx0.step hM hw1
    have hA1 := hA0.kept hk1 (hx0.apart hg hn0)
    have hm1 := hx1.2.2.2
    go_wp2_with fail
    refine (wraw_any base p T v1 _ (some ⟨w.heap.size, 1, none⟩) 8 8 ts _ hx1.1 (by simp only [List.length_append, List.length_cons, List.length_nil]; omega) (HTO.out _ hA1) (by omega)).mono ?_
    rintro e w2 hw2
    obtain ⟨v2, rfl, hx2, hk2⟩ := hx1.step hM hw2
    go_wp2_with fail
    go_end0
    have hfin := hx2.post hM (.tuple #[])
    simpa only [List.append_assoc, List.cons_append, List.nil_append] using hfin
  · simp only [if_true, Bool.false_eq_true, if_false] at hfi
    obtain rfl : fi = 67 := by omega
    go_enter Try.func58, Try.ntmps58
    go_wp2_with fail
    refine (wbyte_any base p T v bs 67 _ hx0.1 (by omega) (by decide) (by decide) (by have := hx0.2.2.2; omega)).mono ?_
    rintro e w1 hw1
    obtain ⟨v1, rfl, hx1, hk1⟩ := hx0.step hM hw1
    have hA1 := hA0.kept hk1 (hx0.apart hg hn0)
    have hm1 := hx1.2.2.2
    go_wp2_with fail
    refine (wraw_any base p T v1 _ (some ⟨w.heap.size, 1, none⟩) 8 8 ts _ hx1.1 (by simp only [List.length_append, List.length_cons, List.length_nil]; omega) (HTO.out _ hA1) (by omega)).mono ?_
    rintro e w2 hw2
    obtain ⟨v2, rfl, hx2, hk2⟩ := hx1.step hM hw2
    go_wp2_with fail
    go_end0
    have hfin := hx2.post hM (.tuple #[])
    simpa only [List.append_assoc, List.cons_append, List.nil_append] using hfin
  · simp only [if_true, Bool.false_eq_true, if_false] at hfi
    obtain rfl : fi = 71 := by omega
    go_enter Try.func58, Try.ntmps58
    go_wp2_with fail
    refine (wbyte_any base p T v bs 71 _ hx0.1 (by omega) (by decide) (by decide) (by have := hx0.2.2.2; omega)).mono ?_
    rintro e w1 hw1
    obtain ⟨v1, rfl, hx1, hk1⟩ := hx0.step hM hw1
    have hA1 := hA0.kept hk1 (hx0.apart hg hn0)
    have hm1 := hx1.2.2.2
    go_wp2_with fail
    refine (wraw_any base p T v1 _ (some ⟨w.heap.size, 1, none⟩) 8 8 ts _ hx1.1 (by simp only [List.length_append, List.length_cons, List.length_nil]; omega) (HTO.out _ hA1) (by omega)).mono ?_
    rintro e w2 hw2
    obtain ⟨v2, rfl, hx2, hk2⟩ := hx1.step hM hw2
    go_wp2_with fail
    go_end0
    have hfin := hx2.post hM (.tuple #[])
    simpa only [List.append_assoc, List.cons_append, List.nil_append] using hfin
set_option maxRecDepth 100000 in
theorem or14 (n : Int) (h0 : 0 ≤ n) (h1 : n ≤ 16383) : bits BinOp.or IntKind.u16 16384 n = 16384 + n := by
  rw [u16_or _ _ (by omega) (by omega) h0 (by omega), nat_join 14 _ _ (by decide) (by omega)]; omega
theorem twoB_0 : twoB 0 = [0, 0] := by decide
theorem twoB_1 : twoB 1 = [0, 1] := by decide
theorem henc_long (m : HN) (tok : List Int) (n : Int) (h : m.s ≠ 2) (bs : List Int) : bs ++ hencS m tok n = bs ++ [hfirst m] ++ twoB 0 ++ twoB 1 ++ textB m.t.l ++ textB m.f.l ++ (if m.s = 0 then textB tok else []) ++ twoB (16384 + n) := by
  unfold hencS; rw [if_neg h, twoB_0, twoB_1, textB8, textB8]; simp
set_option maxRecDepth 100000 in
set_option maxHeartbeats 4000000 in
theorem wlong_0 (base p : Nat) (T : TypeId) (v : Value) (bs tok : List Int) (m : HN) (d : Sl) (n : Int) (w : World) (h : Wtr w base p T v bs) (hl : bs.length ≤ 1000000) (hs : m.s = 0) (hw0 : 1 ≤ m.w) (hw4 : m.w ≤ 4) (hn0' : 0 ≤ n) (hn1 : n ≤ 16383)
    (hf : HFits w (fun b => ¬ WS p v b) m d tok) (htl : tok.length ≤ 32) (hbase : base ≤ w.heap.size) :
    Calls Try.prog 59 #[.pointer (some ⟨p, 0, none⟩), hdV m d, .int .i64 n] w (WPost (.tuple #[]) w base p T v (bs ++ hencS m tok n)) := by
  have hE := henc_long m tok n (by omega) bs
  obtain ⟨hwf, hdt⟩ := hf
  have htb := hwf.tb
  have hfb := hwf.fb
  have hO := or14 n hn0' hn1
  have hB0 : Below w.heap.size w (w.alloc (.cells (hdL m d).toArray 30)) := (Below.refl _ _).alloc (Nat.le_refl _) _
  have hA0 : At (w.alloc (.cells (hdL m d).toArray 30)) w.heap.size 30 (hdL m d) := At.new w _ _
  have hx0 := WSx.refl h hB0
  have hM : w.heap.size ≤ (w.alloc (.cells (hdL m d).toArray 30)).heap.size := hB0.size
  have hg : w.heap.size < (w.alloc (.cells (hdL m d).toArray 30)).heap.size := hA0.lt
  have hn0 := h.not_new (g := w.heap.size) (Nat.le_refl _)
  obtain ⟨L, hL⟩ : ∃ L, hdL m d = L := ⟨_, rfl⟩
  have hto : ∀ W : World, At W w.heap.size 30 L → Rd W W.heap.size (some ⟨w.heap.size, 1, none⟩) 8 m.t.l := fun W hW => to_rd m d (by rw [hL]; exact hW) htb
  have hfr : ∀ W : World, At W w.heap.size 30 L → Rd W W.heap.size (some ⟨w.heap.size, 9, none⟩) 8 m.f.l := fun W hW => from_rd m d (by rw [hL]; exact hW) hfb
  have hfv : hdV m d = .agg L.toArray := by rw [← hL]; rfl
  have hl0 : L[0]? = some (.int .i64 m.s) := by rw [← hL]; rfl
  have hl3 : L[17]? = some (.slice d.A d.n d.c) := by rw [← hL]; rfl
  have hl4 : L[18]? = some (.int .i64 m.w) := by rw [← hL]; rfl
  have htl8 : (textB m.t.l).length = 9 := by rw [textB8]; rfl
  have hfl8 : (textB m.f.l).length = 9 := by rw [textB8]; rfl
  have hkl := textB_le tok
  rw [hL] at hA0 hB0 hx0 hM hg
  rw [hfv]
  have hfi : hfirst m = 191 + 16 * m.s + m.w := by unfold hfirst; rw [if_neg (by omega)]
  obtain ⟨fi, hfi2⟩ : ∃ x, hfirst m = x := ⟨_, rfl⟩
  rw [hfi2] at hfi hE
  obtain ⟨wd, hwd⟩ : ∃ x, m.w = x := ⟨_, rfl⟩
  obtain ⟨ts, hts⟩ : ∃ x, m.t.l = x := ⟨_, rfl⟩
  obtain ⟨fs, hfs⟩ : ∃ x, m.f.l = x := ⟨_, rfl⟩
  rw [hwd] at hw0 hw4 hfi hl4
  rw [hts] at hto hE htl8
  rw [hfs] at hfr hE hfl8
  rw [hs] at hE hfi hl0
  rw [if_pos rfl] at hE
  have e0 := (hA0.cell 0).trans hl0
  have e4 := (hA0.cell 18).trans hl4
  have HTO := Lib.hid hto
  have HFR := Lib.hid hfr
  have HL0 := Lib.hid hl0
  have HL3 := Lib.hid hl3
  have HE := Lib.hid hE
  have HDT := Lib.hid hdt
  clear hL hfv hs htb hfb hfi2 hwd hts hfs hto hfr hl0 hl3 hl4 hE hwf hdt
  obtain ⟨M, hMM⟩ : ∃ M, (w.alloc (.cells L.toArray 30)).heap.size = M := ⟨_, rfl⟩
  rw [hMM] at hx0 hM hg
  obtain ⟨dA, dn, dc⟩ := d
  have hdn : dn ≤ 32 := by have e : tok.length = dn := HDT.out.rd.1.1; omega
  have hW : wd = 1 ∨ wd = 2 ∨ wd = 3 ∨ wd = 4 := by omega
  clear hMM hB0
  rcases hW with rfl | rfl | rfl | rfl
  · obtain rfl : fi = 192 := by omega
    clear hfi
    go_enter Try.func59, Try.ntmps59
    go_wp2_with fail
    refine (wbyte_any base p T v bs 192 _ hx0.1 (by omega) (by decide) (by decide) (by have := hx0.2.2.2; omega)).mono ?_
    rintro e w1 hw1
    obtain ⟨v1, rfl, hx1, hk1⟩ := hx0.step hM hw1
    have hA1 := hA0.kept hk1 (hx0.apart hg hn0)
    have hm1 := hx1.2.2.2
    clear hw1 hk1 hx0 hA0
    clear e0 e4
    go_wp2_with fail
    refine (wtwo_any base p T v1 _ 0 _ hx1.1 (by simp only [List.length_append, List.length_cons, List.length_nil, twoB_0, twoB_1]; omega) (by decide) (by decide) (by omega)).mono ?_
    rintro e w2 hw2
    obtain ⟨v2, rfl, hx2, hk2⟩ := hx1.step hM hw2
    have hA2 := hA1.kept hk2 (hx1.apart hg hn0)
    have hm2 := hx2.2.2.2
    clear hw2 hk2 hx1 hA1
    go_wp2_with fail
    refine (wtwo_any base p T v2 _ 1 _ hx2.1 (by simp only [List.length_append, List.length_cons, List.length_nil, twoB_0, twoB_1]; omega) (by decide) (by decide) (by omega)).mono ?_
    rintro e w3 hw3
    obtain ⟨v3, rfl, hx3, hk3⟩ := hx2.step hM hw3
    have hA3 := hA2.kept hk3 (hx2.apart hg hn0)
    have hm3 := hx3.2.2.2
    clear hw3 hk3 hx2 hA2
    go_wp2_with fail
    refine (wtext_any base p T v3 _ (some ⟨w.heap.size, 1, none⟩) 8 8 ts _ hx3.1 (by simp only [List.length_append, List.length_cons, List.length_nil, twoB_0, twoB_1]; omega) (by omega) (HTO.out _ hA3) (fun b off _ e => by injection e with e; injection e with e; exact e ▸ hx3.apart hg hn0) (by omega)).mono ?_
    rintro e w4 hw4
    obtain ⟨v4, rfl, hx4, hk4⟩ := hx3.step hM hw4
    have hA4 := hA3.kept hk4 (hx3.apart hg hn0)
    have hm4 := hx4.2.2.2
    clear hw4 hk4 hx3 hA3
    go_wp2_with fail
    refine (wtext_any base p T v4 _ (some ⟨w.heap.size, 9, none⟩) 8 8 fs _ hx4.1 (by simp only [List.length_append, List.length_cons, List.length_nil, twoB_0, twoB_1]; omega) (by omega) (HFR.out _ hA4) (fun b off _ e => by injection e with e; injection e with e; exact e ▸ hx4.apart hg hn0) (by omega)).mono ?_
    rintro e w5 hw5
    obtain ⟨v5, rfl, hx5, hk5⟩ := hx4.step hM hw5
    have hA5 := hA4.kept hk5 (hx4.apart hg hn0)
    have hm5 := hx5.2.2.2
    clear hw5 hk5 hx4 hA4
    have d0 := (hA5.cell 0).trans HL0.out
    have d3 : w5.cell? ⟨w.heap.size, 17, none⟩ = some (.slice dA dn dc) := (hA5.cell 17).trans HL3.out
    have hrow : Rd w5 w5.heap.size dA dn tok ∧ ∀ b off, 0 < dn → dA = some ⟨b, off, none⟩ → ¬ WS p v5 b := hx5.row hM HDT.out
    go_wp2_with fail
    refine (wtext_any base p T v5 _ dA dn dc tok _ hx5.1 (by simp only [List.length_append, List.length_cons, List.length_nil, twoB_0, twoB_1]; omega) (by omega) hrow.1 hrow.2 (by omega)).mono ?_
    clear d0 d3
    rintro e w6 hw6
    obtain ⟨v6, rfl, hx6, hk6⟩ := hx5.step hM hw6
    have hA6 := hA5.kept hk6 (hx5.apart hg hn0)
    have hm6 := hx6.2.2.2
    clear hw6 hk6 hx5 hA5
    go_wp2_with fail
    refine (wtwo_any base p T v6 _ (16384 + n) _ hx6.1 (by simp only [List.length_append, List.length_cons, List.length_nil, twoB_0, twoB_1]; omega) (by omega) (by omega) (by omega)).mono ?_
    rintro e w9 hw9
    obtain ⟨v9, rfl, hx9, hk9⟩ := hx6.step hM hw9
    go_wp2_with fail
    go_end0
    have hfin := hx9.post hM (.tuple #[])
    rw [HE.out]
    exact hfin
  · obtain rfl : fi = 193 := by omega
    clear hfi
    go_enter Try.func59, Try.ntmps59
    go_wp2_with fail
    refine (wbyte_any base p T v bs 193 _ hx0.1 (by omega) (by decide) (by decide) (by have := hx0.2.2.2; omega)).mono ?_
    rintro e w1 hw1
    obtain ⟨v1, rfl, hx1, hk1⟩ := hx0.step hM hw1
    have hA1 := hA0.kept hk1 (hx0.apart hg hn0)
    have hm1 := hx1.2.2.2
    clear hw1 hk1 hx0 hA0
    clear e0 e4
    go_wp2_with fail
    refine (wtwo_any base p T v1 _ 0 _ hx1.1 (by simp only [List.length_append, List.length_cons, List.length_nil, twoB_0, twoB_1]; omega) (by decide) (by decide) (by omega)).mono ?_
    rintro e w2 hw2
    obtain ⟨v2, rfl, hx2, hk2⟩ := hx1.step hM hw2
    have hA2 := hA1.kept hk2 (hx1.apart hg hn0)
    have hm2 := hx2.2.2.2
    clear hw2 hk2 hx1 hA1
    go_wp2_with fail
    refine (wtwo_any base p T v2 _ 1 _ hx2.1 (by simp only [List.length_append, List.length_cons, List.length_nil, twoB_0, twoB_1]; omega) (by decide) (by decide) (by omega)).mono ?_
    rintro e w3 hw3
    obtain ⟨v3, rfl, hx3, hk3⟩ := hx2.step hM hw3
    have hA3 := hA2.kept hk3 (hx2.apart hg hn0)
    have hm3 := hx3.2.2.2
    clear hw3 hk3 hx2 hA2
    go_wp2_with fail
    refine (wtext_any base p T v3 _ (some ⟨w.heap.size, 1, none⟩) 8 8 ts _ hx3.1 (by simp only [List.length_append, List.length_cons, List.length_nil, twoB_0, twoB_1]; omega) (by omega) (HTO.out _ hA3) (fun b off _ e => by injection e with e; injection e with e; exact e ▸ hx3.apart hg hn0) (by omega)).mono ?_
    rintro e w4 hw4
    obtain ⟨v4, rfl, hx4, hk4⟩ := hx3.step hM hw4
    have hA4 := hA3.kept hk4 (hx3.apart hg hn0)
    have hm4 := hx4.2.2.2
    clear hw4 hk4 hx3 hA3
    go_wp2_with fail
    refine (wtext_any base p T v4 _ (some ⟨w.heap.size, 9, none⟩) 8 8 fs _ hx4.1 (by simp only [List.length_append, List.length_cons, List.length_nil, twoB_0, twoB_1]; omega) (by omega) (HFR.out _ hA4) (fun b off _ e => by injection e with e; injection e with e; exact e ▸ hx4.apart hg hn0) (by omega)).mono ?_
    rintro e w5 hw5
    obtain ⟨v5, rfl, hx5, hk5⟩ := hx4.step hM hw5
    have hA5 := hA4.kept hk5 (hx4.apart hg hn0)
    have hm5 := hx5.2.2.2
    clear hw5 hk5 hx4 hA4
    have d0 := (hA5.cell 0).trans HL0.out
    have d3 : w5.cell? ⟨w.heap.size, 17, none⟩ = some (.slice dA dn dc) := (hA5.cell 17).trans HL3.out
    have hrow : Rd w5 w5.heap.size dA dn tok ∧ ∀ b off, 0 < dn → dA = some ⟨b, off, none⟩ → ¬ WS p v5 b := hx5.row hM HDT.out
    go_wp2_with fail
    refine (wtext_any base p T v5 _ dA dn dc tok _ hx5.1 (by simp only [List.length_append, List.length_cons, List.length_nil, twoB_0, twoB_1]; omega) (by omega) hrow.1 hrow.2 (by omega)).mono ?_
    clear d0 d3
    rintro e w6 hw6
    obtain ⟨v6, rfl, hx6, hk6⟩ := hx5.step hM hw6
    have hA6 := hA5.kept hk6 (hx5.apart hg hn0)
    have hm6 := hx6.2.2.2
    clear hw6 hk6 hx5 hA5
    go_wp2_with fail
    refine (wtwo_any base p T v6 _ (16384 + n) _ hx6.1 (by simp only [List.length_append, List.length_cons, List.length_nil, twoB_0, twoB_1]; omega) (by omega) (by omega) (by omega)).mono ?_
    rintro e w9 hw9
    obtain ⟨v9, rfl, hx9, hk9⟩ := hx6.step hM hw9
    go_wp2_with fail
    go_end0
    have hfin := hx9.post hM (.tuple #[])
    rw [HE.out]
    exact hfin
  · obtain rfl : fi = 194 := by omega
    clear hfi
    go_enter Try.func59, Try.ntmps59
    go_wp2_with fail
    refine (wbyte_any base p T v bs 194 _ hx0.1 (by omega) (by decide) (by decide) (by have := hx0.2.2.2; omega)).mono ?_
    rintro e w1 hw1
    obtain ⟨v1, rfl, hx1, hk1⟩ := hx0.step hM hw1
    have hA1 := hA0.kept hk1 (hx0.apart hg hn0)
    have hm1 := hx1.2.2.2
    clear hw1 hk1 hx0 hA0
    clear e0 e4
    go_wp2_with fail
    refine (wtwo_any base p T v1 _ 0 _ hx1.1 (by simp only [List.length_append, List.length_cons, List.length_nil, twoB_0, twoB_1]; omega) (by decide) (by decide) (by omega)).mono ?_
    rintro e w2 hw2
    obtain ⟨v2, rfl, hx2, hk2⟩ := hx1.step hM hw2
    have hA2 := hA1.kept hk2 (hx1.apart hg hn0)
    have hm2 := hx2.2.2.2
    clear hw2 hk2 hx1 hA1
    go_wp2_with fail
    refine (wtwo_any base p T v2 _ 1 _ hx2.1 (by simp only [List.length_append, List.length_cons, List.length_nil, twoB_0, twoB_1]; omega) (by decide) (by decide) (by omega)).mono ?_
    rintro e w3 hw3
    obtain ⟨v3, rfl, hx3, hk3⟩ := hx2.step hM hw3
    have hA3 := hA2.kept hk3 (hx2.apart hg hn0)
    have hm3 := hx3.2.2.2
    clear hw3 hk3 hx2 hA2
    go_wp2_with fail
    refine (wtext_any base p T v3 _ (some ⟨w.heap.size, 1, none⟩) 8 8 ts _ hx3.1 (by simp only [List.length_append, List.length_cons, List.length_nil, twoB_0, twoB_1]; omega) (by omega) (HTO.out _ hA3) (fun b off _ e => by injection e with e; injection e with e; exact e ▸ hx3.apart hg hn0) (by omega)).mono ?_
    rintro e w4 hw4
    obtain ⟨v4, rfl, hx4, hk4⟩ := hx3.step hM hw4
    have hA4 := hA3.kept hk4 (hx3.apart hg hn0)
    have hm4 := hx4.2.2.2
    clear hw4 hk4 hx3 hA3
    go_wp2_with fail
    refine (wtext_any base p T v4 _ (some ⟨w.heap.size, 9, none⟩) 8 8 fs _ hx4.1 (by simp only [List.length_append, List.length_cons, List.length_nil, twoB_0, twoB_1]; omega) (by omega) (HFR.out _ hA4) (fun b off _ e => by injection e with e; injection e with e; exact e ▸ hx4.apart hg hn0) (by omega)).mono ?_
    rintro e w5 hw5
    obtain ⟨v5, rfl, hx5, hk5⟩ := hx4.step hM hw5
    have hA5 := hA4.kept hk5 (hx4.apart hg hn0)
    have hm5 := hx5.2.2.2
    clear hw5 hk5 hx4 hA4
    have d0 := (hA5.cell 0).trans HL0.out
    have d3 : w5.cell? ⟨w.heap.size, 17, none⟩ = some (.slice dA dn dc) := (hA5.cell 17).trans HL3.out
    have hrow : Rd w5 w5.heap.size dA dn tok ∧ ∀ b off, 0 < dn → dA = some ⟨b, off, none⟩ → ¬ WS p v5 b := hx5.row hM HDT.out
    go_wp2_with fail
    refine (wtext_any base p T v5 _ dA dn dc tok _ hx5.1 (by simp only [List.length_append, List.length_cons, List.length_nil, twoB_0, twoB_1]; omega) (by omega) hrow.1 hrow.2 (by omega)).mono ?_
    clear d0 d3
    rintro e w6 hw6
    obtain ⟨v6, rfl, hx6, hk6⟩ := hx5.step hM hw6
    have hA6 := hA5.kept hk6 (hx5.apart hg hn0)
    have hm6 := hx6.2.2.2
    clear hw6 hk6 hx5 hA5
    go_wp2_with fail
    refine (wtwo_any base p T v6 _ (16384 + n) _ hx6.1 (by simp only [List.length_append, List.length_cons, List.length_nil, twoB_0, twoB_1]; omega) (by omega) (by omega) (by omega)).mono ?_
    rintro e w9 hw9
    obtain ⟨v9, rfl, hx9, hk9⟩ := hx6.step hM hw9
    go_wp2_with fail
    go_end0
    have hfin := hx9.post hM (.tuple #[])
    rw [HE.out]
    exact hfin
  · obtain rfl : fi = 195 := by omega
    clear hfi
    go_enter Try.func59, Try.ntmps59
    go_wp2_with fail
    refine (wbyte_any base p T v bs 195 _ hx0.1 (by omega) (by decide) (by decide) (by have := hx0.2.2.2; omega)).mono ?_
    rintro e w1 hw1
    obtain ⟨v1, rfl, hx1, hk1⟩ := hx0.step hM hw1
    have hA1 := hA0.kept hk1 (hx0.apart hg hn0)
    have hm1 := hx1.2.2.2
    clear hw1 hk1 hx0 hA0
    clear e0 e4
    go_wp2_with fail
    refine (wtwo_any base p T v1 _ 0 _ hx1.1 (by simp only [List.length_append, List.length_cons, List.length_nil, twoB_0, twoB_1]; omega) (by decide) (by decide) (by omega)).mono ?_
    rintro e w2 hw2
    obtain ⟨v2, rfl, hx2, hk2⟩ := hx1.step hM hw2
    have hA2 := hA1.kept hk2 (hx1.apart hg hn0)
    have hm2 := hx2.2.2.2
    clear hw2 hk2 hx1 hA1
    go_wp2_with fail
    refine (wtwo_any base p T v2 _ 1 _ hx2.1 (by simp only [List.length_append, List.length_cons, List.length_nil, twoB_0, twoB_1]; omega) (by decide) (by decide) (by omega)).mono ?_
    rintro e w3 hw3
    obtain ⟨v3, rfl, hx3, hk3⟩ := hx2.step hM hw3
    have hA3 := hA2.kept hk3 (hx2.apart hg hn0)
    have hm3 := hx3.2.2.2
    clear hw3 hk3 hx2 hA2
    go_wp2_with fail
    refine (wtext_any base p T v3 _ (some ⟨w.heap.size, 1, none⟩) 8 8 ts _ hx3.1 (by simp only [List.length_append, List.length_cons, List.length_nil, twoB_0, twoB_1]; omega) (by omega) (HTO.out _ hA3) (fun b off _ e => by injection e with e; injection e with e; exact e ▸ hx3.apart hg hn0) (by omega)).mono ?_
    rintro e w4 hw4
    obtain ⟨v4, rfl, hx4, hk4⟩ := hx3.step hM hw4
    have hA4 := hA3.kept hk4 (hx3.apart hg hn0)
    have hm4 := hx4.2.2.2
    clear hw4 hk4 hx3 hA3
    go_wp2_with fail
    refine (wtext_any base p T v4 _ (some ⟨w.heap.size, 9, none⟩) 8 8 fs _ hx4.1 (by simp only [List.length_append, List.length_cons, List.length_nil, twoB_0, twoB_1]; omega) (by omega) (HFR.out _ hA4) (fun b off _ e => by injection e with e; injection e with e; exact e ▸ hx4.apart hg hn0) (by omega)).mono ?_
    rintro e w5 hw5
    obtain ⟨v5, rfl, hx5, hk5⟩ := hx4.step hM hw5
    have hA5 := hA4.kept hk5 (hx4.apart hg hn0)
    have hm5 := hx5.2.2.2
    clear hw5 hk5 hx4 hA4
    have d0 := (hA5.cell 0).trans HL0.out
    have d3 : w5.cell? ⟨w.heap.size, 17, none⟩ = some (.slice dA dn dc) := (hA5.cell 17).trans HL3.out
    have hrow : Rd w5 w5.heap.size dA dn tok ∧ ∀ b off, 0 < dn → dA = some ⟨b, off, none⟩ → ¬ WS p v5 b := hx5.row hM HDT.out
    go_wp2_with fail
    refine (wtext_any base p T v5 _ dA dn dc tok _ hx5.1 (by simp only [List.length_append, List.length_cons, List.length_nil, twoB_0, twoB_1]; omega) (by omega) hrow.1 hrow.2 (by omega)).mono ?_
    clear d0 d3
    rintro e w6 hw6
    obtain ⟨v6, rfl, hx6, hk6⟩ := hx5.step hM hw6
    have hA6 := hA5.kept hk6 (hx5.apart hg hn0)
    have hm6 := hx6.2.2.2
    clear hw6 hk6 hx5 hA5
    go_wp2_with fail
    refine (wtwo_any base p T v6 _ (16384 + n) _ hx6.1 (by simp only [List.length_append, List.length_cons, List.length_nil, twoB_0, twoB_1]; omega) (by omega) (by omega) (by omega)).mono ?_
    rintro e w9 hw9
    obtain ⟨v9, rfl, hx9, hk9⟩ := hx6.step hM hw9
    go_wp2_with fail
    go_end0
    have hfin := hx9.post hM (.tuple #[])
    rw [HE.out]
    exact hfin
set_option maxRecDepth 100000 in
set_option maxHeartbeats 4000000 in
theorem wlong_1 (base p : Nat) (T : TypeId) (v : Value) (bs tok : List Int) (m : HN) (d : Sl) (n : Int) (w : World) (h : Wtr w base p T v bs) (hl : bs.length ≤ 1000000) (hs : m.s = 1) (hw0 : 1 ≤ m.w) (hw4 : m.w ≤ 4) (hn0' : 0 ≤ n) (hn1 : n ≤ 16383)
    (hf : HFits w (fun b => ¬ WS p v b) m d tok) (htl : tok.length ≤ 32) (hbase : base ≤ w.heap.size) :
    Calls Try.prog 59 #[.pointer (some ⟨p, 0, none⟩), hdV m d, .int .i64 n] w (WPost (.tuple #[]) w base p T v (bs ++ hencS m tok n)) := by
  have hE := henc_long m tok n (by omega) bs
  obtain ⟨hwf, hdt⟩ := hf
  have htb := hwf.tb
  have hfb := hwf.fb
  have hO := or14 n hn0' hn1
  have hB0 : Below w.heap.size w (w.alloc (.cells (hdL m d).toArray 30)) := (Below.refl _ _).alloc (Nat.le_refl _) _
  have hA0 : At (w.alloc (.cells (hdL m d).toArray 30)) w.heap.size 30 (hdL m d) := At.new w _ _
  have hx0 := WSx.refl h hB0
  have hM : w.heap.size ≤ (w.alloc (.cells (hdL m d).toArray 30)).heap.size := hB0.size
  have hg : w.heap.size < (w.alloc (.cells (hdL m d).toArray 30)).heap.size := hA0.lt
  have hn0 := h.not_new (g := w.heap.size) (Nat.le_refl _)
  obtain ⟨L, hL⟩ : ∃ L, hdL m d = L := ⟨_, rfl⟩
  have hto : ∀ W : World, At W w.heap.size 30 L → Rd W W.heap.size (some ⟨w.heap.size, 1, none⟩) 8 m.t.l := fun W hW => to_rd m d (by rw [hL]; exact hW) htb
  have hfr : ∀ W : World, At W w.heap.size 30 L → Rd W W.heap.size (some ⟨w.heap.size, 9, none⟩) 8 m.f.l := fun W hW => from_rd m d (by rw [hL]; exact hW) hfb
  have hfv : hdV m d = .agg L.toArray := by rw [← hL]; rfl
  have hl0 : L[0]? = some (.int .i64 m.s) := by rw [← hL]; rfl
  have hl3 : L[17]? = some (.slice d.A d.n d.c) := by rw [← hL]; rfl
  have hl4 : L[18]? = some (.int .i64 m.w) := by rw [← hL]; rfl
  have htl8 : (textB m.t.l).length = 9 := by rw [textB8]; rfl
  have hfl8 : (textB m.f.l).length = 9 := by rw [textB8]; rfl
  have hkl := textB_le tok
  rw [hL] at hA0 hB0 hx0 hM hg
  rw [hfv]
  have hfi : hfirst m = 191 + 16 * m.s + m.w := by unfold hfirst; rw [if_neg (by omega)]
  obtain ⟨fi, hfi2⟩ : ∃ x, hfirst m = x := ⟨_, rfl⟩
  rw [hfi2] at hfi hE
  obtain ⟨wd, hwd⟩ : ∃ x, m.w = x := ⟨_, rfl⟩
  obtain ⟨ts, hts⟩ : ∃ x, m.t.l = x := ⟨_, rfl⟩
  obtain ⟨fs, hfs⟩ : ∃ x, m.f.l = x := ⟨_, rfl⟩
  rw [hwd] at hw0 hw4 hfi hl4
  rw [hts] at hto hE htl8
  rw [hfs] at hfr hE hfl8
  rw [hs] at hE hfi hl0
  rw [if_neg (by decide), List.append_nil] at hE
  have e0 := (hA0.cell 0).trans hl0
  have e4 := (hA0.cell 18).trans hl4
  have HTO := Lib.hid hto
  have HFR := Lib.hid hfr
  have HL0 := Lib.hid hl0
  have HL3 := Lib.hid hl3
  have HE := Lib.hid hE
  have HDT := Lib.hid hdt
  clear hL hfv hs htb hfb hfi2 hwd hts hfs hto hfr hl0 hl3 hl4 hE hwf hdt
  obtain ⟨M, hMM⟩ : ∃ M, (w.alloc (.cells L.toArray 30)).heap.size = M := ⟨_, rfl⟩
  rw [hMM] at hx0 hM hg
  obtain ⟨dA, dn, dc⟩ := d
  have hdn : dn ≤ 32 := by have e : tok.length = dn := HDT.out.rd.1.1; omega
  have hW : wd = 1 ∨ wd = 2 ∨ wd = 3 ∨ wd = 4 := by omega
  clear hMM hB0
  rcases hW with rfl | rfl | rfl | rfl
  · obtain rfl : fi = 208 := by omega
    clear hfi
    go_enter Try.func59, Try.ntmps59
    go_wp2_with fail
    refine (wbyte_any base p T v bs 208 _ hx0.1 (by omega) (by decide) (by decide) (by have := hx0.2.2.2; omega)).mono ?_
    rintro e w1 hw1
    obtain ⟨v1, rfl, hx1, hk1⟩ := hx0.step hM hw1
    have hA1 := hA0.kept hk1 (hx0.apart hg hn0)
    have hm1 := hx1.2.2.2
    clear hw1 hk1 hx0 hA0
    clear e0 e4
    go_wp2_with fail
    refine (wtwo_any base p T v1 _ 0 _ hx1.1 (by simp only [List.length_append, List.length_cons, List.length_nil, twoB_0, twoB_1]; omega) (by decide) (by decide) (by omega)).mono ?_
    rintro e w2 hw2
    obtain ⟨v2, rfl, hx2, hk2⟩ := hx1.step hM hw2
    have hA2 := hA1.kept hk2 (hx1.apart hg hn0)
    have hm2 := hx2.2.2.2
    clear hw2 hk2 hx1 hA1
    go_wp2_with fail
    refine (wtwo_any base p T v2 _ 1 _ hx2.1 (by simp only [List.length_append, List.length_cons, List.length_nil, twoB_0, twoB_1]; omega) (by decide) (by decide) (by omega)).mono ?_
    rintro e w3 hw3
    obtain ⟨v3, rfl, hx3, hk3⟩ := hx2.step hM hw3
    have hA3 := hA2.kept hk3 (hx2.apart hg hn0)
    have hm3 := hx3.2.2.2
    clear hw3 hk3 hx2 hA2
    go_wp2_with fail
    refine (wtext_any base p T v3 _ (some ⟨w.heap.size, 1, none⟩) 8 8 ts _ hx3.1 (by simp only [List.length_append, List.length_cons, List.length_nil, twoB_0, twoB_1]; omega) (by omega) (HTO.out _ hA3) (fun b off _ e => by injection e with e; injection e with e; exact e ▸ hx3.apart hg hn0) (by omega)).mono ?_
    rintro e w4 hw4
    obtain ⟨v4, rfl, hx4, hk4⟩ := hx3.step hM hw4
    have hA4 := hA3.kept hk4 (hx3.apart hg hn0)
    have hm4 := hx4.2.2.2
    clear hw4 hk4 hx3 hA3
    go_wp2_with fail
    refine (wtext_any base p T v4 _ (some ⟨w.heap.size, 9, none⟩) 8 8 fs _ hx4.1 (by simp only [List.length_append, List.length_cons, List.length_nil, twoB_0, twoB_1]; omega) (by omega) (HFR.out _ hA4) (fun b off _ e => by injection e with e; injection e with e; exact e ▸ hx4.apart hg hn0) (by omega)).mono ?_
    rintro e w5 hw5
    obtain ⟨v5, rfl, hx5, hk5⟩ := hx4.step hM hw5
    have hA5 := hA4.kept hk5 (hx4.apart hg hn0)
    have hm5 := hx5.2.2.2
    clear hw5 hk5 hx4 hA4
    have d0 := (hA5.cell 0).trans HL0.out
    go_wp2_with fail
    refine (wtwo_any base p T v5 _ (16384 + n) _ hx5.1 (by simp only [List.length_append, List.length_cons, List.length_nil, twoB_0, twoB_1]; omega) (by omega) (by omega) (by omega)).mono ?_
    rintro e w9 hw9
    obtain ⟨v9, rfl, hx9, hk9⟩ := hx5.step hM hw9
    go_wp2_with fail
    go_end0
    have hfin := hx9.post hM (.tuple #[])
    rw [HE.out]
    exact hfin
  · obtain rfl : fi = 209 := by omega
    clear hfi
    go_enter Try.func59, Try.ntmps59
    go_wp2_with fail
    refine (wbyte_any base p T v bs 209 _ hx0.1 (by omega) (by decide) (by decide) (by have := hx0.2.2.2; omega)).mono ?_
    rintro e w1 hw1
    obtain ⟨v1, rfl, hx1, hk1⟩ := hx0.step hM hw1
    have hA1 := hA0.kept hk1 (hx0.apart hg hn0)
    have hm1 := hx1.2.2.2
    clear hw1 hk1 hx0 hA0
    clear e0 e4
    go_wp2_with fail
    refine (wtwo_any base p T v1 _ 0 _ hx1.1 (by simp only [List.length_append, List.length_cons, List.length_nil, twoB_0, twoB_1]; omega) (by decide) (by decide) (by omega)).mono ?_
    rintro e w2 hw2
    obtain ⟨v2, rfl, hx2, hk2⟩ := hx1.step hM hw2
    have hA2 := hA1.kept hk2 (hx1.apart hg hn0)
    have hm2 := hx2.2.2.2
    clear hw2 hk2 hx1 hA1
    go_wp2_with fail
    refine (wtwo_any base p T v2 _ 1 _ hx2.1 (by simp only [List.length_append, List.length_cons, List.length_nil, twoB_0, twoB_1]; omega) (by decide) (by decide) (by omega)).mono ?_
    rintro e w3 hw3
    obtain ⟨v3, rfl, hx3, hk3⟩ := hx2.step hM hw3
    have hA3 := hA2.kept hk3 (hx2.apart hg hn0)
    have hm3 := hx3.2.2.2
    clear hw3 hk3 hx2 hA2
    go_wp2_with fail
    refine (wtext_any base p T v3 _ (some ⟨w.heap.size, 1, none⟩) 8 8 ts _ hx3.1 (by simp only [List.length_append, List.length_cons, List.length_nil, twoB_0, twoB_1]; omega) (by omega) (HTO.out _ hA3) (fun b off _ e => by injection e with e; injection e with e; exact e ▸ hx3.apart hg hn0) (by omega)).mono ?_
    rintro e w4 hw4
    obtain ⟨v4, rfl, hx4, hk4⟩ := hx3.step hM hw4
    have hA4 := hA3.kept hk4 (hx3.apart hg hn0)
    have hm4 := hx4.2.2.2
    clear hw4 hk4 hx3 hA3
    go_wp2_with fail
    refine (wtext_any base p T v4 _ (some ⟨w.heap.size, 9, none⟩) 8 8 fs _ hx4.1 (by simp only [List.length_append, List.length_cons, List.length_nil, twoB_0, twoB_1]; omega) (by omega) (HFR.out _ hA4) (fun b off _ e => by injection e with e; injection e with e; exact e ▸ hx4.apart hg hn0) (by omega)).mono ?_
    rintro e w5 hw5
    obtain ⟨v5, rfl, hx5, hk5⟩ := hx4.step hM hw5
    have hA5 := hA4.kept hk5 (hx4.apart hg hn0)
    have hm5 := hx5.2.2.2
    clear hw5 hk5 hx4 hA4
    have d0 := (hA5.cell 0).trans HL0.out
    go_wp2_with fail
    refine (wtwo_any base p T v5 _ (16384 + n) _ hx5.1 (by simp only [List.length_append, List.length_cons, List.length_nil, twoB_0, twoB_1]; omega) (by omega) (by omega) (by omega)).mono ?_
    rintro e w9 hw9
    obtain ⟨v9, rfl, hx9, hk9⟩ := hx5.step hM hw9
    go_wp2_with fail
    go_end0
    have hfin := hx9.post hM (.tuple #[])
    rw [HE.out]
    exact hfin
  · obtain rfl : fi = 210 := by omega
    clear hfi
    go_enter Try.func59, Try.ntmps59
    go_wp2_with fail
    refine (wbyte_any base p T v bs 210 _ hx0.1 (by omega) (by decide) (by decide) (by have := hx0.2.2.2; omega)).mono ?_
    rintro e w1 hw1
    obtain ⟨v1, rfl, hx1, hk1⟩ := hx0.step hM hw1
    have hA1 := hA0.kept hk1 (hx0.apart hg hn0)
    have hm1 := hx1.2.2.2
    clear hw1 hk1 hx0 hA0
    clear e0 e4
    go_wp2_with fail
    refine (wtwo_any base p T v1 _ 0 _ hx1.1 (by simp only [List.length_append, List.length_cons, List.length_nil, twoB_0, twoB_1]; omega) (by decide) (by decide) (by omega)).mono ?_
    rintro e w2 hw2
    obtain ⟨v2, rfl, hx2, hk2⟩ := hx1.step hM hw2
    have hA2 := hA1.kept hk2 (hx1.apart hg hn0)
    have hm2 := hx2.2.2.2
    clear hw2 hk2 hx1 hA1
    go_wp2_with fail
    refine (wtwo_any base p T v2 _ 1 _ hx2.1 (by simp only [List.length_append, List.length_cons, List.length_nil, twoB_0, twoB_1]; omega) (by decide) (by decide) (by omega)).mono ?_
    rintro e w3 hw3
    obtain ⟨v3, rfl, hx3, hk3⟩ := hx2.step hM hw3
    have hA3 := hA2.kept hk3 (hx2.apart hg hn0)
    have hm3 := hx3.2.2.2
    clear hw3 hk3 hx2 hA2
    go_wp2_with fail
    refine (wtext_any base p T v3 _ (some ⟨w.heap.size, 1, none⟩) 8 8 ts _ hx3.1 (by simp only [List.length_append, List.length_cons, List.length_nil, twoB_0, twoB_1]; omega) (by omega) (HTO.out _ hA3) (fun b off _ e => by injection e with e; injection e with e; exact e ▸ hx3.apart hg hn0) (by omega)).mono ?_
    rintro e w4 hw4
    obtain ⟨v4, rfl, hx4, hk4⟩ := hx3.step hM hw4
    have hA4 := hA3.kept hk4 (hx3.apart hg hn0)
    have hm4 := hx4.2.2.2
    clear hw4 hk4 hx3 hA3
    go_wp2_with fail
    refine (wtext_any base p T v4 _ (some ⟨w.heap.size, 9, none⟩) 8 8 fs _ hx4.1 (by simp only [List.length_append, List.length_cons, List.length_nil, twoB_0, twoB_1]; omega) (by omega) (HFR.out _ hA4) (fun b off _ e => by injection e with e; injection e with e; exact e ▸ hx4.apart hg hn0) (by omega)).mono ?_
    rintro e w5 hw5
    obtain ⟨v5, rfl, hx5, hk5⟩ := hx4.step hM hw5
    have hA5 := hA4.kept hk5 (hx4.apart hg hn0)
    have hm5 := hx5.2.2.2
    clear hw5 hk5 hx4 hA4
    have d0 := (hA5.cell 0).trans HL0.out
    go_wp2_with fail
    refine (wtwo_any base p T v5 _ (16384 + n) _ hx5.1 (by simp only [List.length_append, List.length_cons, List.length_nil, twoB_0, twoB_1]; omega) (by omega) (by omega) (by omega)).mono ?_
    rintro e w9 hw9
    obtain ⟨v9, rfl, hx9, hk9⟩ := hx5.step hM hw9
    go_wp2_with fail
    go_end0
    have hfin := hx9.post hM (.tuple #[])
    rw [HE.out]
    exact hfin
  · obtain rfl : fi = 211 := by omega
    clear hfi
    go_enter Try.func59, Try.ntmps59
    go_wp2_with fail
    refine (wbyte_any base p T v bs 211 _ hx0.1 (by omega) (by decide) (by decide) (by have := hx0.2.2.2; omega)).mono ?_
    rintro e w1 hw1
    obtain ⟨v1, rfl, hx1, hk1⟩ := hx0.step hM hw1
    have hA1 := hA0.kept hk1 (hx0.apart hg hn0)
    have hm1 := hx1.2.2.2
    clear hw1 hk1 hx0 hA0
    clear e0 e4
    go_wp2_with fail
    refine (wtwo_any base p T v1 _ 0 _ hx1.1 (by simp only [List.length_append, List.length_cons, List.length_nil, twoB_0, twoB_1]; omega) (by decide) (by decide) (by omega)).mono ?_
    rintro e w2 hw2
    obtain ⟨v2, rfl, hx2, hk2⟩ := hx1.step hM hw2
    have hA2 := hA1.kept hk2 (hx1.apart hg hn0)
    have hm2 := hx2.2.2.2
    clear hw2 hk2 hx1 hA1
    go_wp2_with fail
    refine (wtwo_any base p T v2 _ 1 _ hx2.1 (by simp only [List.length_append, List.length_cons, List.length_nil, twoB_0, twoB_1]; omega) (by decide) (by decide) (by omega)).mono ?_
    rintro e w3 hw3
    obtain ⟨v3, rfl, hx3, hk3⟩ := hx2.step hM hw3
    have hA3 := hA2.kept hk3 (hx2.apart hg hn0)
    have hm3 := hx3.2.2.2
    clear hw3 hk3 hx2 hA2
    go_wp2_with fail
    refine (wtext_any base p T v3 _ (some ⟨w.heap.size, 1, none⟩) 8 8 ts _ hx3.1 (by simp only [List.length_append, List.length_cons, List.length_nil, twoB_0, twoB_1]; omega) (by omega) (HTO.out _ hA3) (fun b off _ e => by injection e with e; injection e with e; exact e ▸ hx3.apart hg hn0) (by omega)).mono ?_
    rintro e w4 hw4
    obtain ⟨v4, rfl, hx4, hk4⟩ := hx3.step hM hw4
    have hA4 := hA3.kept hk4 (hx3.apart hg hn0)
    have hm4 := hx4.2.2.2
    clear hw4 hk4 hx3 hA3
    go_wp2_with fail
    refine (wtext_any base p T v4 _ (some ⟨w.heap.size, 9, none⟩) 8 8 fs _ hx4.1 (by simp only [List.length_append, List.length_cons, List.length_nil, twoB_0, twoB_1]; omega) (by omega) (HFR.out _ hA4) (fun b off _ e => by injection e with e; injection e with e; exact e ▸ hx4.apart hg hn0) (by omega)).mono ?_
    rintro e w5 hw5
    obtain ⟨v5, rfl, hx5, hk5⟩ := hx4.step hM hw5
    have hA5 := hA4.kept hk5 (hx4.apart hg hn0)
    have hm5 := hx5.2.2.2
    clear hw5 hk5 hx4 hA4
    have d0 := (hA5.cell 0).trans HL0.out
    go_wp2_with fail
    refine (wtwo_any base p T v5 _ (16384 + n) _ hx5.1 (by simp only [List.length_append, List.length_cons, List.length_nil, twoB_0, twoB_1]; omega) (by omega) (by omega) (by omega)).mono ?_
    rintro e w9 hw9
    obtain ⟨v9, rfl, hx9, hk9⟩ := hx5.step hM hw9
    go_wp2_with fail
    go_end0
    have hfin := hx9.post hM (.tuple #[])
    rw [HE.out]
    exact hfin
set_option maxRecDepth 100000 in
set_option maxHeartbeats 1000000 in
theorem wlong_any (base p : Nat) (T : TypeId) (v : Value) (bs tok : List Int) (m : HN) (d : Sl) (n : Int) (w : World) (h : Wtr w base p T v bs) (hl : bs.length ≤ 1000000) (hs : m.s = 0 ∨ m.s = 1) (hw0 : 1 ≤ m.w) (hw4 : m.w ≤ 4) (hn0' : 0 ≤ n) (hn1 : n ≤ 16383)
    (hf : HFits w (fun b => ¬ WS p v b) m d tok) (htl : tok.length ≤ 32) (hbase : base ≤ w.heap.size) :
    Calls Try.prog 59 #[.pointer (some ⟨p, 0, none⟩), hdV m d, .int .i64 n] w (WPost (.tuple #[]) w base p T v (bs ++ hencS m tok n)) := by
  rcases hs with hs | hs
  · exact wlong_0 base p T v bs tok m d n w h hl hs hw0 hw4 hn0' hn1 hf htl hbase
  · exact wlong_1 base p T v bs tok m d n w h hl hs hw0 hw4 hn0' hn1 hf htl hbase
end Go.Proofs.Ytehdilgnlhhjdaa
