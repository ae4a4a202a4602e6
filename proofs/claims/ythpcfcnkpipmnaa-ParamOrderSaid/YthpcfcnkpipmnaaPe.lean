/-
  param.Encode.
-/
import Derived.Test.YthpcfcnkpipmnaaPw
namespace Go.Proofs.Ythpcfcnkpipmnaa
set_option linter.unusedVariables false
set_option linter.unusedSimpArgs false
open Go.RowKit Go.ChangeShapes Go.WideShapes Go.Deep
section
variable {ops : Array Oper} {rest : List Oper} {a : Act} {w : World} {Q : Exit → Act → World → Prop} {dst : Option Tmp} {x y : Operand} {t : TypeId} {pos : String} {after : Array Edge}
theorem ld_pm (p : Nat) (l : List Value) (hx : a.eval x = .pointer (some ⟨p, 0, none⟩)) (hA : At w p 26 l) (hl : l.length = 12)
    (h : wpList Try.prog ops Q rest (a.put dst (.agg l.toArray)) w) : wpList Try.prog ops Q (⟨dst, .load 26 x, t, pos, after, none⟩ :: rest) a w :=
  wpList_load_at p _ l _ hx hA Try.underlying26 rfl (by rw [hl]; exact pm_info) h
theorem st_pm (p : Nat) (l l' : List Value) (hx : a.eval x = .pointer (some ⟨p, 0, none⟩)) (hy : a.eval y = .agg l'.toArray) (hA : At w p 26 l) (hl : l.length = 12) (hl' : l'.length = 12)
    (h1 : l'.all (·.oneCell') = true) (h : ∀ w', At w' p 26 l' → Kept (· = p) w w' → wpList Try.prog ops Q rest (a.put dst undef) w') :
    wpList Try.prog ops Q (⟨dst, .store 26 x y, t, pos, after, none⟩ :: rest) a w :=
  wpList_store_at p _ l l' hx hy hA (hl.trans hl'.symm) (by rw [hl']; exact pm_info) h1 h
theorem at_ldp {g : Option (Nat × Bool)} (h : wpList Try.prog ops Q (⟨dst, .load 26 x, t, pos, after, g⟩ :: rest) a w) : wpList Try.prog ops Q (⟨dst, .load 26 x, t, pos, after, g⟩ :: rest) a w := h
theorem at_stp {g : Option (Nat × Bool)} (h : wpList Try.prog ops Q (⟨dst, .store 26 x y, t, pos, after, g⟩ :: rest) a w) : wpList Try.prog ops Q (⟨dst, .store 26 x y, t, pos, after, g⟩ :: rest) a w := h
end
theorem pm_rd (m : PN) {w : World} {g : Nat} (h : At w g 26 (pmL m)) (hc : Byt m.c.l) : Rd w w.heap.size (some ⟨g, 4, none⟩) 8 m.c.l := by
  refine ⟨rfl, hc, fun _ => ⟨g, 4, rfl, h.lt, fun i hi => ?_⟩⟩
  rw [h.cell]
  have : i = 0 ∨ i = 1 ∨ i = 2 ∨ i = 3 ∨ i = 4 ∨ i = 5 ∨ i = 6 ∨ i = 7 := by omega
  rcases this with rfl | rfl | rfl | rfl | rfl | rfl | rfl | rfl <;> rfl
set_option maxRecDepth 100000 in
set_option maxHeartbeats 1000000 in
theorem penc_no (m : PN) (w : World) (h : prightB m = false) :
    Calls Try.prog 15 #[pmV m] w (FrPost (.tuple #[.slice none 0 0, .int .i64 1]) w) := by
  have hB0 : Below w.heap.size w (w.alloc (.cells (pmL m).toArray 26)) := (Below.refl _ _).alloc (Nat.le_refl _) _
  have hA0 : At (w.alloc (.cells (pmL m).toArray 26)) w.heap.size 26 (pmL m) := At.new w _ _
  have hrt := fun W => pright_any m W
  have hg : w.heap.size < (w.alloc (.cells (pmL m).toArray 26)).heap.size := hA0.lt
  rw [h] at hrt
  obtain ⟨L, hL⟩ : ∃ L, pmL m = L := ⟨_, rfl⟩
  have hLl : L.length = 12 := by rw [← hL]; rfl
  have hfv : pmV m = .agg L.toArray := by rw [← hL]; rfl
  rw [hL] at hA0 hB0 hg
  rw [hfv] at hrt ⊢
  have HLl := Lib.hid hLl
  have HRT := Lib.hid hrt
  clear hL hfv hLl hrt h
  go_enter Try.func15, Try.ntmps15
  go_wp2_with (first | ((with_reducible refine at_ldp ?_); refine ld_pm _ _ (by rfl) hA0 HLl.out ?_) | fail)
  refine (HRT.out _).mono ?_
  rintro e w1 ⟨rfl, hb1⟩
  go_wp2_with fail
  go_ret2
  exact ⟨rfl, hB0.trans (hb1.mono (by omega))⟩
def PencPost (w : World) (bs : List Int) (e : Ending) (w' : World) : Prop := ∃ v, e = .returned (.tuple #[v, .int .i64 0]) ∧ Own w' w.heap.size 5 v bs ∧ Below w.heap.size w w'
theorem pright_parts (m : PN) (h : prightB m = true) : m.i ≤ 1073741824 ∧ m.m ≤ 1048576 ∧ m.d ≤ 1099511627776 ∧ m.s ≤ 1099511627776 := by
  unfold prightB at h
  exact of_decide_eq_true h
set_option maxRecDepth 100000 in
set_option maxHeartbeats 2000000 in
theorem penc_yes (m : PN) (w : World) (hwf : m.wf) (h : prightB m = true) :
    Calls Try.prog 15 #[pmV m] w (PencPost w (pencS m)) := by
  obtain ⟨r1, r2, r3, r4⟩ := pright_parts m h
  have hB0 : Below w.heap.size w (w.alloc (.cells (pmL m).toArray 26)) := (Below.refl _ _).alloc (Nat.le_refl _) _
  have hA0 : At (w.alloc (.cells (pmL m).toArray 26)) w.heap.size 26 (pmL m) := At.new w _ _
  have hrt := fun W => pright_any m W
  have hg : w.heap.size < (w.alloc (.cells (pmL m).toArray 26)).heap.size := hA0.lt
  rw [h] at hrt
  have hcr : ∀ W : World, At W w.heap.size 26 (pmL m) → Rd W W.heap.size (some ⟨w.heap.size, 4, none⟩) 8 m.c.l := fun W hW => pm_rd m hW hwf.cb
  have hE : pencS m = numB 1 m.i ++ numB 4 m.d ++ numB 5 m.s ++ numB 8 m.m ++ putS 0 ++ textB m.c.l := by unfold pencS; rw [List.append_assoc _ (putS 0)]
  have N1 := numB_le 1 m.i
  have N2 := numB_le 4 m.d
  have N3 := numB_le 5 m.s
  have N4 := numB_le 8 m.m
  have N5 := putS_le 0
  have b1 := hwf.i0
  have b2 := hwf.d0
  have b3 := hwf.s0
  have b4 := hwf.m0
  obtain ⟨L, hL⟩ : ∃ L, pmL m = L := ⟨_, rfl⟩
  have hLl : L.length = 12 := by rw [← hL]; rfl
  have hfv : pmV m = .agg L.toArray := by rw [← hL]; rfl
  have l0 : L[0]? = some (.int .u64 m.i) := by rw [← hL]; rfl
  have l1 : L[1]? = some (.int .u64 m.d) := by rw [← hL]; rfl
  have l2 : L[2]? = some (.int .u64 m.s) := by rw [← hL]; rfl
  have l3 : L[3]? = some (.int .u64 m.m) := by rw [← hL]; rfl
  rw [hL] at hA0 hB0 hg hcr
  rw [hfv] at hrt ⊢
  obtain ⟨cl, hcl⟩ : ∃ x, m.c.l = x := ⟨_, rfl⟩
  rw [hcl] at hcr hE
  obtain ⟨i, hi⟩ : ∃ x, m.i = x := ⟨_, rfl⟩
  obtain ⟨d, hd⟩ : ∃ x, m.d = x := ⟨_, rfl⟩
  obtain ⟨s, hs⟩ : ∃ x, m.s = x := ⟨_, rfl⟩
  obtain ⟨q, hq⟩ : ∃ x, m.m = x := ⟨_, rfl⟩
  rw [hi] at l0 r1 b1 hE N1
  rw [hd] at l1 r3 b2 hE N2
  rw [hs] at l2 r4 b3 hE N3
  rw [hq] at l3 r2 b4 hE N4
  obtain ⟨E, hEE⟩ : ∃ x, pencS m = x := ⟨_, rfl⟩
  rw [hEE] at hE ⊢
  have e0 := fun W (hA : At W w.heap.size 26 L) => (hA.cell 0).trans l0
  have e1 := fun W (hA : At W w.heap.size 26 L) => (hA.cell 1).trans l1
  have e2 := fun W (hA : At W w.heap.size 26 L) => (hA.cell 2).trans l2
  have e3 := fun W (hA : At W w.heap.size 26 L) => (hA.cell 3).trans l3
  have HLl := Lib.hid hLl
  have HRT := Lib.hid hrt
  have HCR := Lib.hid hcr
  have HE := Lib.hid hE
  have E0 := Lib.hid e0
  have E1 := Lib.hid e1
  have E2 := Lib.hid e2
  have E3 := Lib.hid e3
  clear hL hfv hLl hrt h hcl hi hd hs hq hEE hE e0 e1 e2 e3 l0 l1 l2 l3 hcr
  go_enter Try.func15, Try.ntmps15
  go_wp2_with (first | ((with_reducible refine at_ldp ?_); refine ld_pm _ _ (by rfl) hA0 HLl.out ?_) | fail)
  refine (HRT.out _).mono ?_
  rintro e w1 ⟨rfl, hb1⟩
  have hA1 := hA0.below hb1 hg
  have hB1 := hB0.trans (hb1.mono (by omega))
  have hs1 := hb1.size
  clear hb1
  go_wp2_with fail
  refine (new_any w1).mono ?_
  rintro e w2 ⟨rfl, hW2, hs2, hb2⟩
  have hA2 := hA1.below hb2 hA1.lt
  have hB2 := hB1.trans (hb2.mono (by omega))
  have hM : w.heap.size < w1.heap.size := hA1.lt
  have c2 := E0.out _ hA2
  clear hb2 hA0 hB0
  go_wp2_with fail
  refine (wnum_any w1.heap.size w1.heap.size _ _ _ 1 i w2 hW2 (by (try simp only [List.length_append, List.length_nil]); omega) (by omega) (by omega) (by omega) (by omega) (by have := hW2.1.lt; omega)).mono ?_
  intro e w3 hp
  obtain ⟨v3, rfl, hW3, hk⟩ := hp.go hW2
  rw [List.nil_append] at hW3
  have hA3 := hA2.kept hk (by omega)
  have hB3 := hk.below hB2 (by have := hA2.lt; omega) (fun j hj => by omega)
  have c3 := E1.out _ hA3
  clear hp hk c2 hA2 hW2
  go_wp2_with fail
  refine (wnum_any w1.heap.size w1.heap.size _ _ _ 4 d w3 hW3 (by (try simp only [List.length_append, List.length_nil]); omega) (by omega) (by omega) (by omega) (by omega) (by have := hW3.1.lt; omega)).mono ?_
  intro e w4 hp
  obtain ⟨v4, rfl, hW4, hk⟩ := hp.go hW3
  have hA4 := hA3.kept hk (by omega)
  have hB4 := hk.below hB3 (by have := hA3.lt; omega) (fun j hj => by omega)
  have c4 := E2.out _ hA4
  clear hp hk c3 hA3 hW3
  go_wp2_with fail
  refine (wnum_any w1.heap.size w1.heap.size _ _ _ 5 s w4 hW4 (by (try simp only [List.length_append, List.length_nil]); omega) (by omega) (by omega) (by omega) (by omega) (by have := hW4.1.lt; omega)).mono ?_
  intro e w5 hp
  obtain ⟨v5, rfl, hW5, hk⟩ := hp.go hW4
  have hA5 := hA4.kept hk (by omega)
  have hB5 := hk.below hB4 (by have := hA4.lt; omega) (fun j hj => by omega)
  have c5 := E3.out _ hA5
  clear hp hk c4 hA4 hW4
  go_wp2_with fail
  refine (wnum_any w1.heap.size w1.heap.size _ _ _ 8 q w5 hW5 (by (try simp only [List.length_append, List.length_nil]); omega) (by omega) (by omega) (by omega) (by omega) (by have := hW5.1.lt; omega)).mono ?_
  intro e w6 hp
  obtain ⟨v6, rfl, hW6, hk⟩ := hp.go hW5
  have hA6 := hA5.kept hk (by omega)
  have hB6 := hk.below hB5 (by have := hA5.lt; omega) (fun j hj => by omega)
  clear hp hk c5 hA5 hW5
  go_wp2_with fail
  refine (wvar_yes w1.heap.size w1.heap.size _ _ _ 0 w6 hW6 (by simp only [List.length_append]; omega) (by omega) (by omega) (by have := hW6.1.lt; omega)).mono ?_
  intro e w7 hp
  obtain ⟨v7, rfl, hW7, hk⟩ := hp.go hW6
  have hA7 := hA6.kept hk (by omega)
  have hB7 := hk.below hB6 (by have := hA6.lt; omega) (fun j hj => by omega)
  clear hp hk hA6 hW6
  go_wp2_with fail
  refine (wtext_any w1.heap.size w1.heap.size _ _ _ (some ⟨w.heap.size, 4, none⟩) 8 8 cl w7 hW7 (by simp only [List.length_append]; omega) (by omega) (HCR.out _ hA7) (fun b off _ hA => by
    injection hA with hA; injection hA with hA _ _
    rintro (hj | hj)
    · omega
    · have := (hW7.2.2.1.block_lt b hj).1; omega) (by have := hW7.1.lt; omega)).mono ?_
  intro e w8 hp
  obtain ⟨v8, rfl, hW8, hk⟩ := hp.go hW7
  have hB8 := hk.below hB7 (by have := hA7.lt; omega) (fun j hj => by omega)
  have h8 := (HCR.out _ hA7).1
  clear hp hk hA7 hW7
  have hcl8 : (textB cl).length ≤ 16 := by have := textB_le cl; omega
  go_wp2_with fail
  refine (wdone_any _ _ _ _ _ _ hW8 (by simp only [List.length_append]; omega)).mono ?_
  rintro e w9 ⟨v9, rfl, hown, hb9⟩
  go_wp2_with fail
  go_ret2
  exact ⟨v9, rfl, (hown.cast HE.out.symm).base_ hB8.size, hB8.trans (hb9.mono hB8.size)⟩
end Go.Proofs.Ythpcfcnkpipmnaa
