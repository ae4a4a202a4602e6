/-
  Steps in a region that draws its order: free moves, loads and stores of whole blocks.
-/
import Derived.Test.YtdakbedohjemeaaProg
import Derived.Test.YtdakbedohjemeaaMq0
import Derived.Deep.RegionHeld
import Derived.Test.YtdakbedohjemeaaMq6
import Derived.Test.YtdakbedohjemeaaMq2
import Derived.Test.YtdakbedohjemeaaMq7
namespace Go.Proofs.Ytdakbedohjemeaa
section
set_option linter.unusedVariables false
set_option linter.unusedSimpArgs false
open Go.RowKit
theorem tk_dst {P : Program} {md : Region.Mode} {ops : Array Oper} {Q : Exit → Act → World → Prop} {S : World → Prop} {i : Nat} {oi : Oper} {dst : Option Tmp} {v : Value} {fuel : Nat} {listed : Array Bool} {a : Act} {w : World} (hi : ops[i]? = some oi) (hd : oi.dst = dst)
    (hs : Region.noSelect ops = true) (hf : Region.free md ops listed i = true) (hr : (Region.ready md ops listed).contains i = true)
    (hQ : ∀ c a w, Q (.panic c) (a.put dst v) w → Q (.panic c) a w) (hy : YieldsIf P ops S oi v a) (hS : S w)
    (h : wpAnyH P md ops Q S fuel (listed.setIfInBounds i true) (a.put dst v) w) : wpAnyH P md ops Q S (fuel + 1) listed a w := by
  subst hd
  exact wpAnyH_take hi hs hf hr hQ hy hS h
theorem yl_any {P : Program} {ops : Array Oper} {S : World → Prop} {op : Oper} {a : Act} (ty : TypeId) (x : Operand) (ho : op.op = .load ty x) (b o : Nat) (hx : a.eval x = .pointer (some ⟨b, o, none⟩)) (L : List Value) (d : TypeDesc) (hS : ∀ w, S w → w.rangeAt b o L)
    (hu : P.underlying ty = some d) (hd : d.isRow = true) (hi : (P.info? ty).map (·.size) = some L.length) (hw : Region.wanted op (yielded ops a.tmps) = true) : YieldsIf P ops S op (.agg L.toArray) a :=
  yieldsIf_load_mid hw _ x ho b o hx L _ hS hu hd hi
theorem step_st_any {P : Program} {ops : Array Oper} {a : Act} {w : World} {K : Act → World → Prop} {Q : Exit → Act → World → Prop} {E : Prop} {dst : Option Tmp} {x y : Operand} {ty t : TypeId} {pos : String} {after : Array Edge} {g : Option (Nat × Bool)}
    (hg : Region.wanted ⟨dst, .store ty x y, t, pos, after, g⟩ (yielded ops a.tmps) = true) (p : Nat) (T : TypeId) (l l' : List Value) (hx : a.eval x = .pointer (some ⟨p, 0, none⟩)) (hy : a.eval y = .agg l'.toArray) (hA : At w p T l) (hl : l.length = l'.length)
    (hi : (P.info? ty).map (·.size) = some l'.length) (h1 : l'.all (·.oneCell') = true) (h : ∀ w', At w' p T l' → Kept (· = p) w w' → K (a.put dst undef) w') :
    if Region.wanted ⟨dst, .store ty x y, t, pos, after, g⟩ (yielded ops a.tmps) = true then Oper.wp P ⟨dst, .store ty x y, t, pos, after, g⟩ a w K Q else E := by
  rw [if_pos hg]
  refine wp_store_mid _ x y rfl p 0 l'.toArray hx hy (by simpa using hA.there _ (by omega)) (by simpa using hi) (by simpa using h1) ?_
  have := At.setFrom l' l 0 w hA
  rw [setFrom_all l l' hl] at this
  exact h _ (by simpa using this) (by simpa using Kept.setCells (S := (· = p)) rfl l' 0 w (Kept.refl _ _))
end
section
set_option linter.unusedVariables false
set_option linter.unusedSimpArgs false
open Go.RowKit
end
section
set_option linter.unusedVariables false
set_option linter.unusedSimpArgs false
open Go.RowKit Go.ChangeShapes Go.WideShapes Go.Deep
/-- A number behind its name; nothing of 0. -/
def numB (id n : Int) : List Int := if n = 0 then [] else putS id ++ textB (putS n)
def pencS (p : PN) : List Int := numB 1 p.i ++ numB 4 p.d ++ numB 5 p.s ++ numB 8 p.m ++ (putS 0 ++ textB p.c.l)
theorem numB_le (id n : Int) : (numB id n).length ≤ 24 := by
  unfold numB
  split
  · simp
  · have := putS_le id; have := putS_le n; have := textB_le (putS n); rw [List.length_append]; omega
theorem WPost.go {r : Value} {w : World} {base p : Nat} {T : TypeId} {v : Value} {bs0 bs : List Int} {e : Ending} {w' : World} (h0 : Wtr w base p T v bs0) (h : WPost r w base p T v bs e w') :
    ∃ v', e = .returned r ∧ Wtr w' base p T v' bs ∧ Kept (fun j => base ≤ j) w w' := by
  obtain ⟨v', e1, e2, _, e4⟩ := h
  refine ⟨v', e1, e2, e4.mono fun j hj => ?_⟩
  rcases hj with rfl | hj
  · exact .inl h0.2.1
  · exact .inl (h0.2.2.1.block_lt j hj).1
set_option maxRecDepth 100000 in
set_option maxHeartbeats 1000000 in
theorem wnum_any (base p : Nat) (T : TypeId) (v : Value) (bs : List Int) (id n : Int) (w : World) (h : Wtr w base p T v bs) (hl : bs.length ≤ 1000000) (hi0 : 0 ≤ id) (hi1 : id ≤ 4611686018427387903) (h0 : 0 ≤ n) (h1 : n ≤ 4611686018427387903) (hbase : base ≤ w.heap.size) :
    Calls Try.prog 67 #[.pointer (some ⟨p, 0, none⟩), .int .u64 id, .int .u64 n] w (WPost (.tuple #[]) w base p T v (bs ++ numB id n)) := by
  have hpl : p < w.heap.size := h.1.lt
  by_cases hz : n = 0
  · have HE := Lib.hid (show bs ++ numB id n = bs by unfold numB; rw [if_pos hz, List.append_nil])
    have HW := Lib.hid h; clear h
    subst hz
    go_enter Try.func67, Try.ntmps67
    go_wp2
    go_end0
    rw [HE.out]
    exact (WSt.refl HW.out).post _
  · have hnz : (n == 0) = false := by simp; omega
    have HE := Lib.hid (show bs ++ numB id n = bs ++ putS id ++ textB (putS n) by unfold numB; rw [if_neg hz, List.append_assoc])
    have L1 := putS_le id
    have L2 := putS_le n
    go_enter Try.func67, Try.ntmps67
    go_wp2_with fail
    refine (wnew_any w).mono ?_
    rintro e w1 ⟨rfl, hW1, hs1, hb1⟩
    go_wp2_with fail
    refine (wvar_yes w.heap.size w.heap.size _ _ [] n w1 hW1 (by simp) h0 h1 (by omega)).mono ?_
    intro e w2 hp2
    obtain ⟨v2, rfl, hW2, hk2⟩ := hp2.go hW1
    rw [List.nil_append] at hW2
    have hb2 : Below w.heap.size w w2 := hk2.below hb1 (by omega) (fun j hj => hj)
    have hs2 := hk2.size
    have hT2 := (WSt.refl h).below hb2
    clear hW1 hp2 hk2 hb1
    go_wp2_with fail
    refine (wvar_yes base p T v bs id w2 hT2.1 (by omega) hi0 hi1 (by omega)).mono ?_
    intro e w3 hp3
    have hk23 := hp3.choose_spec.2.2.2
    obtain ⟨v3, rfl, hT3⟩ := hT2.step hp3
    have hW3 := hW2.kept hk23 (h.not_new (Nat.le_refl _)) (fun j hj => h.not_new (hW2.2.2.1.block_lt j hj).1)
    have hs3 := hk23.size
    clear hT2 hp3 hk23 hW2
    go_wp2_with fail
    refine (wdone_any _ _ _ _ _ _ hW3 (by omega)).mono ?_
    rintro e w4 ⟨v4, rfl, hown, hb4⟩
    obtain ⟨A, c, rfl, hc0, hc1, hrd⟩ := hown.open_
    have hbl := hown.block_lt
    have hT4 := hT3.below hb4
    have hs4 := hb4.size
    have hnn : ∀ b off, 0 < (putS n).length → A = some ⟨b, off, none⟩ → ¬ WS p v3 b := fun b off _ hA => hT3.1.not_new (hbl b (by rw [hA]; rfl)).1
    clear hW3 hown hb4 hT3 hbl
    go_wp2_with fail
    refine (wtext_any base p T v3 _ A _ c _ w4 hT4.1 (by rw [List.length_append]; omega) (by omega) hrd hnn (by omega)).mono ?_
    intro e w5 hp5
    obtain ⟨v5, rfl, hT5⟩ := hT4.step hp5
    go_wp2_with fail
    go_end0
    rw [HE.out]
    exact hT5.post _
end
section
set_option linter.unusedVariables false
set_option linter.unusedSimpArgs false
open Go.RowKit Go.ChangeShapes Go.WideShapes Go.Deep
section
variable {ops : Array Oper} {rest : List Oper} {a : Act} {w : World} {Q : Exit → Act → World → Prop} {dst : Option Tmp} {x y : Operand} {t : TypeId} {pos : String} {after : Array Edge}
theorem ld_pm (p : Nat) (l : List Value) (hx : a.eval x = .pointer (some ⟨p, 0, none⟩)) (hA : At w p 26 l) (hl : l.length = 12)
    (h : wpList Try.prog ops Q rest (a.put dst (.agg l.toArray)) w) : wpList Try.prog ops Q (⟨dst, .load 26 x, t, pos, after, none⟩ :: rest) a w :=
  wpList_load_at p _ l _ hx hA Try.underlying26 rfl (by rw [hl]; exact pm_info) h
theorem st_pm (p : Nat) (l l' : List Value) (hx : a.eval x = .pointer (some ⟨p, 0, none⟩)) (hy : a.eval y = .agg l'.toArray) (hA : At w p 26 l) (hl : l.length = 12) (hl' : l'.length = 12)
    (h1 : l'.all (·.oneCell') = true) (h : ∀ w', At w' p 26 l' → Kept (· = p) w w' → wpList Try.prog ops Q rest (a.put dst undef) w') :
    wpList Try.prog ops Q (⟨dst, .store 26 x y, t, pos, after, none⟩ :: rest) a w :=
  wpList_store_at p _ l l' hx hy hA (hl.trans hl'.symm) (by rw [hl']; exact pm_info) h1 h
theorem at_ldp {g : Option (Nat × Bool)} (h : wpList Try.prog ops Q (⟨dst, .load 26 x, t, pos, after, g⟩ :: rest) a w) : wpList Try.prog ops Q (⟨dst, .load 26 x, t, pos, after, g⟩ :: rest) a w := h
theorem at_stp {g : Option (Nat × Bool)} (h : wpList Try.prog ops Q (⟨dst, .store 26 x y, t, pos, after, g⟩ :: rest) a w) : wpList Try.prog ops Q (⟨dst, .store 26 x y, t, pos, after, g⟩ :: rest) a w := h
end
theorem pm_rd (m : PN) {w : World} {g : Nat} (h : At w g 26 (pmL m)) (hc : Byt m.c.l) : Rd w w.heap.size (some ⟨g, 4, none⟩) 8 m.c.l := by
  refine ⟨rfl, hc, fun _ => ⟨g, 4, rfl, h.lt, fun i hi => ?_⟩⟩
  rw [h.cell]
  have : i = 0 ∨ i = 1 ∨ i = 2 ∨ i = 3 ∨ i = 4 ∨ i = 5 ∨ i = 6 ∨ i = 7 := by omega
  rcases this with rfl | rfl | rfl | rfl | rfl | rfl | rfl | rfl <;> rfl
def PencPost (w : World) (bs : List Int) (e : Ending) (w' : World) : Prop := ∃ v, e = .returned (.tuple #[v, .int .i64 0]) ∧ Own w' w.heap.size 5 v bs ∧ Below w.heap.size w w'
theorem pright_parts (m : PN) (h : prightB m = true) : m.i ≤ 1073741824 ∧ m.m ≤ 1048576 ∧ m.d ≤ 1099511627776 ∧ m.s ≤ 1099511627776 := by
  unfold prightB at h
  exact of_decide_eq_true h
set_option maxRecDepth 100000 in
set_option maxHeartbeats 2000000 in
theorem penc_yes (m : PN) (w : World) (hwf : m.wf) (h : prightB m = true) :
    Calls Try.prog 46 #[pmV m] w (PencPost w (pencS m)) := by
  obtain ⟨r1, r2, r3, r4⟩ := pright_parts m h
  have hB0 : Below w.heap.size w (w.alloc (.cells (pmL m).toArray 26)) := (Below.refl _ _).alloc (Nat.le_refl _) _
  have hA0 : At (w.alloc (.cells (pmL m).toArray 26)) w.heap.size 26 (pmL m) := At.new w _ _
  have hrt := fun W => pright_any m W
  have hg : w.heap.size < (w.alloc (.cells (pmL m).toArray 26)).heap.size := hA0.lt
  rw [h] at hrt
  have hcr : ∀ W : World, At W w.heap.size 26 (pmL m) → Rd W W.heap.size (some ⟨w.heap.size, 4, none⟩) 8 m.c.l := fun W hW => pm_rd m hW hwf.cb
  have hE : pencS m = numB 1 m.i ++ numB 4 m.d ++ numB 5 m.s ++ numB 8 m.m ++ putS 0 ++ textB m.c.l := by unfold pencS; rw [List.append_assoc _ (putS 0)]
  have N1 := numB_le 1 m.i
  have N2 := numB_le 4 m.d
  have N3 := numB_le 5 m.s
  have N4 := numB_le 8 m.m
  have N5 := putS_le 0
  have b1 := hwf.i0
  have b2 := hwf.d0
  have b3 := hwf.s0
  have b4 := hwf.m0
  obtain ⟨L, hL⟩ : ∃ L, pmL m = L := ⟨_, rfl⟩
  have hLl : L.length = 12 := by rw [← hL]; rfl
  have hfv : pmV m = .agg L.toArray := by rw [← hL]; rfl
  have l0 : L[0]? = some (.int .u64 m.i) := by rw [← hL]; rfl
  have l1 : L[1]? = some (.int .u64 m.d) := by rw [← hL]; rfl
  have l2 : L[2]? = some (.int .u64 m.s) := by rw [← hL]; rfl
  have l3 : L[3]? = some (.int .u64 m.m) := by rw [← hL]; rfl
  rw [hL] at hA0 hB0 hg hcr
  rw [hfv] at hrt ⊢
  obtain ⟨cl, hcl⟩ : ∃ x, m.c.l = x := ⟨_, rfl⟩
  rw [hcl] at hcr hE
  obtain ⟨i, hi⟩ : ∃ x, m.i = x := ⟨_, rfl⟩
  obtain ⟨d, hd⟩ : ∃ x, m.d = x := ⟨_, rfl⟩
  obtain ⟨s, hs⟩ : ∃ x, m.s = x := ⟨_, rfl⟩
  obtain ⟨q, hq⟩ : ∃ x, m.m = x := ⟨_, rfl⟩
  rw [hi] at l0 r1 b1 hE N1
  rw [hd] at l1 r3 b2 hE N2
  rw [hs] at l2 r4 b3 hE N3
  rw [hq] at l3 r2 b4 hE N4
  obtain ⟨E, hEE⟩ : ∃ x, pencS m = x := ⟨_, rfl⟩
  rw [hEE] at hE ⊢
  have e0 := fun W (hA : At W w.heap.size 26 L) => (hA.cell 0).trans l0
  have e1 := fun W (hA : At W w.heap.size 26 L) => (hA.cell 1).trans l1
  have e2 := fun W (hA : At W w.heap.size 26 L) => (hA.cell 2).trans l2
  have e3 := fun W (hA : At W w.heap.size 26 L) => (hA.cell 3).trans l3
  have HLl := Lib.hid hLl
  have HRT := Lib.hid hrt
  have HCR := Lib.hid hcr
  have HE := Lib.hid hE
  have E0 := Lib.hid e0
  have E1 := Lib.hid e1
  have E2 := Lib.hid e2
  have E3 := Lib.hid e3
  clear hL hfv hLl hrt h hcl hi hd hs hq hEE hE e0 e1 e2 e3 l0 l1 l2 l3 hcr
  go_enter Try.func46, Try.ntmps46
  go_wp2_with (first | ((with_reducible refine at_ldp ?_); refine ld_pm _ _ (by rfl) hA0 HLl.out ?_) | fail)
  refine (HRT.out _).mono ?_
  rintro e w1 ⟨rfl, hb1⟩
  have hA1 := hA0.below hb1 hg
  have hB1 := hB0.trans (hb1.mono (by omega))
  have hs1 := hb1.size
  clear hb1
  go_wp2_with fail
  refine (wnew_any w1).mono ?_
  rintro e w2 ⟨rfl, hW2, hs2, hb2⟩
  have hA2 := hA1.below hb2 hA1.lt
  have hB2 := hB1.trans (hb2.mono (by omega))
  have hM : w.heap.size < w1.heap.size := hA1.lt
  have c2 := E0.out _ hA2
  clear hb2 hA0 hB0
  go_wp2_with fail
  refine (wnum_any w1.heap.size w1.heap.size _ _ _ 1 i w2 hW2 (by (try simp only [List.length_append, List.length_nil]); omega) (by omega) (by omega) (by omega) (by omega) (by have := hW2.1.lt; omega)).mono ?_
  intro e w3 hp
  obtain ⟨v3, rfl, hW3, hk⟩ := hp.go hW2
  rw [List.nil_append] at hW3
  have hA3 := hA2.kept hk (by omega)
  have hB3 := hk.below hB2 (by have := hA2.lt; omega) (fun j hj => by omega)
  have c3 := E1.out _ hA3
  clear hp hk c2 hA2 hW2
  go_wp2_with fail
  refine (wnum_any w1.heap.size w1.heap.size _ _ _ 4 d w3 hW3 (by (try simp only [List.length_append, List.length_nil]); omega) (by omega) (by omega) (by omega) (by omega) (by have := hW3.1.lt; omega)).mono ?_
  intro e w4 hp
  obtain ⟨v4, rfl, hW4, hk⟩ := hp.go hW3
  have hA4 := hA3.kept hk (by omega)
  have hB4 := hk.below hB3 (by have := hA3.lt; omega) (fun j hj => by omega)
  have c4 := E2.out _ hA4
  clear hp hk c3 hA3 hW3
  go_wp2_with fail
  refine (wnum_any w1.heap.size w1.heap.size _ _ _ 5 s w4 hW4 (by (try simp only [List.length_append, List.length_nil]); omega) (by omega) (by omega) (by omega) (by omega) (by have := hW4.1.lt; omega)).mono ?_
  intro e w5 hp
  obtain ⟨v5, rfl, hW5, hk⟩ := hp.go hW4
  have hA5 := hA4.kept hk (by omega)
  have hB5 := hk.below hB4 (by have := hA4.lt; omega) (fun j hj => by omega)
  have c5 := E3.out _ hA5
  clear hp hk c4 hA4 hW4
  go_wp2_with fail
  refine (wnum_any w1.heap.size w1.heap.size _ _ _ 8 q w5 hW5 (by (try simp only [List.length_append, List.length_nil]); omega) (by omega) (by omega) (by omega) (by omega) (by have := hW5.1.lt; omega)).mono ?_
  intro e w6 hp
  obtain ⟨v6, rfl, hW6, hk⟩ := hp.go hW5
  have hA6 := hA5.kept hk (by omega)
  have hB6 := hk.below hB5 (by have := hA5.lt; omega) (fun j hj => by omega)
  clear hp hk c5 hA5 hW5
  go_wp2_with fail
  refine (wvar_yes w1.heap.size w1.heap.size _ _ _ 0 w6 hW6 (by simp only [List.length_append]; omega) (by omega) (by omega) (by have := hW6.1.lt; omega)).mono ?_
  intro e w7 hp
  obtain ⟨v7, rfl, hW7, hk⟩ := hp.go hW6
  have hA7 := hA6.kept hk (by omega)
  have hB7 := hk.below hB6 (by have := hA6.lt; omega) (fun j hj => by omega)
  clear hp hk hA6 hW6
  go_wp2_with fail
  refine (wtext_any w1.heap.size w1.heap.size _ _ _ (some ⟨w.heap.size, 4, none⟩) 8 8 cl w7 hW7 (by simp only [List.length_append]; omega) (by omega) (HCR.out _ hA7) (fun b off _ hA => by
    injection hA with hA; injection hA with hA _ _
    rintro (hj | hj)
    · omega
    · have := (hW7.2.2.1.block_lt b hj).1; omega) (by have := hW7.1.lt; omega)).mono ?_
  intro e w8 hp
  obtain ⟨v8, rfl, hW8, hk⟩ := hp.go hW7
  have hB8 := hk.below hB7 (by have := hA7.lt; omega) (fun j hj => by omega)
  have h8 := (HCR.out _ hA7).1
  clear hp hk hA7 hW7
  have hcl8 : (textB cl).length ≤ 16 := by have := textB_le cl; omega
  go_wp2_with fail
  refine (wdone_any _ _ _ _ _ _ hW8 (by simp only [List.length_append]; omega)).mono ?_
  rintro e w9 ⟨v9, rfl, hown, hb9⟩
  go_wp2_with fail
  go_ret2
  exact ⟨v9, rfl, (hown.cast HE.out.symm).base_ hB8.size, hB8.trans (hb9.mono hB8.size)⟩
end
end Go.Proofs.Ytdakbedohjemeaa
