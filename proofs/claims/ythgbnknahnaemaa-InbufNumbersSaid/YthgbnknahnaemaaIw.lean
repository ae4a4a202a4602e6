/-
  InbufNumbers: its walk.
-/
import Derived.Test.YthgbnknahnaemaaIt
import Derived.Test.YthgbnknahnaemaaTk
import Derived.Deep.CutRange
namespace Go.Proofs.Ythgbnknahnaemaa
set_option linter.unusedVariables false
set_option linter.unusedSimpArgs false
open Go.RowKit
def acl (d : AskD) : List Value := [.int .i64 d.k, .int .i64 d.off, .int .i64 d.size, .int .i64 d.most, .bool d.fin, .bool d.raw, .int .u64 d.at_, .slice d.A d.n d.c]
def rowC (L : List AskD) : List Value := L.flatMap acl
theorem rowC_get : ∀ (L : List AskD) (j : Nat) (d : AskD), L[j]? = some d → ∀ t, t < 8 → (rowC L)[j * 8 + t]? = (acl d)[t]?
  | [], j, d, h, _, _ => by simp at h
  | x :: L, 0, d, h, t, ht => by
    simp at h
    subst h
    show (acl x ++ rowC L)[0 * 8 + t]? = _
    rw [Nat.zero_mul, Nat.zero_add, List.getElem?_append_left (by simp [acl]; omega)]
  | x :: L, j + 1, d, h, t, ht => by
    have h' : L[j]? = some d := by simpa using h
    show (acl x ++ rowC L)[(j + 1) * 8 + t]? = _
    rw [List.getElem?_append_right (by simp [acl]; omega), ← rowC_get L j d h' t ht]
    congr 1
    simp [acl]
    omega
theorem ask_lit {W : World} {B g : Nat} {L : List AskD} (h : At W g 25 (rowC L)) (hd : ∀ d ∈ L, d.wf ∧ Rd W B d.A d.n d.bs) : ∀ j d, L[j]? = some d → AskAt W B g (j * 8) d := fun j d hj => by
  have hg := rowC_get L j d hj
  have hw := hd d (List.mem_of_getElem? hj)
  exact ⟨by rw [h.cell, ← Nat.add_zero (j * 8), hg 0 (by omega)]; rfl, by rw [h.cell, hg 1 (by omega)]; rfl, by rw [h.cell, hg 2 (by omega)]; rfl, by rw [h.cell, hg 3 (by omega)]; rfl, by rw [h.cell, hg 4 (by omega)]; rfl, by rw [h.cell, hg 5 (by omega)]; rfl, by rw [h.cell, hg 6 (by omega)]; rfl, by rw [h.cell, hg 7 (by omega)]; rfl, hw.2, hw.1⟩
theorem madeL14 (n : Nat) : madeL (.int .u8 0) n = (List.replicate n (0 : Int)).map (Value.int .u8) := by
  rw [List.map_replicate]
  apply List.ext_getElem?
  intro i
  by_cases hi : i < n
  · rw [List.getElem?_replicate, if_pos hi]
    simp [madeL, madeCells, Value.cells, Nat.mod_one, hi]
  · rw [List.getElem?_eq_none (by rw [madeL_len]; omega), List.getElem?_eq_none (by simp; omega)]
theorem rd_made14 {W : World} {g B n m : Nat} (h : At W g 5 (madeL (.int .u8 0) n)) (hm : m ≤ n) (hB : g < B) : Rd W B (some ⟨g, 0, none⟩) m (List.replicate m 0) := by
  refine ⟨by simp, fun x hx => by rw [List.eq_of_mem_replicate hx]; omega, fun hp => ⟨g, 0, rfl, hB, fun i hi => ?_⟩⟩
  rw [Nat.zero_add, h.cell, madeL14, List.map_replicate, List.getElem?_replicate, if_pos (by omega), List.getD_eq_getElem?_getD, List.getElem?_replicate, if_pos hi]
  rfl
def nr0 (gl : Nat) : List AskD := [⟨0, 0, 0, 0, false, true, 1099511627777, none, 0, 0, []⟩, ⟨0, 0, 0, 0, false, true, 2008, some ⟨gl, 0, none⟩, 40, 512, List.replicate 40 0⟩, ⟨0, 0, 0, 0, false, true, 2009, some ⟨gl, 0, none⟩, 40, 512, List.replicate 40 0⟩, ⟨1, 0, 0, 9, false, false, 0, none, 0, 0, []⟩]
def nr1 (gl : Nat) : List AskD := [⟨0, 0, 0, 0, true, false, 0, some ⟨gl, 0, none⟩, 5, 512, List.replicate 5 0⟩, ⟨0, 5, 0, 0, false, false, 0, none, 0, 0, []⟩, ⟨0, 5, 0, 0, true, false, 0, none, 0, 0, []⟩, ⟨0, 6, 0, 0, true, false, 0, none, 0, 0, []⟩, ⟨0, 4, 0, 0, true, false, 0, none, 0, 0, []⟩, ⟨1, 0, 0, -1, false, false, 0, none, 0, 0, []⟩, ⟨1, 0, 0, 2, false, false, 0, none, 0, 0, []⟩, ⟨1, 0, 0, 9, false, false, 0, none, 0, 0, []⟩, ⟨1, 0, 0, 0, false, false, 0, none, 0, 0, []⟩]
def nr2 (gl : Nat) : List AskD := [⟨0, 9, 0, 0, false, false, 0, some ⟨gl, 0, none⟩, 3, 512, List.replicate 3 0⟩, ⟨0, 5, 0, 0, true, false, 0, none, 0, 0, []⟩, ⟨0, 12, 0, 0, true, false, 0, none, 0, 0, []⟩, ⟨0, 0, 0, 0, false, false, 0, some ⟨gl, 0, none⟩, 9, 512, List.replicate 9 0⟩, ⟨1, 0, 0, 5, false, false, 0, none, 0, 0, []⟩, ⟨0, 0, 0, 0, true, false, 0, some ⟨gl, 0, none⟩, 12, 512, List.replicate 12 0⟩, ⟨1, 0, 0, 99, false, false, 0, none, 0, 0, []⟩]
def nr3 (gl : Nat) : List AskD := [⟨0, 0, 0, 0, true, false, 0, none, 0, 0, []⟩, ⟨1, 0, 0, 0, false, false, 0, none, 0, 0, []⟩, ⟨0, 0, 0, 0, false, false, 0, some ⟨gl, 0, none⟩, 1, 512, List.replicate 1 0⟩]
theorem nil_wf {k off most at_ : Int} {fin raw : Bool} (h1 : I64 k) (h2 : I64 off) (h3 : I64 most) (h4 : 0 ≤ at_ ∧ at_ < 18446744073709551616) : (AskD.wf ⟨k, off, 0, most, fin, raw, at_, none, 0, 0, []⟩) :=
  ⟨h1, h2, ⟨show (-9223372036854775808 : Int) ≤ 0 by omega, show (0 : Int) < 9223372036854775808 by omega⟩, h3, h4.1, h4.2, Nat.le_refl _, Nat.zero_le _, fun _ => rfl⟩
theorem dat_wf {k off most at_ : Int} {fin raw : Bool} {gl n : Nat} (h1 : I64 k) (h2 : I64 off) (h3 : I64 most) (h4 : 0 ≤ at_ ∧ at_ < 18446744073709551616) (hn : n ≤ 512) : (AskD.wf ⟨k, off, 0, most, fin, raw, at_, some ⟨gl, 0, none⟩, n, 512, List.replicate n 0⟩) :=
  ⟨h1, h2, ⟨show (-9223372036854775808 : Int) ≤ 0 by omega, show (0 : Int) < 9223372036854775808 by omega⟩, h3, h4.1, h4.2, hn, by show 512 ≤ maxLen; unfold maxLen; omega, fun h => by cases h⟩
/-- The four rows, as far as they are laid. -/
structure Ls (Y W : World) (gl : Nat) (o0 o1 o2 o3 : Option Nat) : Prop where
  b : Below Y.heap.size Y W
  r0 : ∀ g, o0 = some g → At W g 25 (rowC (nr0 gl)) ∧ Y.heap.size ≤ g
  r1 : ∀ g, o1 = some g → At W g 25 (rowC (nr1 gl)) ∧ Y.heap.size ≤ g
  r2 : ∀ g, o2 = some g → At W g 25 (rowC (nr2 gl)) ∧ Y.heap.size ≤ g
  r3 : ∀ g, o3 = some g → At W g 25 (rowC (nr3 gl)) ∧ Y.heap.size ≤ g
theorem Ls.start (Y : World) (gl : Nat) : Ls Y Y gl none none none none := ⟨Below.refl _ _, fun g h => (by cases h), fun g h => (by cases h), fun g h => (by cases h), fun g h => (by cases h)⟩
section
variable {Y W : World} {gl : Nat} {o0 o1 o2 o3 : Option Nat}
theorem Ls.b0 (h : Ls Y W gl none o1 o2 o3) : Ls Y (W.alloc (.cells (rowC (nr0 gl)).toArray 25)) gl (some W.heap.size) o1 o2 o3 :=
  ⟨h.b.alloc h.b.size _, fun g e => (by have e' : W.heap.size = g := Option.some.inj e; subst e'; exact ⟨At.new W _ _, h.b.size⟩), fun g e => ⟨(h.r1 g e).1.alloc _, (h.r1 g e).2⟩, fun g e => ⟨(h.r2 g e).1.alloc _, (h.r2 g e).2⟩, fun g e => ⟨(h.r3 g e).1.alloc _, (h.r3 g e).2⟩⟩
theorem Ls.b1 (h : Ls Y W gl o0 none o2 o3) : Ls Y (W.alloc (.cells (rowC (nr1 gl)).toArray 25)) gl o0 (some W.heap.size) o2 o3 :=
  ⟨h.b.alloc h.b.size _, fun g e => ⟨(h.r0 g e).1.alloc _, (h.r0 g e).2⟩, fun g e => (by have e' : W.heap.size = g := Option.some.inj e; subst e'; exact ⟨At.new W _ _, h.b.size⟩), fun g e => ⟨(h.r2 g e).1.alloc _, (h.r2 g e).2⟩, fun g e => ⟨(h.r3 g e).1.alloc _, (h.r3 g e).2⟩⟩
theorem Ls.b2 (h : Ls Y W gl o0 o1 none o3) : Ls Y (W.alloc (.cells (rowC (nr2 gl)).toArray 25)) gl o0 o1 (some W.heap.size) o3 :=
  ⟨h.b.alloc h.b.size _, fun g e => ⟨(h.r0 g e).1.alloc _, (h.r0 g e).2⟩, fun g e => ⟨(h.r1 g e).1.alloc _, (h.r1 g e).2⟩, fun g e => (by have e' : W.heap.size = g := Option.some.inj e; subst e'; exact ⟨At.new W _ _, h.b.size⟩), fun g e => ⟨(h.r3 g e).1.alloc _, (h.r3 g e).2⟩⟩
theorem Ls.b3 (h : Ls Y W gl o0 o1 o2 none) : Ls Y (W.alloc (.cells (rowC (nr3 gl)).toArray 25)) gl o0 o1 o2 (some W.heap.size) :=
  ⟨h.b.alloc h.b.size _, fun g e => ⟨(h.r0 g e).1.alloc _, (h.r0 g e).2⟩, fun g e => ⟨(h.r1 g e).1.alloc _, (h.r1 g e).2⟩, fun g e => ⟨(h.r2 g e).1.alloc _, (h.r2 g e).2⟩, fun g e => (by have e' : W.heap.size = g := Option.some.inj e; subst e'; exact ⟨At.new W _ _, h.b.size⟩)⟩
end
theorem nr0_c (gl : Nat) : (rowC (nr0 gl)).toArray = #[.int .i64 0, .int .i64 0, .int .i64 0, .int .i64 0, .bool false, .bool true, .int .u64 1099511627777, .slice none 0 0, .int .i64 0, .int .i64 0, .int .i64 0, .int .i64 0, .bool false, .bool true, .int .u64 2008, .slice (some ⟨gl, 0, none⟩) 40 512, .int .i64 0, .int .i64 0, .int .i64 0, .int .i64 0, .bool false, .bool true, .int .u64 2009, .slice (some ⟨gl, 0, none⟩) 40 512, .int .i64 1, .int .i64 0, .int .i64 0, .int .i64 9, .bool false, .bool false, .int .u64 0, .slice none 0 0] := rfl
theorem nr0_d {W : World} {gl B : Nat} (h : At W gl 5 (madeL (.int .u8 0) 512)) (hB : gl < B) : ∀ d ∈ nr0 gl, d.wf ∧ Rd W B d.A d.n d.bs := by
  intro d hd
  unfold nr0 at hd
  simp only [List.mem_cons, List.not_mem_nil, or_false] at hd
  rcases hd with rfl | rfl | rfl | rfl
  · exact ⟨nil_wf (by unfold I64; omega) (by unfold I64; omega) (by unfold I64; omega) (by omega), Rd.none_ _ _ _⟩
  · exact ⟨dat_wf (n := 40) (by unfold I64; omega) (by unfold I64; omega) (by unfold I64; omega) (by omega) (by decide), rd_made14 (m := 40) h (by omega) hB⟩
  · exact ⟨dat_wf (n := 40) (by unfold I64; omega) (by unfold I64; omega) (by unfold I64; omega) (by omega) (by decide), rd_made14 (m := 40) h (by omega) hB⟩
  · exact ⟨nil_wf (by unfold I64; omega) (by unfold I64; omega) (by unfold I64; omega) (by omega), Rd.none_ _ _ _⟩
theorem nr1_c (gl : Nat) : (rowC (nr1 gl)).toArray = #[.int .i64 0, .int .i64 0, .int .i64 0, .int .i64 0, .bool true, .bool false, .int .u64 0, .slice (some ⟨gl, 0, none⟩) 5 512, .int .i64 0, .int .i64 5, .int .i64 0, .int .i64 0, .bool false, .bool false, .int .u64 0, .slice none 0 0, .int .i64 0, .int .i64 5, .int .i64 0, .int .i64 0, .bool true, .bool false, .int .u64 0, .slice none 0 0, .int .i64 0, .int .i64 6, .int .i64 0, .int .i64 0, .bool true, .bool false, .int .u64 0, .slice none 0 0, .int .i64 0, .int .i64 4, .int .i64 0, .int .i64 0, .bool true, .bool false, .int .u64 0, .slice none 0 0, .int .i64 1, .int .i64 0, .int .i64 0, .int .i64 (-1), .bool false, .bool false, .int .u64 0, .slice none 0 0, .int .i64 1, .int .i64 0, .int .i64 0, .int .i64 2, .bool false, .bool false, .int .u64 0, .slice none 0 0, .int .i64 1, .int .i64 0, .int .i64 0, .int .i64 9, .bool false, .bool false, .int .u64 0, .slice none 0 0, .int .i64 1, .int .i64 0, .int .i64 0, .int .i64 0, .bool false, .bool false, .int .u64 0, .slice none 0 0] := rfl
theorem nr1_d {W : World} {gl B : Nat} (h : At W gl 5 (madeL (.int .u8 0) 512)) (hB : gl < B) : ∀ d ∈ nr1 gl, d.wf ∧ Rd W B d.A d.n d.bs := by
  intro d hd
  unfold nr1 at hd
  simp only [List.mem_cons, List.not_mem_nil, or_false] at hd
  rcases hd with rfl | rfl | rfl | rfl | rfl | rfl | rfl | rfl | rfl
  · exact ⟨dat_wf (n := 5) (by unfold I64; omega) (by unfold I64; omega) (by unfold I64; omega) (by omega) (by decide), rd_made14 (m := 5) h (by omega) hB⟩
  · exact ⟨nil_wf (by unfold I64; omega) (by unfold I64; omega) (by unfold I64; omega) (by omega), Rd.none_ _ _ _⟩
  · exact ⟨nil_wf (by unfold I64; omega) (by unfold I64; omega) (by unfold I64; omega) (by omega), Rd.none_ _ _ _⟩
  · exact ⟨nil_wf (by unfold I64; omega) (by unfold I64; omega) (by unfold I64; omega) (by omega), Rd.none_ _ _ _⟩
  · exact ⟨nil_wf (by unfold I64; omega) (by unfold I64; omega) (by unfold I64; omega) (by omega), Rd.none_ _ _ _⟩
  · exact ⟨nil_wf (by unfold I64; omega) (by unfold I64; omega) (by unfold I64; omega) (by omega), Rd.none_ _ _ _⟩
  · exact ⟨nil_wf (by unfold I64; omega) (by unfold I64; omega) (by unfold I64; omega) (by omega), Rd.none_ _ _ _⟩
  · exact ⟨nil_wf (by unfold I64; omega) (by unfold I64; omega) (by unfold I64; omega) (by omega), Rd.none_ _ _ _⟩
  · exact ⟨nil_wf (by unfold I64; omega) (by unfold I64; omega) (by unfold I64; omega) (by omega), Rd.none_ _ _ _⟩
theorem nr2_c (gl : Nat) : (rowC (nr2 gl)).toArray = #[.int .i64 0, .int .i64 9, .int .i64 0, .int .i64 0, .bool false, .bool false, .int .u64 0, .slice (some ⟨gl, 0, none⟩) 3 512, .int .i64 0, .int .i64 5, .int .i64 0, .int .i64 0, .bool true, .bool false, .int .u64 0, .slice none 0 0, .int .i64 0, .int .i64 12, .int .i64 0, .int .i64 0, .bool true, .bool false, .int .u64 0, .slice none 0 0, .int .i64 0, .int .i64 0, .int .i64 0, .int .i64 0, .bool false, .bool false, .int .u64 0, .slice (some ⟨gl, 0, none⟩) 9 512, .int .i64 1, .int .i64 0, .int .i64 0, .int .i64 5, .bool false, .bool false, .int .u64 0, .slice none 0 0, .int .i64 0, .int .i64 0, .int .i64 0, .int .i64 0, .bool true, .bool false, .int .u64 0, .slice (some ⟨gl, 0, none⟩) 12 512, .int .i64 1, .int .i64 0, .int .i64 0, .int .i64 99, .bool false, .bool false, .int .u64 0, .slice none 0 0] := rfl
theorem nr2_d {W : World} {gl B : Nat} (h : At W gl 5 (madeL (.int .u8 0) 512)) (hB : gl < B) : ∀ d ∈ nr2 gl, d.wf ∧ Rd W B d.A d.n d.bs := by
  intro d hd
  unfold nr2 at hd
  simp only [List.mem_cons, List.not_mem_nil, or_false] at hd
  rcases hd with rfl | rfl | rfl | rfl | rfl | rfl | rfl
  · exact ⟨dat_wf (n := 3) (by unfold I64; omega) (by unfold I64; omega) (by unfold I64; omega) (by omega) (by decide), rd_made14 (m := 3) h (by omega) hB⟩
  · exact ⟨nil_wf (by unfold I64; omega) (by unfold I64; omega) (by unfold I64; omega) (by omega), Rd.none_ _ _ _⟩
  · exact ⟨nil_wf (by unfold I64; omega) (by unfold I64; omega) (by unfold I64; omega) (by omega), Rd.none_ _ _ _⟩
  · exact ⟨dat_wf (n := 9) (by unfold I64; omega) (by unfold I64; omega) (by unfold I64; omega) (by omega) (by decide), rd_made14 (m := 9) h (by omega) hB⟩
  · exact ⟨nil_wf (by unfold I64; omega) (by unfold I64; omega) (by unfold I64; omega) (by omega), Rd.none_ _ _ _⟩
  · exact ⟨dat_wf (n := 12) (by unfold I64; omega) (by unfold I64; omega) (by unfold I64; omega) (by omega) (by decide), rd_made14 (m := 12) h (by omega) hB⟩
  · exact ⟨nil_wf (by unfold I64; omega) (by unfold I64; omega) (by unfold I64; omega) (by omega), Rd.none_ _ _ _⟩
theorem nr3_c (gl : Nat) : (rowC (nr3 gl)).toArray = #[.int .i64 0, .int .i64 0, .int .i64 0, .int .i64 0, .bool true, .bool false, .int .u64 0, .slice none 0 0, .int .i64 1, .int .i64 0, .int .i64 0, .int .i64 0, .bool false, .bool false, .int .u64 0, .slice none 0 0, .int .i64 0, .int .i64 0, .int .i64 0, .int .i64 0, .bool false, .bool false, .int .u64 0, .slice (some ⟨gl, 0, none⟩) 1 512] := rfl
theorem nr3_d {W : World} {gl B : Nat} (h : At W gl 5 (madeL (.int .u8 0) 512)) (hB : gl < B) : ∀ d ∈ nr3 gl, d.wf ∧ Rd W B d.A d.n d.bs := by
  intro d hd
  unfold nr3 at hd
  simp only [List.mem_cons, List.not_mem_nil, or_false] at hd
  rcases hd with rfl | rfl | rfl
  · exact ⟨nil_wf (by unfold I64; omega) (by unfold I64; omega) (by unfold I64; omega) (by omega), Rd.none_ _ _ _⟩
  · exact ⟨nil_wf (by unfold I64; omega) (by unfold I64; omega) (by unfold I64; omega) (by omega), Rd.none_ _ _ _⟩
  · exact ⟨dat_wf (n := 1) (by unfold I64; omega) (by unfold I64; omega) (by unfold I64; omega) (by omega) (by decide), rd_made14 (m := 1) h (by omega) hB⟩
theorem ls_last {Y W : World} {gl g0 g1 g2 g3 : Nat} (h : Ls Y W gl (some g0) (some g1) (some g2) (some g3)) : Hid (Below Y.heap.size Y (W.alloc (.cells #[.slice (some ⟨g0, 0, none⟩) 4 4, .slice (some ⟨g1, 0, none⟩) 9 9, .slice (some ⟨g2, 0, none⟩) 7 7, .slice (some ⟨g3, 0, none⟩) 3 3] 26)) ∧ ∃ g0' g1' g2' g3', Ls Y (W.alloc (.cells #[.slice (some ⟨g0, 0, none⟩) 4 4, .slice (some ⟨g1, 0, none⟩) 9 9, .slice (some ⟨g2, 0, none⟩) 7 7, .slice (some ⟨g3, 0, none⟩) 3 3] 26)) gl (some g0') (some g1') (some g2') (some g3') ∧ At (W.alloc (.cells #[.slice (some ⟨g0, 0, none⟩) 4 4, .slice (some ⟨g1, 0, none⟩) 9 9, .slice (some ⟨g2, 0, none⟩) 7 7, .slice (some ⟨g3, 0, none⟩) 3 3] 26)) W.heap.size 26 [.slice (some ⟨g0', 0, none⟩) 4 4, .slice (some ⟨g1', 0, none⟩) 9 9, .slice (some ⟨g2', 0, none⟩) 7 7, .slice (some ⟨g3', 0, none⟩) 3 3]) :=
  Lib.hid ⟨h.b.alloc h.b.size _, g0, g1, g2, g3, ⟨h.b.alloc h.b.size _, fun g e => ⟨(h.r0 g e).1.alloc _, (h.r0 g e).2⟩, fun g e => ⟨(h.r1 g e).1.alloc _, (h.r1 g e).2⟩, fun g e => ⟨(h.r2 g e).1.alloc _, (h.r2 g e).2⟩, fun g e => ⟨(h.r3 g e).1.alloc _, (h.r3 g e).2⟩⟩, At.new W _ _⟩
/-- The rows one by one. -/
theorem rows4 {Y W : World} {gl g0 g1 g2 g3 g4 : Nat} (h : Ls Y W gl (some g0) (some g1) (some g2) (some g3)) (h4 : At W g4 26 [.slice (some ⟨g0, 0, none⟩) 4 4, .slice (some ⟨g1, 0, none⟩) 9 9, .slice (some ⟨g2, 0, none⟩) 7 7, .slice (some ⟨g3, 0, none⟩) 3 3]) (hl : At W gl 5 (madeL (.int .u8 0) 512)) (i : Nat) (hi : i < 4) :
    ∃ (g n : Nat) (L : List AskD), W.cell? ⟨g4, i, none⟩ = some (.slice (some ⟨g, 0, none⟩) n n) ∧ L.length = n ∧ n ≤ 9 ∧ g < W.heap.size ∧ ∀ j d, L[j]? = some d → AskAt W W.heap.size g (j * 8) d := by
  have hc : i = 0 ∨ i = 1 ∨ i = 2 ∨ i = 3 := by omega
  rcases hc with rfl | rfl | rfl | rfl
  · exact ⟨g0, 4, nr0 gl, h4.cell 0, rfl, by omega, (h.r0 g0 rfl).1.lt, ask_lit (h.r0 g0 rfl).1 (nr0_d hl hl.lt)⟩
  · exact ⟨g1, 9, nr1 gl, h4.cell 1, rfl, by omega, (h.r1 g1 rfl).1.lt, ask_lit (h.r1 g1 rfl).1 (nr1_d hl hl.lt)⟩
  · exact ⟨g2, 7, nr2 gl, h4.cell 2, rfl, by omega, (h.r2 g2 rfl).1.lt, ask_lit (h.r2 g2 rfl).1 (nr2_d hl hl.lt)⟩
  · exact ⟨g3, 3, nr3 gl, h4.cell 3, rfl, by omega, (h.r3 g3 rfl).1.lt, ask_lit (h.r3 g3 rfl).1 (nr3_d hl hl.lt)⟩
theorem wpList_make_g {P : Program} {w : World} {ops : Array Oper} {rest : List Oper} {o : Oper} {a : Act} {Q : Exit → Act → World → Prop}
    (hgw : Region.wanted o (yielded ops a.tmps) = true) (l c : Operand) (t : TypeId) (hop : o.op = Op.makeSlice t l c)
    (e : TypeId) (i : TypeInfo) (z : Value) (h1 : P.underlying t = some (.slice e)) (h2 : P.info? e = some i) (h3 : i.zero = some z) (h4 : i.size = 1)
    (kl kc : IntKind) (m : Nat) (hl : a.eval l = .int kl m) (hc : a.eval c = .int kc m) (b2 : i.bytes * m ≤ 281474976710656) (b3 : m ≤ maxLen)
    (hK : ∀ w' g, Hid (At w' g e (madeL z m)) → Hid (g = w.heap.size) → Hid (Below w.heap.size w w') → wpList P ops Q rest (a.put o.dst (.slice (some ⟨g, 0, none⟩) m m)) w') :
    wpList P ops Q (o :: rest) a w := by
  refine wpList_step fun K hK' => ?_
  rw [if_pos hgw]
  have hb' : (i.bytes : Int) * (m : Int) ≤ 281474976710656 := by
    have : ((i.bytes * m : Nat) : Int) ≤ 281474976710656 := by omega
    simpa using this
  have hrun := run_make (P := P) (w := w) t e i z h1 h2 h3 kl kc (m : Int) (m : Int) (by omega) (by omega) hb' (by unfold maxLen at b3; omega)
  unfold Oper.wp
  simp [execOp, hop, hl, hc, hrun, Result.andThen, h4]
  refine hK' _ _ (hK _ _ (Lib.hid ?_) (Lib.hid rfl) (Lib.hid ((Below.refl _ _).alloc (Nat.le_refl _) _)))
  show _ = _
  rw [heap_alloc_new]
  simp [madeL]
theorem AskAt.more {w : World} {B B' b o : Nat} {d : AskD} (h : AskAt w B b o d) (hb : B ≤ B') : AskAt w B' b o d :=
  { h with rd := ⟨h.rd.1, h.rd.2.1, fun hp => by obtain ⟨b, off, h1, h2, h3⟩ := h.rd.2.2 hp; exact ⟨b, off, h1, Nat.lt_of_lt_of_le h2 hb, h3⟩⟩ }
theorem big_e : addE bs0 0 513 false = 1 := by decide
theorem big_eq : addR bs0 0 (List.replicate 513 0) false = bs0 := by
  unfold addR
  rw [if_neg]
  rw [List.length_replicate, big_e]
  decide
theorem long_e : addE bs0 0 512 false = 0 := by decide
theorem long_r : IsR (addR bs0 0 (List.replicate 512 0) false).g (addR bs0 0 (List.replicate 512 0) false).rd 512 := by
  have h : addR bs0 0 (List.replicate 512 0) false = addS bs0 0 (List.replicate 512 0) false := by
    unfold addR
    rw [if_pos (by rw [List.length_replicate]; exact long_e)]
  rw [h]
  have hg : ∀ m, (addS bs0 0 (List.replicate 512 0) false).g ((addS bs0 0 (List.replicate 512 0) false).rd + m) = pieceB 0 (List.replicate 512 0) (0 + m) := fun m => by
    show addG bs0.g 0 (List.replicate 512 0) (0 + m) = _
    exact addG_none rfl
  refine ⟨fun i hi => ?_, ?_⟩
  · rw [hg, pieceB_in (by omega) (by rw [List.length_replicate]; omega)]
    rfl
  · rw [hg, pieceB_out (by rw [List.length_replicate]; omega)]
set_option maxHeartbeats 80000000 in
set_option maxRecDepth 100000 in
theorem inumbers_law (w : World) : Calls Try.prog 3 #[] w fun e w' => e = .returned (.bool true) ∧ Below w.heap.size w w' := by
  obtain ⟨i0, hi, hz0, hz1, hz2⟩ := o8.hi
  have hb0 := Below.refl w.heap.size w
  go_enter Try.func3, Try.ntmps3
  go_wp2_with (at_make; refine wpList_make_lc rfl (.const (.int .i64 512)) (.const (.int .i64 512)) 22 rfl 5 i0 (.int .u8 0) Try.underlying22 hi hz0 hz1 .i64 .i64 _ _ 512 512 rfl rfl rfl rfl (by omega) (by rw [hz2]; omega) (by unfold maxLen; omega) w.heap.size w hb0 (Nat.le_refl _) ?_; intro w1 gl G1 GE hg hb1 hbw1)
  have HGL : Hid (At w1 gl 5 (madeL (.int .u8 0) 512)) := Lib.hid G1.out
  have HB1 := Lib.hid hb1
  have HGE := Lib.hid hg
  clear G1 GE hg hb1 hbw1 hb0
  go_upto_region 2 with fail
  go_cut [50, 51, 52] from 9 to 52 (fun s50 s51 s52 wx => ∃ g4, s50 = .slice (some ⟨g4, 0, none⟩) 4 4 ∧ s51 = .int .i64 4 ∧ s52 = .int .i64 0 ∧ Hid (Below w1.heap.size w1 wx ∧ ∃ g0 g1 g2 g3, Ls w1 wx gl (some g0) (some g1) (some g2) (some g3) ∧ At wx g4 26 [.slice (some ⟨g0, 0, none⟩) 4 4, .slice (some ⟨g1, 0, none⟩) 9 9, .slice (some ⟨g2, 0, none⟩) 7 7, .slice (some ⟨g3, 0, none⟩) 3 3]))
  case first =>
    have hS0 : Ls w1 w1 gl none none none none := Ls.start _ _
    clear hi hz0 hz1 hz2
    refine wp_region_held_drew (S := (fun _ => True)) (by kernel_rfl) (trivial) (fun hHeld => ?_)
    have hS0 : Ls w1 w1.drew gl none none none none := ⟨⟨rfl, rfl, rfl, Nat.le_refl _, fun _ _ => rfl⟩, fun g h => (by cases h), fun g h => (by cases h), fun g h => (by cases h), fun g h => (by cases h)⟩
    generalize w1.drew = Y1 at hS0 ⊢
    refine tkq 0 (some 9) (v := ?_) rfl (Or.inl ⟨by rfl, ?_⟩) (by assumption) ?_
    rotate_left
    · intro w hSw; (try dsimp only at hSw); go_simp; first | done | (with_reducible rfl)
    simp only [Act.put, List.setIfInBounds_toArray, List.set_cons_zero, List.set_cons_succ]
    refine tkq 1 (some 10) (v := ?_) rfl (Or.inl ⟨by rfl, ?_⟩) (by assumption) ?_
    rotate_left
    · intro w hSw; (try dsimp only at hSw); go_simp; first | done | (with_reducible rfl)
    simp only [Act.put, List.setIfInBounds_toArray, List.set_cons_zero, List.set_cons_succ]
    refine tkq 2 (some 11) (v := ?_) rfl (Or.inl ⟨by rfl, ?_⟩) (by assumption) ?_
    rotate_left
    · intro w hSw; (try dsimp only at hSw); go_simp; first | done | (with_reducible rfl)
    simp only [Act.put, List.setIfInBounds_toArray, List.set_cons_zero, List.set_cons_succ]
    refine tkq 3 (some 12) (v := ?_) rfl (Or.inl ⟨by rfl, ?_⟩) (by assumption) ?_
    rotate_left
    · intro w hSw; (try dsimp only at hSw); go_simp; first | done | (with_reducible rfl)
    simp only [Act.put, List.setIfInBounds_toArray, List.set_cons_zero, List.set_cons_succ]
    refine tkq 4 (some 13) (v := ?_) rfl (Or.inl ⟨by rfl, ?_⟩) (by assumption) ?_
    rotate_left
    · intro w hSw; (try dsimp only at hSw); go_simp; first | done | (with_reducible rfl)
    simp only [Act.put, List.setIfInBounds_toArray, List.set_cons_zero, List.set_cons_succ]
    refine tkq 5 (some 14) (v := ?_) rfl (Or.inl ⟨by rfl, ?_⟩) (by assumption) ?_
    rotate_left
    · intro w hSw; (try dsimp only at hSw); go_simp; first | done | (with_reducible rfl)
    simp only [Act.put, List.setIfInBounds_toArray, List.set_cons_zero, List.set_cons_succ]
    refine tkq 6 (some 15) (v := ?_) rfl (Or.inl ⟨by rfl, ?_⟩) (by assumption) ?_
    rotate_left
    · intro w hSw; (try dsimp only at hSw); go_simp; first | done | (with_reducible rfl)
    simp only [Act.put, List.setIfInBounds_toArray, List.set_cons_zero, List.set_cons_succ]
    refine tkq 7 (some 16) (v := ?_) rfl (Or.inl ⟨by rfl, ?_⟩) (by assumption) ?_
    rotate_left
    · intro w hSw; (try dsimp only at hSw); go_simp; first | done | (with_reducible rfl)
    simp only [Act.put, List.setIfInBounds_toArray, List.set_cons_zero, List.set_cons_succ]
    refine tkq 9 (some 18) (v := ?_) rfl (Or.inl ⟨by rfl, ?_⟩) (by assumption) ?_
    rotate_left
    · intro w hSw; (try dsimp only at hSw); go_simp; first | done | (with_reducible rfl)
    simp only [Act.put, List.setIfInBounds_toArray, List.set_cons_zero, List.set_cons_succ]
    refine tkq 10 (some 19) (v := ?_) rfl (Or.inl ⟨by rfl, ?_⟩) (by assumption) ?_
    rotate_left
    · intro w hSw; (try dsimp only at hSw); go_simp; first | done | (with_reducible rfl)
    simp only [Act.put, List.setIfInBounds_toArray, List.set_cons_zero, List.set_cons_succ]
    refine tkq 11 (some 20) (v := ?_) rfl (Or.inl ⟨by rfl, ?_⟩) (by assumption) ?_
    rotate_left
    · intro w hSw; (try dsimp only at hSw); go_simp; first | done | (with_reducible rfl)
    simp only [Act.put, List.setIfInBounds_toArray, List.set_cons_zero, List.set_cons_succ]
    refine tkq 12 (some 21) (v := ?_) rfl (Or.inl ⟨by rfl, ?_⟩) (by assumption) ?_
    rotate_left
    · intro w hSw; (try dsimp only at hSw); go_simp; first | done | (with_reducible rfl)
    simp only [Act.put, List.setIfInBounds_toArray, List.set_cons_zero, List.set_cons_succ]
    refine tkq 13 (some 22) (v := ?_) rfl (Or.inl ⟨by rfl, ?_⟩) (by assumption) ?_
    rotate_left
    · intro w hSw; (try dsimp only at hSw); go_simp; first | done | (with_reducible rfl)
    simp only [Act.put, List.setIfInBounds_toArray, List.set_cons_zero, List.set_cons_succ]
    refine tkq 14 (some 23) (v := ?_) rfl (Or.inl ⟨by rfl, ?_⟩) (by assumption) ?_
    rotate_left
    · intro w hSw; (try dsimp only at hSw); go_simp; first | done | (with_reducible rfl)
    simp only [Act.put, List.setIfInBounds_toArray, List.set_cons_zero, List.set_cons_succ]
    refine tkq 15 (some 24) (v := ?_) rfl (Or.inl ⟨by rfl, ?_⟩) (by assumption) ?_
    rotate_left
    · intro w hSw; (try dsimp only at hSw); go_simp; first | done | (with_reducible rfl)
    simp only [Act.put, List.setIfInBounds_toArray, List.set_cons_zero, List.set_cons_succ]
    refine tkq 16 (some 25) (v := ?_) rfl (Or.inl ⟨by rfl, ?_⟩) (by assumption) ?_
    rotate_left
    · intro w hSw; (try dsimp only at hSw); go_simp; first | done | (with_reducible rfl)
    simp only [Act.put, List.setIfInBounds_toArray, List.set_cons_zero, List.set_cons_succ]
    refine tkq 17 (some 26) (v := ?_) rfl (Or.inl ⟨by rfl, ?_⟩) (by assumption) ?_
    rotate_left
    · intro w hSw; (try dsimp only at hSw); go_simp; first | done | (with_reducible rfl)
    simp only [Act.put, List.setIfInBounds_toArray, List.set_cons_zero, List.set_cons_succ]
    refine tkq 18 (some 27) (v := ?_) rfl (Or.inl ⟨by rfl, ?_⟩) (by assumption) ?_
    rotate_left
    · intro w hSw; (try dsimp only at hSw); go_simp; first | done | (with_reducible rfl)
    simp only [Act.put, List.setIfInBounds_toArray, List.set_cons_zero, List.set_cons_succ]
    refine tkq 19 (some 28) (v := ?_) rfl (Or.inl ⟨by rfl, ?_⟩) (by assumption) ?_
    rotate_left
    · intro w hSw; (try dsimp only at hSw); go_simp; first | done | (with_reducible rfl)
    simp only [Act.put, List.setIfInBounds_toArray, List.set_cons_zero, List.set_cons_succ]
    refine tkq 21 (some 30) (v := ?_) rfl (Or.inl ⟨by rfl, ?_⟩) (by assumption) ?_
    rotate_left
    · intro w hSw; (try dsimp only at hSw); go_simp; first | done | (with_reducible rfl)
    simp only [Act.put, List.setIfInBounds_toArray, List.set_cons_zero, List.set_cons_succ]
    refine tkq 22 (some 31) (v := ?_) rfl (Or.inl ⟨by rfl, ?_⟩) (by assumption) ?_
    rotate_left
    · intro w hSw; (try dsimp only at hSw); go_simp; first | done | (with_reducible rfl)
    simp only [Act.put, List.setIfInBounds_toArray, List.set_cons_zero, List.set_cons_succ]
    refine tkq 23 (some 32) (v := ?_) rfl (Or.inl ⟨by rfl, ?_⟩) (by assumption) ?_
    rotate_left
    · intro w hSw; (try dsimp only at hSw); go_simp; first | done | (with_reducible rfl)
    simp only [Act.put, List.setIfInBounds_toArray, List.set_cons_zero, List.set_cons_succ]
    refine tkq 24 (some 33) (v := ?_) rfl (Or.inl ⟨by rfl, ?_⟩) (by assumption) ?_
    rotate_left
    · intro w hSw; (try dsimp only at hSw); go_simp; first | done | (with_reducible rfl)
    simp only [Act.put, List.setIfInBounds_toArray, List.set_cons_zero, List.set_cons_succ]
    refine tkq 25 (some 34) (v := ?_) rfl (Or.inl ⟨by rfl, ?_⟩) (by assumption) ?_
    rotate_left
    · intro w hSw; (try dsimp only at hSw); go_simp; first | done | (with_reducible rfl)
    simp only [Act.put, List.setIfInBounds_toArray, List.set_cons_zero, List.set_cons_succ]
    refine tkq 26 (some 35) (v := ?_) rfl (Or.inl ⟨by rfl, ?_⟩) (by assumption) ?_
    rotate_left
    · intro w hSw; (try dsimp only at hSw); go_simp; first | done | (with_reducible rfl)
    simp only [Act.put, List.setIfInBounds_toArray, List.set_cons_zero, List.set_cons_succ]
    refine tkq 27 (some 36) (v := ?_) rfl (Or.inl ⟨by rfl, ?_⟩) (by assumption) ?_
    rotate_left
    · intro w hSw; (try dsimp only at hSw); go_simp; first | done | (with_reducible rfl)
    simp only [Act.put, List.setIfInBounds_toArray, List.set_cons_zero, List.set_cons_succ]
    refine tkq 28 (some 37) (v := ?_) rfl (Or.inl ⟨by rfl, ?_⟩) (by assumption) ?_
    rotate_left
    · intro w hSw; (try dsimp only at hSw); go_simp; first | done | (with_reducible rfl)
    simp only [Act.put, List.setIfInBounds_toArray, List.set_cons_zero, List.set_cons_succ]
    refine tkq 29 (some 38) (v := ?_) rfl (Or.inl ⟨by rfl, ?_⟩) (by assumption) ?_
    rotate_left
    · intro w hSw; (try dsimp only at hSw); go_simp; first | done | (with_reducible rfl)
    simp only [Act.put, List.setIfInBounds_toArray, List.set_cons_zero, List.set_cons_succ]
    refine tkq 30 (some 39) (v := ?_) rfl (Or.inl ⟨by rfl, ?_⟩) (by assumption) ?_
    rotate_left
    · intro w hSw; (try dsimp only at hSw); go_simp; first | done | (with_reducible rfl)
    simp only [Act.put, List.setIfInBounds_toArray, List.set_cons_zero, List.set_cons_succ]
    refine tkq 31 (some 40) (v := ?_) rfl (Or.inl ⟨by rfl, ?_⟩) (by assumption) ?_
    rotate_left
    · intro w hSw; (try dsimp only at hSw); go_simp; first | done | (with_reducible rfl)
    simp only [Act.put, List.setIfInBounds_toArray, List.set_cons_zero, List.set_cons_succ]
    refine tkq 32 (some 41) (v := ?_) rfl (Or.inl ⟨by rfl, ?_⟩) (by assumption) ?_
    rotate_left
    · intro w hSw; (try dsimp only at hSw); go_simp; first | done | (with_reducible rfl)
    simp only [Act.put, List.setIfInBounds_toArray, List.set_cons_zero, List.set_cons_succ]
    refine tkq 33 (some 42) (v := ?_) rfl (Or.inl ⟨by rfl, ?_⟩) (by assumption) ?_
    rotate_left
    · intro w hSw; (try dsimp only at hSw); go_simp; first | done | (with_reducible rfl)
    simp only [Act.put, List.setIfInBounds_toArray, List.set_cons_zero, List.set_cons_succ]
    refine tkq 35 (some 44) (v := ?_) rfl (Or.inl ⟨by rfl, ?_⟩) (by assumption) ?_
    rotate_left
    · intro w hSw; (try dsimp only at hSw); go_simp; first | done | (with_reducible rfl)
    simp only [Act.put, List.setIfInBounds_toArray, List.set_cons_zero, List.set_cons_succ]
    refine tkq 36 (some 45) (v := ?_) rfl (Or.inl ⟨by rfl, ?_⟩) (by assumption) ?_
    rotate_left
    · intro w hSw; (try dsimp only at hSw); go_simp; first | done | (with_reducible rfl)
    simp only [Act.put, List.setIfInBounds_toArray, List.set_cons_zero, List.set_cons_succ]
    refine tkq 37 (some 46) (v := ?_) rfl (Or.inl ⟨by rfl, ?_⟩) (by assumption) ?_
    rotate_left
    · intro w hSw; (try dsimp only at hSw); go_simp; first | done | (with_reducible rfl)
    simp only [Act.put, List.setIfInBounds_toArray, List.set_cons_zero, List.set_cons_succ]
    refine tkq 38 (some 47) (v := ?_) rfl (Or.inl ⟨by rfl, ?_⟩) (by assumption) ?_
    rotate_left
    · intro w hSw; (try dsimp only at hSw); go_simp; first | done | (with_reducible rfl)
    simp only [Act.put, List.setIfInBounds_toArray, List.set_cons_zero, List.set_cons_succ]
    refine tkq 39 (some 48) (v := ?_) rfl (Or.inl ⟨by rfl, ?_⟩) (by assumption) ?_
    rotate_left
    · intro w hSw; (try dsimp only at hSw); go_simp; first | done | (with_reducible rfl)
    simp only [Act.put, List.setIfInBounds_toArray, List.set_cons_zero, List.set_cons_succ]
    refine tkq 43 (some 52) (v := ?_) rfl (Or.inl ⟨by rfl, ?_⟩) (by assumption) ?_
    rotate_left
    · intro w hSw; (try dsimp only at hSw); go_simp; first | done | (with_reducible rfl)
    simp only [Act.put, List.setIfInBounds_toArray, List.set_cons_zero, List.set_cons_succ]
    refine wpAnyH_ready (rs := [8, 20, 34, 40]) (by kernel_rfl) (by simp) ?_
    refine AllReadyH.cons rfl (fun K hK => ?_) (AllReadyH.cons rfl (fun K hK => ?_) (AllReadyH.cons rfl (fun K hK => ?_) (AllReadyH.cons rfl (fun K hK => ?_) (AllReadyH.nil))))
    · go_simp
      go_wp2_with (fail)
      have hS1 := hS0.b0
      rw [nr0_c] at hS1
      obtain ⟨g0, hz1⟩ : ∃ g, Y1.heap.size = g := ⟨_, rfl⟩
      rw [hz1] at hS1 ⊢
      generalize hW1 : Y1.alloc (.cells #[.int .i64 0, .int .i64 0, .int .i64 0, .int .i64 0, .bool false, .bool true, .int .u64 1099511627777, .slice none 0 0, .int .i64 0, .int .i64 0, .int .i64 0, .int .i64 0, .bool false, .bool true, .int .u64 2008, .slice (some ⟨gl, 0, none⟩) 40 512, .int .i64 0, .int .i64 0, .int .i64 0, .int .i64 0, .bool false, .bool true, .int .u64 2009, .slice (some ⟨gl, 0, none⟩) 40 512, .int .i64 1, .int .i64 0, .int .i64 0, .int .i64 9, .bool false, .bool false, .int .u64 0, .slice none 0 0] 25) = W1 at hS1 ⊢
      clear hW1 hz1
      refine hK.out _ _ (trivial) (fun hHeld => ?_)
      clear hK K
      refine wpAnyH_ready (rs := [20, 34, 40]) (by kernel_rfl) (by simp) ?_
      refine AllReadyH.cons rfl (fun K hK => ?_) (AllReadyH.cons rfl (fun K hK => ?_) (AllReadyH.cons rfl (fun K hK => ?_) (AllReadyH.nil)))
      · go_simp
        go_wp2_with (fail)
        have hS2 := hS1.b1
        rw [nr1_c] at hS2
        obtain ⟨g1, hz2⟩ : ∃ g, W1.heap.size = g := ⟨_, rfl⟩
        rw [hz2] at hS2 ⊢
        generalize hW2 : W1.alloc (.cells #[.int .i64 0, .int .i64 0, .int .i64 0, .int .i64 0, .bool true, .bool false, .int .u64 0, .slice (some ⟨gl, 0, none⟩) 5 512, .int .i64 0, .int .i64 5, .int .i64 0, .int .i64 0, .bool false, .bool false, .int .u64 0, .slice none 0 0, .int .i64 0, .int .i64 5, .int .i64 0, .int .i64 0, .bool true, .bool false, .int .u64 0, .slice none 0 0, .int .i64 0, .int .i64 6, .int .i64 0, .int .i64 0, .bool true, .bool false, .int .u64 0, .slice none 0 0, .int .i64 0, .int .i64 4, .int .i64 0, .int .i64 0, .bool true, .bool false, .int .u64 0, .slice none 0 0, .int .i64 1, .int .i64 0, .int .i64 0, .int .i64 (-1), .bool false, .bool false, .int .u64 0, .slice none 0 0, .int .i64 1, .int .i64 0, .int .i64 0, .int .i64 2, .bool false, .bool false, .int .u64 0, .slice none 0 0, .int .i64 1, .int .i64 0, .int .i64 0, .int .i64 9, .bool false, .bool false, .int .u64 0, .slice none 0 0, .int .i64 1, .int .i64 0, .int .i64 0, .int .i64 0, .bool false, .bool false, .int .u64 0, .slice none 0 0] 25) = W2 at hS2 ⊢
        clear hW2 hz2
        refine hK.out _ _ (trivial) (fun hHeld => ?_)
        clear hK K
        refine wpAnyH_ready (rs := [34, 40]) (by kernel_rfl) (by simp) ?_
        refine AllReadyH.cons rfl (fun K hK => ?_) (AllReadyH.cons rfl (fun K hK => ?_) (AllReadyH.nil))
        · go_simp
          go_wp2_with (fail)
          have hS3 := hS2.b2
          rw [nr2_c] at hS3
          obtain ⟨g2, hz3⟩ : ∃ g, W2.heap.size = g := ⟨_, rfl⟩
          rw [hz3] at hS3 ⊢
          generalize hW3 : W2.alloc (.cells #[.int .i64 0, .int .i64 9, .int .i64 0, .int .i64 0, .bool false, .bool false, .int .u64 0, .slice (some ⟨gl, 0, none⟩) 3 512, .int .i64 0, .int .i64 5, .int .i64 0, .int .i64 0, .bool true, .bool false, .int .u64 0, .slice none 0 0, .int .i64 0, .int .i64 12, .int .i64 0, .int .i64 0, .bool true, .bool false, .int .u64 0, .slice none 0 0, .int .i64 0, .int .i64 0, .int .i64 0, .int .i64 0, .bool false, .bool false, .int .u64 0, .slice (some ⟨gl, 0, none⟩) 9 512, .int .i64 1, .int .i64 0, .int .i64 0, .int .i64 5, .bool false, .bool false, .int .u64 0, .slice none 0 0, .int .i64 0, .int .i64 0, .int .i64 0, .int .i64 0, .bool true, .bool false, .int .u64 0, .slice (some ⟨gl, 0, none⟩) 12 512, .int .i64 1, .int .i64 0, .int .i64 0, .int .i64 99, .bool false, .bool false, .int .u64 0, .slice none 0 0] 25) = W3 at hS3 ⊢
          clear hW3 hz3
          refine hK.out _ _ (trivial) (fun hHeld => ?_)
          clear hK K
          refine wpAnyH_ready (rs := [40]) (by kernel_rfl) (by simp) ?_
          refine AllReadyH.cons rfl (fun K hK => ?_) AllReadyH.nil
          go_simp
          go_wp2_with (fail)
          have hS4 := hS3.b3
          rw [nr3_c] at hS4
          obtain ⟨g3, hz4⟩ : ∃ g, W3.heap.size = g := ⟨_, rfl⟩
          rw [hz4] at hS4 ⊢
          generalize hW4 : W3.alloc (.cells #[.int .i64 0, .int .i64 0, .int .i64 0, .int .i64 0, .bool true, .bool false, .int .u64 0, .slice none 0 0, .int .i64 1, .int .i64 0, .int .i64 0, .int .i64 0, .bool false, .bool false, .int .u64 0, .slice none 0 0, .int .i64 0, .int .i64 0, .int .i64 0, .int .i64 0, .bool false, .bool false, .int .u64 0, .slice (some ⟨gl, 0, none⟩) 1 512] 25) = W4 at hS4 ⊢
          clear hW4 hz4
          refine hK.out _ _ (trivial) (fun hHeld => ?_)
          clear hK K
          refine wpAnyH_ready (rs := [41]) (by kernel_rfl) (by simp) ?_
          refine AllReadyH.cons rfl (fun K hK => ?_) AllReadyH.nil
          go_simp
          go_wp2_with (fail)
          have h5 := ls_last (g0 := g0) (g1 := g1) (g2 := g2) (g3 := g3) hS4
          refine hK.out _ _ (trivial) (fun hHeld => ?_)
          clear hK K
          refine tkq 42 (some 51) (v := ?_) rfl (Or.inl ⟨by rfl, ?_⟩) (by assumption) ?_
          rotate_left
          · intro w hSw; (try dsimp only at hSw); go_simp; first | done | (with_reducible rfl)
          simp only [Act.put, List.setIfInBounds_toArray, List.set_cons_zero, List.set_cons_succ]
          refine wpAnyH_done (by kernel_rfl) ?_ _
          go_wp2_with fail
          go_meet
          exact ⟨_, rfl, rfl, rfl, h5⟩
        · go_simp
          go_wp2_with (fail)
          have hS5 := hS2.b3
          rw [nr3_c] at hS5
          obtain ⟨g3, hz5⟩ : ∃ g, W2.heap.size = g := ⟨_, rfl⟩
          rw [hz5] at hS5 ⊢
          generalize hW5 : W2.alloc (.cells #[.int .i64 0, .int .i64 0, .int .i64 0, .int .i64 0, .bool true, .bool false, .int .u64 0, .slice none 0 0, .int .i64 1, .int .i64 0, .int .i64 0, .int .i64 0, .bool false, .bool false, .int .u64 0, .slice none 0 0, .int .i64 0, .int .i64 0, .int .i64 0, .int .i64 0, .bool false, .bool false, .int .u64 0, .slice (some ⟨gl, 0, none⟩) 1 512] 25) = W5 at hS5 ⊢
          clear hW5 hz5
          refine hK.out _ _ (trivial) (fun hHeld => ?_)
          clear hK K
          refine wpAnyH_ready (rs := [34]) (by kernel_rfl) (by simp) ?_
          refine AllReadyH.cons rfl (fun K hK => ?_) AllReadyH.nil
          go_simp
          go_wp2_with (fail)
          have hS6 := hS5.b2
          rw [nr2_c] at hS6
          obtain ⟨g2, hz6⟩ : ∃ g, W5.heap.size = g := ⟨_, rfl⟩
          rw [hz6] at hS6 ⊢
          generalize hW6 : W5.alloc (.cells #[.int .i64 0, .int .i64 9, .int .i64 0, .int .i64 0, .bool false, .bool false, .int .u64 0, .slice (some ⟨gl, 0, none⟩) 3 512, .int .i64 0, .int .i64 5, .int .i64 0, .int .i64 0, .bool true, .bool false, .int .u64 0, .slice none 0 0, .int .i64 0, .int .i64 12, .int .i64 0, .int .i64 0, .bool true, .bool false, .int .u64 0, .slice none 0 0, .int .i64 0, .int .i64 0, .int .i64 0, .int .i64 0, .bool false, .bool false, .int .u64 0, .slice (some ⟨gl, 0, none⟩) 9 512, .int .i64 1, .int .i64 0, .int .i64 0, .int .i64 5, .bool false, .bool false, .int .u64 0, .slice none 0 0, .int .i64 0, .int .i64 0, .int .i64 0, .int .i64 0, .bool true, .bool false, .int .u64 0, .slice (some ⟨gl, 0, none⟩) 12 512, .int .i64 1, .int .i64 0, .int .i64 0, .int .i64 99, .bool false, .bool false, .int .u64 0, .slice none 0 0] 25) = W6 at hS6 ⊢
          clear hW6 hz6
          refine hK.out _ _ (trivial) (fun hHeld => ?_)
          clear hK K
          refine wpAnyH_ready (rs := [41]) (by kernel_rfl) (by simp) ?_
          refine AllReadyH.cons rfl (fun K hK => ?_) AllReadyH.nil
          go_simp
          go_wp2_with (fail)
          have h5 := ls_last (g0 := g0) (g1 := g1) (g2 := g2) (g3 := g3) hS6
          refine hK.out _ _ (trivial) (fun hHeld => ?_)
          clear hK K
          refine tkq 42 (some 51) (v := ?_) rfl (Or.inl ⟨by rfl, ?_⟩) (by assumption) ?_
          rotate_left
          · intro w hSw; (try dsimp only at hSw); go_simp; first | done | (with_reducible rfl)
          simp only [Act.put, List.setIfInBounds_toArray, List.set_cons_zero, List.set_cons_succ]
          refine wpAnyH_done (by kernel_rfl) ?_ _
          go_wp2_with fail
          go_meet
          exact ⟨_, rfl, rfl, rfl, h5⟩
      · go_simp
        go_wp2_with (fail)
        have hS7 := hS1.b2
        rw [nr2_c] at hS7
        obtain ⟨g2, hz7⟩ : ∃ g, W1.heap.size = g := ⟨_, rfl⟩
        rw [hz7] at hS7 ⊢
        generalize hW7 : W1.alloc (.cells #[.int .i64 0, .int .i64 9, .int .i64 0, .int .i64 0, .bool false, .bool false, .int .u64 0, .slice (some ⟨gl, 0, none⟩) 3 512, .int .i64 0, .int .i64 5, .int .i64 0, .int .i64 0, .bool true, .bool false, .int .u64 0, .slice none 0 0, .int .i64 0, .int .i64 12, .int .i64 0, .int .i64 0, .bool true, .bool false, .int .u64 0, .slice none 0 0, .int .i64 0, .int .i64 0, .int .i64 0, .int .i64 0, .bool false, .bool false, .int .u64 0, .slice (some ⟨gl, 0, none⟩) 9 512, .int .i64 1, .int .i64 0, .int .i64 0, .int .i64 5, .bool false, .bool false, .int .u64 0, .slice none 0 0, .int .i64 0, .int .i64 0, .int .i64 0, .int .i64 0, .bool true, .bool false, .int .u64 0, .slice (some ⟨gl, 0, none⟩) 12 512, .int .i64 1, .int .i64 0, .int .i64 0, .int .i64 99, .bool false, .bool false, .int .u64 0, .slice none 0 0] 25) = W7 at hS7 ⊢
        clear hW7 hz7
        refine hK.out _ _ (trivial) (fun hHeld => ?_)
        clear hK K
        refine wpAnyH_ready (rs := [20, 40]) (by kernel_rfl) (by simp) ?_
        refine AllReadyH.cons rfl (fun K hK => ?_) (AllReadyH.cons rfl (fun K hK => ?_) (AllReadyH.nil))
        · go_simp
          go_wp2_with (fail)
          have hS8 := hS7.b1
          rw [nr1_c] at hS8
          obtain ⟨g1, hz8⟩ : ∃ g, W7.heap.size = g := ⟨_, rfl⟩
          rw [hz8] at hS8 ⊢
          generalize hW8 : W7.alloc (.cells #[.int .i64 0, .int .i64 0, .int .i64 0, .int .i64 0, .bool true, .bool false, .int .u64 0, .slice (some ⟨gl, 0, none⟩) 5 512, .int .i64 0, .int .i64 5, .int .i64 0, .int .i64 0, .bool false, .bool false, .int .u64 0, .slice none 0 0, .int .i64 0, .int .i64 5, .int .i64 0, .int .i64 0, .bool true, .bool false, .int .u64 0, .slice none 0 0, .int .i64 0, .int .i64 6, .int .i64 0, .int .i64 0, .bool true, .bool false, .int .u64 0, .slice none 0 0, .int .i64 0, .int .i64 4, .int .i64 0, .int .i64 0, .bool true, .bool false, .int .u64 0, .slice none 0 0, .int .i64 1, .int .i64 0, .int .i64 0, .int .i64 (-1), .bool false, .bool false, .int .u64 0, .slice none 0 0, .int .i64 1, .int .i64 0, .int .i64 0, .int .i64 2, .bool false, .bool false, .int .u64 0, .slice none 0 0, .int .i64 1, .int .i64 0, .int .i64 0, .int .i64 9, .bool false, .bool false, .int .u64 0, .slice none 0 0, .int .i64 1, .int .i64 0, .int .i64 0, .int .i64 0, .bool false, .bool false, .int .u64 0, .slice none 0 0] 25) = W8 at hS8 ⊢
          clear hW8 hz8
          refine hK.out _ _ (trivial) (fun hHeld => ?_)
          clear hK K
          refine wpAnyH_ready (rs := [40]) (by kernel_rfl) (by simp) ?_
          refine AllReadyH.cons rfl (fun K hK => ?_) AllReadyH.nil
          go_simp
          go_wp2_with (fail)
          have hS9 := hS8.b3
          rw [nr3_c] at hS9
          obtain ⟨g3, hz9⟩ : ∃ g, W8.heap.size = g := ⟨_, rfl⟩
          rw [hz9] at hS9 ⊢
          generalize hW9 : W8.alloc (.cells #[.int .i64 0, .int .i64 0, .int .i64 0, .int .i64 0, .bool true, .bool false, .int .u64 0, .slice none 0 0, .int .i64 1, .int .i64 0, .int .i64 0, .int .i64 0, .bool false, .bool false, .int .u64 0, .slice none 0 0, .int .i64 0, .int .i64 0, .int .i64 0, .int .i64 0, .bool false, .bool false, .int .u64 0, .slice (some ⟨gl, 0, none⟩) 1 512] 25) = W9 at hS9 ⊢
          clear hW9 hz9
          refine hK.out _ _ (trivial) (fun hHeld => ?_)
          clear hK K
          refine wpAnyH_ready (rs := [41]) (by kernel_rfl) (by simp) ?_
          refine AllReadyH.cons rfl (fun K hK => ?_) AllReadyH.nil
          go_simp
          go_wp2_with (fail)
          have h5 := ls_last (g0 := g0) (g1 := g1) (g2 := g2) (g3 := g3) hS9
          refine hK.out _ _ (trivial) (fun hHeld => ?_)
          clear hK K
          refine tkq 42 (some 51) (v := ?_) rfl (Or.inl ⟨by rfl, ?_⟩) (by assumption) ?_
          rotate_left
          · intro w hSw; (try dsimp only at hSw); go_simp; first | done | (with_reducible rfl)
          simp only [Act.put, List.setIfInBounds_toArray, List.set_cons_zero, List.set_cons_succ]
          refine wpAnyH_done (by kernel_rfl) ?_ _
          go_wp2_with fail
          go_meet
          exact ⟨_, rfl, rfl, rfl, h5⟩
        · go_simp
          go_wp2_with (fail)
          have hS10 := hS7.b3
          rw [nr3_c] at hS10
          obtain ⟨g3, hz10⟩ : ∃ g, W7.heap.size = g := ⟨_, rfl⟩
          rw [hz10] at hS10 ⊢
          generalize hW10 : W7.alloc (.cells #[.int .i64 0, .int .i64 0, .int .i64 0, .int .i64 0, .bool true, .bool false, .int .u64 0, .slice none 0 0, .int .i64 1, .int .i64 0, .int .i64 0, .int .i64 0, .bool false, .bool false, .int .u64 0, .slice none 0 0, .int .i64 0, .int .i64 0, .int .i64 0, .int .i64 0, .bool false, .bool false, .int .u64 0, .slice (some ⟨gl, 0, none⟩) 1 512] 25) = W10 at hS10 ⊢
          clear hW10 hz10
          refine hK.out _ _ (trivial) (fun hHeld => ?_)
          clear hK K
          refine wpAnyH_ready (rs := [20]) (by kernel_rfl) (by simp) ?_
          refine AllReadyH.cons rfl (fun K hK => ?_) AllReadyH.nil
          go_simp
          go_wp2_with (fail)
          have hS11 := hS10.b1
          rw [nr1_c] at hS11
          obtain ⟨g1, hz11⟩ : ∃ g, W10.heap.size = g := ⟨_, rfl⟩
          rw [hz11] at hS11 ⊢
          generalize hW11 : W10.alloc (.cells #[.int .i64 0, .int .i64 0, .int .i64 0, .int .i64 0, .bool true, .bool false, .int .u64 0, .slice (some ⟨gl, 0, none⟩) 5 512, .int .i64 0, .int .i64 5, .int .i64 0, .int .i64 0, .bool false, .bool false, .int .u64 0, .slice none 0 0, .int .i64 0, .int .i64 5, .int .i64 0, .int .i64 0, .bool true, .bool false, .int .u64 0, .slice none 0 0, .int .i64 0, .int .i64 6, .int .i64 0, .int .i64 0, .bool true, .bool false, .int .u64 0, .slice none 0 0, .int .i64 0, .int .i64 4, .int .i64 0, .int .i64 0, .bool true, .bool false, .int .u64 0, .slice none 0 0, .int .i64 1, .int .i64 0, .int .i64 0, .int .i64 (-1), .bool false, .bool false, .int .u64 0, .slice none 0 0, .int .i64 1, .int .i64 0, .int .i64 0, .int .i64 2, .bool false, .bool false, .int .u64 0, .slice none 0 0, .int .i64 1, .int .i64 0, .int .i64 0, .int .i64 9, .bool false, .bool false, .int .u64 0, .slice none 0 0, .int .i64 1, .int .i64 0, .int .i64 0, .int .i64 0, .bool false, .bool false, .int .u64 0, .slice none 0 0] 25) = W11 at hS11 ⊢
          clear hW11 hz11
          refine hK.out _ _ (trivial) (fun hHeld => ?_)
          clear hK K
          refine wpAnyH_ready (rs := [41]) (by kernel_rfl) (by simp) ?_
          refine AllReadyH.cons rfl (fun K hK => ?_) AllReadyH.nil
          go_simp
          go_wp2_with (fail)
          have h5 := ls_last (g0 := g0) (g1 := g1) (g2 := g2) (g3 := g3) hS11
          refine hK.out _ _ (trivial) (fun hHeld => ?_)
          clear hK K
          refine tkq 42 (some 51) (v := ?_) rfl (Or.inl ⟨by rfl, ?_⟩) (by assumption) ?_
          rotate_left
          · intro w hSw; (try dsimp only at hSw); go_simp; first | done | (with_reducible rfl)
          simp only [Act.put, List.setIfInBounds_toArray, List.set_cons_zero, List.set_cons_succ]
          refine wpAnyH_done (by kernel_rfl) ?_ _
          go_wp2_with fail
          go_meet
          exact ⟨_, rfl, rfl, rfl, h5⟩
      · go_simp
        go_wp2_with (fail)
        have hS12 := hS1.b3
        rw [nr3_c] at hS12
        obtain ⟨g3, hz12⟩ : ∃ g, W1.heap.size = g := ⟨_, rfl⟩
        rw [hz12] at hS12 ⊢
        generalize hW12 : W1.alloc (.cells #[.int .i64 0, .int .i64 0, .int .i64 0, .int .i64 0, .bool true, .bool false, .int .u64 0, .slice none 0 0, .int .i64 1, .int .i64 0, .int .i64 0, .int .i64 0, .bool false, .bool false, .int .u64 0, .slice none 0 0, .int .i64 0, .int .i64 0, .int .i64 0, .int .i64 0, .bool false, .bool false, .int .u64 0, .slice (some ⟨gl, 0, none⟩) 1 512] 25) = W12 at hS12 ⊢
        clear hW12 hz12
        refine hK.out _ _ (trivial) (fun hHeld => ?_)
        clear hK K
        refine wpAnyH_ready (rs := [20, 34]) (by kernel_rfl) (by simp) ?_
        refine AllReadyH.cons rfl (fun K hK => ?_) (AllReadyH.cons rfl (fun K hK => ?_) (AllReadyH.nil))
        · go_simp
          go_wp2_with (fail)
          have hS13 := hS12.b1
          rw [nr1_c] at hS13
          obtain ⟨g1, hz13⟩ : ∃ g, W12.heap.size = g := ⟨_, rfl⟩
          rw [hz13] at hS13 ⊢
          generalize hW13 : W12.alloc (.cells #[.int .i64 0, .int .i64 0, .int .i64 0, .int .i64 0, .bool true, .bool false, .int .u64 0, .slice (some ⟨gl, 0, none⟩) 5 512, .int .i64 0, .int .i64 5, .int .i64 0, .int .i64 0, .bool false, .bool false, .int .u64 0, .slice none 0 0, .int .i64 0, .int .i64 5, .int .i64 0, .int .i64 0, .bool true, .bool false, .int .u64 0, .slice none 0 0, .int .i64 0, .int .i64 6, .int .i64 0, .int .i64 0, .bool true, .bool false, .int .u64 0, .slice none 0 0, .int .i64 0, .int .i64 4, .int .i64 0, .int .i64 0, .bool true, .bool false, .int .u64 0, .slice none 0 0, .int .i64 1, .int .i64 0, .int .i64 0, .int .i64 (-1), .bool false, .bool false, .int .u64 0, .slice none 0 0, .int .i64 1, .int .i64 0, .int .i64 0, .int .i64 2, .bool false, .bool false, .int .u64 0, .slice none 0 0, .int .i64 1, .int .i64 0, .int .i64 0, .int .i64 9, .bool false, .bool false, .int .u64 0, .slice none 0 0, .int .i64 1, .int .i64 0, .int .i64 0, .int .i64 0, .bool false, .bool false, .int .u64 0, .slice none 0 0] 25) = W13 at hS13 ⊢
          clear hW13 hz13
          refine hK.out _ _ (trivial) (fun hHeld => ?_)
          clear hK K
          refine wpAnyH_ready (rs := [34]) (by kernel_rfl) (by simp) ?_
          refine AllReadyH.cons rfl (fun K hK => ?_) AllReadyH.nil
          go_simp
          go_wp2_with (fail)
          have hS14 := hS13.b2
          rw [nr2_c] at hS14
          obtain ⟨g2, hz14⟩ : ∃ g, W13.heap.size = g := ⟨_, rfl⟩
          rw [hz14] at hS14 ⊢
          generalize hW14 : W13.alloc (.cells #[.int .i64 0, .int .i64 9, .int .i64 0, .int .i64 0, .bool false, .bool false, .int .u64 0, .slice (some ⟨gl, 0, none⟩) 3 512, .int .i64 0, .int .i64 5, .int .i64 0, .int .i64 0, .bool true, .bool false, .int .u64 0, .slice none 0 0, .int .i64 0, .int .i64 12, .int .i64 0, .int .i64 0, .bool true, .bool false, .int .u64 0, .slice none 0 0, .int .i64 0, .int .i64 0, .int .i64 0, .int .i64 0, .bool false, .bool false, .int .u64 0, .slice (some ⟨gl, 0, none⟩) 9 512, .int .i64 1, .int .i64 0, .int .i64 0, .int .i64 5, .bool false, .bool false, .int .u64 0, .slice none 0 0, .int .i64 0, .int .i64 0, .int .i64 0, .int .i64 0, .bool true, .bool false, .int .u64 0, .slice (some ⟨gl, 0, none⟩) 12 512, .int .i64 1, .int .i64 0, .int .i64 0, .int .i64 99, .bool false, .bool false, .int .u64 0, .slice none 0 0] 25) = W14 at hS14 ⊢
          clear hW14 hz14
          refine hK.out _ _ (trivial) (fun hHeld => ?_)
          clear hK K
          refine wpAnyH_ready (rs := [41]) (by kernel_rfl) (by simp) ?_
          refine AllReadyH.cons rfl (fun K hK => ?_) AllReadyH.nil
          go_simp
          go_wp2_with (fail)
          have h5 := ls_last (g0 := g0) (g1 := g1) (g2 := g2) (g3 := g3) hS14
          refine hK.out _ _ (trivial) (fun hHeld => ?_)
          clear hK K
          refine tkq 42 (some 51) (v := ?_) rfl (Or.inl ⟨by rfl, ?_⟩) (by assumption) ?_
          rotate_left
          · intro w hSw; (try dsimp only at hSw); go_simp; first | done | (with_reducible rfl)
          simp only [Act.put, List.setIfInBounds_toArray, List.set_cons_zero, List.set_cons_succ]
          refine wpAnyH_done (by kernel_rfl) ?_ _
          go_wp2_with fail
          go_meet
          exact ⟨_, rfl, rfl, rfl, h5⟩
        · go_simp
          go_wp2_with (fail)
          have hS15 := hS12.b2
          rw [nr2_c] at hS15
          obtain ⟨g2, hz15⟩ : ∃ g, W12.heap.size = g := ⟨_, rfl⟩
          rw [hz15] at hS15 ⊢
          generalize hW15 : W12.alloc (.cells #[.int .i64 0, .int .i64 9, .int .i64 0, .int .i64 0, .bool false, .bool false, .int .u64 0, .slice (some ⟨gl, 0, none⟩) 3 512, .int .i64 0, .int .i64 5, .int .i64 0, .int .i64 0, .bool true, .bool false, .int .u64 0, .slice none 0 0, .int .i64 0, .int .i64 12, .int .i64 0, .int .i64 0, .bool true, .bool false, .int .u64 0, .slice none 0 0, .int .i64 0, .int .i64 0, .int .i64 0, .int .i64 0, .bool false, .bool false, .int .u64 0, .slice (some ⟨gl, 0, none⟩) 9 512, .int .i64 1, .int .i64 0, .int .i64 0, .int .i64 5, .bool false, .bool false, .int .u64 0, .slice none 0 0, .int .i64 0, .int .i64 0, .int .i64 0, .int .i64 0, .bool true, .bool false, .int .u64 0, .slice (some ⟨gl, 0, none⟩) 12 512, .int .i64 1, .int .i64 0, .int .i64 0, .int .i64 99, .bool false, .bool false, .int .u64 0, .slice none 0 0] 25) = W15 at hS15 ⊢
          clear hW15 hz15
          refine hK.out _ _ (trivial) (fun hHeld => ?_)
          clear hK K
          refine wpAnyH_ready (rs := [20]) (by kernel_rfl) (by simp) ?_
          refine AllReadyH.cons rfl (fun K hK => ?_) AllReadyH.nil
          go_simp
          go_wp2_with (fail)
          have hS16 := hS15.b1
          rw [nr1_c] at hS16
          obtain ⟨g1, hz16⟩ : ∃ g, W15.heap.size = g := ⟨_, rfl⟩
          rw [hz16] at hS16 ⊢
          generalize hW16 : W15.alloc (.cells #[.int .i64 0, .int .i64 0, .int .i64 0, .int .i64 0, .bool true, .bool false, .int .u64 0, .slice (some ⟨gl, 0, none⟩) 5 512, .int .i64 0, .int .i64 5, .int .i64 0, .int .i64 0, .bool false, .bool false, .int .u64 0, .slice none 0 0, .int .i64 0, .int .i64 5, .int .i64 0, .int .i64 0, .bool true, .bool false, .int .u64 0, .slice none 0 0, .int .i64 0, .int .i64 6, .int .i64 0, .int .i64 0, .bool true, .bool false, .int .u64 0, .slice none 0 0, .int .i64 0, .int .i64 4, .int .i64 0, .int .i64 0, .bool true, .bool false, .int .u64 0, .slice none 0 0, .int .i64 1, .int .i64 0, .int .i64 0, .int .i64 (-1), .bool false, .bool false, .int .u64 0, .slice none 0 0, .int .i64 1, .int .i64 0, .int .i64 0, .int .i64 2, .bool false, .bool false, .int .u64 0, .slice none 0 0, .int .i64 1, .int .i64 0, .int .i64 0, .int .i64 9, .bool false, .bool false, .int .u64 0, .slice none 0 0, .int .i64 1, .int .i64 0, .int .i64 0, .int .i64 0, .bool false, .bool false, .int .u64 0, .slice none 0 0] 25) = W16 at hS16 ⊢
          clear hW16 hz16
          refine hK.out _ _ (trivial) (fun hHeld => ?_)
          clear hK K
          refine wpAnyH_ready (rs := [41]) (by kernel_rfl) (by simp) ?_
          refine AllReadyH.cons rfl (fun K hK => ?_) AllReadyH.nil
          go_simp
          go_wp2_with (fail)
          have h5 := ls_last (g0 := g0) (g1 := g1) (g2 := g2) (g3 := g3) hS16
          refine hK.out _ _ (trivial) (fun hHeld => ?_)
          clear hK K
          refine tkq 42 (some 51) (v := ?_) rfl (Or.inl ⟨by rfl, ?_⟩) (by assumption) ?_
          rotate_left
          · intro w hSw; (try dsimp only at hSw); go_simp; first | done | (with_reducible rfl)
          simp only [Act.put, List.setIfInBounds_toArray, List.set_cons_zero, List.set_cons_succ]
          refine wpAnyH_done (by kernel_rfl) ?_ _
          go_wp2_with fail
          go_meet
          exact ⟨_, rfl, rfl, rfl, h5⟩
    · go_simp
      go_wp2_with (fail)
      have hS17 := hS0.b1
      rw [nr1_c] at hS17
      obtain ⟨g1, hz17⟩ : ∃ g, Y1.heap.size = g := ⟨_, rfl⟩
      rw [hz17] at hS17 ⊢
      generalize hW17 : Y1.alloc (.cells #[.int .i64 0, .int .i64 0, .int .i64 0, .int .i64 0, .bool true, .bool false, .int .u64 0, .slice (some ⟨gl, 0, none⟩) 5 512, .int .i64 0, .int .i64 5, .int .i64 0, .int .i64 0, .bool false, .bool false, .int .u64 0, .slice none 0 0, .int .i64 0, .int .i64 5, .int .i64 0, .int .i64 0, .bool true, .bool false, .int .u64 0, .slice none 0 0, .int .i64 0, .int .i64 6, .int .i64 0, .int .i64 0, .bool true, .bool false, .int .u64 0, .slice none 0 0, .int .i64 0, .int .i64 4, .int .i64 0, .int .i64 0, .bool true, .bool false, .int .u64 0, .slice none 0 0, .int .i64 1, .int .i64 0, .int .i64 0, .int .i64 (-1), .bool false, .bool false, .int .u64 0, .slice none 0 0, .int .i64 1, .int .i64 0, .int .i64 0, .int .i64 2, .bool false, .bool false, .int .u64 0, .slice none 0 0, .int .i64 1, .int .i64 0, .int .i64 0, .int .i64 9, .bool false, .bool false, .int .u64 0, .slice none 0 0, .int .i64 1, .int .i64 0, .int .i64 0, .int .i64 0, .bool false, .bool false, .int .u64 0, .slice none 0 0] 25) = W17 at hS17 ⊢
      clear hW17 hz17
      refine hK.out _ _ (trivial) (fun hHeld => ?_)
      clear hK K
      refine wpAnyH_ready (rs := [8, 34, 40]) (by kernel_rfl) (by simp) ?_
      refine AllReadyH.cons rfl (fun K hK => ?_) (AllReadyH.cons rfl (fun K hK => ?_) (AllReadyH.cons rfl (fun K hK => ?_) (AllReadyH.nil)))
      · go_simp
        go_wp2_with (fail)
        have hS18 := hS17.b0
        rw [nr0_c] at hS18
        obtain ⟨g0, hz18⟩ : ∃ g, W17.heap.size = g := ⟨_, rfl⟩
        rw [hz18] at hS18 ⊢
        generalize hW18 : W17.alloc (.cells #[.int .i64 0, .int .i64 0, .int .i64 0, .int .i64 0, .bool false, .bool true, .int .u64 1099511627777, .slice none 0 0, .int .i64 0, .int .i64 0, .int .i64 0, .int .i64 0, .bool false, .bool true, .int .u64 2008, .slice (some ⟨gl, 0, none⟩) 40 512, .int .i64 0, .int .i64 0, .int .i64 0, .int .i64 0, .bool false, .bool true, .int .u64 2009, .slice (some ⟨gl, 0, none⟩) 40 512, .int .i64 1, .int .i64 0, .int .i64 0, .int .i64 9, .bool false, .bool false, .int .u64 0, .slice none 0 0] 25) = W18 at hS18 ⊢
        clear hW18 hz18
        refine hK.out _ _ (trivial) (fun hHeld => ?_)
        clear hK K
        refine wpAnyH_ready (rs := [34, 40]) (by kernel_rfl) (by simp) ?_
        refine AllReadyH.cons rfl (fun K hK => ?_) (AllReadyH.cons rfl (fun K hK => ?_) (AllReadyH.nil))
        · go_simp
          go_wp2_with (fail)
          have hS19 := hS18.b2
          rw [nr2_c] at hS19
          obtain ⟨g2, hz19⟩ : ∃ g, W18.heap.size = g := ⟨_, rfl⟩
          rw [hz19] at hS19 ⊢
          generalize hW19 : W18.alloc (.cells #[.int .i64 0, .int .i64 9, .int .i64 0, .int .i64 0, .bool false, .bool false, .int .u64 0, .slice (some ⟨gl, 0, none⟩) 3 512, .int .i64 0, .int .i64 5, .int .i64 0, .int .i64 0, .bool true, .bool false, .int .u64 0, .slice none 0 0, .int .i64 0, .int .i64 12, .int .i64 0, .int .i64 0, .bool true, .bool false, .int .u64 0, .slice none 0 0, .int .i64 0, .int .i64 0, .int .i64 0, .int .i64 0, .bool false, .bool false, .int .u64 0, .slice (some ⟨gl, 0, none⟩) 9 512, .int .i64 1, .int .i64 0, .int .i64 0, .int .i64 5, .bool false, .bool false, .int .u64 0, .slice none 0 0, .int .i64 0, .int .i64 0, .int .i64 0, .int .i64 0, .bool true, .bool false, .int .u64 0, .slice (some ⟨gl, 0, none⟩) 12 512, .int .i64 1, .int .i64 0, .int .i64 0, .int .i64 99, .bool false, .bool false, .int .u64 0, .slice none 0 0] 25) = W19 at hS19 ⊢
          clear hW19 hz19
          refine hK.out _ _ (trivial) (fun hHeld => ?_)
          clear hK K
          refine wpAnyH_ready (rs := [40]) (by kernel_rfl) (by simp) ?_
          refine AllReadyH.cons rfl (fun K hK => ?_) AllReadyH.nil
          go_simp
          go_wp2_with (fail)
          have hS20 := hS19.b3
          rw [nr3_c] at hS20
          obtain ⟨g3, hz20⟩ : ∃ g, W19.heap.size = g := ⟨_, rfl⟩
          rw [hz20] at hS20 ⊢
          generalize hW20 : W19.alloc (.cells #[.int .i64 0, .int .i64 0, .int .i64 0, .int .i64 0, .bool true, .bool false, .int .u64 0, .slice none 0 0, .int .i64 1, .int .i64 0, .int .i64 0, .int .i64 0, .bool false, .bool false, .int .u64 0, .slice none 0 0, .int .i64 0, .int .i64 0, .int .i64 0, .int .i64 0, .bool false, .bool false, .int .u64 0, .slice (some ⟨gl, 0, none⟩) 1 512] 25) = W20 at hS20 ⊢
          clear hW20 hz20
          refine hK.out _ _ (trivial) (fun hHeld => ?_)
          clear hK K
          refine wpAnyH_ready (rs := [41]) (by kernel_rfl) (by simp) ?_
          refine AllReadyH.cons rfl (fun K hK => ?_) AllReadyH.nil
          go_simp
          go_wp2_with (fail)
          have h5 := ls_last (g0 := g0) (g1 := g1) (g2 := g2) (g3 := g3) hS20
          refine hK.out _ _ (trivial) (fun hHeld => ?_)
          clear hK K
          refine tkq 42 (some 51) (v := ?_) rfl (Or.inl ⟨by rfl, ?_⟩) (by assumption) ?_
          rotate_left
          · intro w hSw; (try dsimp only at hSw); go_simp; first | done | (with_reducible rfl)
          simp only [Act.put, List.setIfInBounds_toArray, List.set_cons_zero, List.set_cons_succ]
          refine wpAnyH_done (by kernel_rfl) ?_ _
          go_wp2_with fail
          go_meet
          exact ⟨_, rfl, rfl, rfl, h5⟩
        · go_simp
          go_wp2_with (fail)
          have hS21 := hS18.b3
          rw [nr3_c] at hS21
          obtain ⟨g3, hz21⟩ : ∃ g, W18.heap.size = g := ⟨_, rfl⟩
          rw [hz21] at hS21 ⊢
          generalize hW21 : W18.alloc (.cells #[.int .i64 0, .int .i64 0, .int .i64 0, .int .i64 0, .bool true, .bool false, .int .u64 0, .slice none 0 0, .int .i64 1, .int .i64 0, .int .i64 0, .int .i64 0, .bool false, .bool false, .int .u64 0, .slice none 0 0, .int .i64 0, .int .i64 0, .int .i64 0, .int .i64 0, .bool false, .bool false, .int .u64 0, .slice (some ⟨gl, 0, none⟩) 1 512] 25) = W21 at hS21 ⊢
          clear hW21 hz21
          refine hK.out _ _ (trivial) (fun hHeld => ?_)
          clear hK K
          refine wpAnyH_ready (rs := [34]) (by kernel_rfl) (by simp) ?_
          refine AllReadyH.cons rfl (fun K hK => ?_) AllReadyH.nil
          go_simp
          go_wp2_with (fail)
          have hS22 := hS21.b2
          rw [nr2_c] at hS22
          obtain ⟨g2, hz22⟩ : ∃ g, W21.heap.size = g := ⟨_, rfl⟩
          rw [hz22] at hS22 ⊢
          generalize hW22 : W21.alloc (.cells #[.int .i64 0, .int .i64 9, .int .i64 0, .int .i64 0, .bool false, .bool false, .int .u64 0, .slice (some ⟨gl, 0, none⟩) 3 512, .int .i64 0, .int .i64 5, .int .i64 0, .int .i64 0, .bool true, .bool false, .int .u64 0, .slice none 0 0, .int .i64 0, .int .i64 12, .int .i64 0, .int .i64 0, .bool true, .bool false, .int .u64 0, .slice none 0 0, .int .i64 0, .int .i64 0, .int .i64 0, .int .i64 0, .bool false, .bool false, .int .u64 0, .slice (some ⟨gl, 0, none⟩) 9 512, .int .i64 1, .int .i64 0, .int .i64 0, .int .i64 5, .bool false, .bool false, .int .u64 0, .slice none 0 0, .int .i64 0, .int .i64 0, .int .i64 0, .int .i64 0, .bool true, .bool false, .int .u64 0, .slice (some ⟨gl, 0, none⟩) 12 512, .int .i64 1, .int .i64 0, .int .i64 0, .int .i64 99, .bool false, .bool false, .int .u64 0, .slice none 0 0] 25) = W22 at hS22 ⊢
          clear hW22 hz22
          refine hK.out _ _ (trivial) (fun hHeld => ?_)
          clear hK K
          refine wpAnyH_ready (rs := [41]) (by kernel_rfl) (by simp) ?_
          refine AllReadyH.cons rfl (fun K hK => ?_) AllReadyH.nil
          go_simp
          go_wp2_with (fail)
          have h5 := ls_last (g0 := g0) (g1 := g1) (g2 := g2) (g3 := g3) hS22
          refine hK.out _ _ (trivial) (fun hHeld => ?_)
          clear hK K
          refine tkq 42 (some 51) (v := ?_) rfl (Or.inl ⟨by rfl, ?_⟩) (by assumption) ?_
          rotate_left
          · intro w hSw; (try dsimp only at hSw); go_simp; first | done | (with_reducible rfl)
          simp only [Act.put, List.setIfInBounds_toArray, List.set_cons_zero, List.set_cons_succ]
          refine wpAnyH_done (by kernel_rfl) ?_ _
          go_wp2_with fail
          go_meet
          exact ⟨_, rfl, rfl, rfl, h5⟩
      · go_simp
        go_wp2_with (fail)
        have hS23 := hS17.b2
        rw [nr2_c] at hS23
        obtain ⟨g2, hz23⟩ : ∃ g, W17.heap.size = g := ⟨_, rfl⟩
        rw [hz23] at hS23 ⊢
        generalize hW23 : W17.alloc (.cells #[.int .i64 0, .int .i64 9, .int .i64 0, .int .i64 0, .bool false, .bool false, .int .u64 0, .slice (some ⟨gl, 0, none⟩) 3 512, .int .i64 0, .int .i64 5, .int .i64 0, .int .i64 0, .bool true, .bool false, .int .u64 0, .slice none 0 0, .int .i64 0, .int .i64 12, .int .i64 0, .int .i64 0, .bool true, .bool false, .int .u64 0, .slice none 0 0, .int .i64 0, .int .i64 0, .int .i64 0, .int .i64 0, .bool false, .bool false, .int .u64 0, .slice (some ⟨gl, 0, none⟩) 9 512, .int .i64 1, .int .i64 0, .int .i64 0, .int .i64 5, .bool false, .bool false, .int .u64 0, .slice none 0 0, .int .i64 0, .int .i64 0, .int .i64 0, .int .i64 0, .bool true, .bool false, .int .u64 0, .slice (some ⟨gl, 0, none⟩) 12 512, .int .i64 1, .int .i64 0, .int .i64 0, .int .i64 99, .bool false, .bool false, .int .u64 0, .slice none 0 0] 25) = W23 at hS23 ⊢
        clear hW23 hz23
        refine hK.out _ _ (trivial) (fun hHeld => ?_)
        clear hK K
        refine wpAnyH_ready (rs := [8, 40]) (by kernel_rfl) (by simp) ?_
        refine AllReadyH.cons rfl (fun K hK => ?_) (AllReadyH.cons rfl (fun K hK => ?_) (AllReadyH.nil))
        · go_simp
          go_wp2_with (fail)
          have hS24 := hS23.b0
          rw [nr0_c] at hS24
          obtain ⟨g0, hz24⟩ : ∃ g, W23.heap.size = g := ⟨_, rfl⟩
          rw [hz24] at hS24 ⊢
          generalize hW24 : W23.alloc (.cells #[.int .i64 0, .int .i64 0, .int .i64 0, .int .i64 0, .bool false, .bool true, .int .u64 1099511627777, .slice none 0 0, .int .i64 0, .int .i64 0, .int .i64 0, .int .i64 0, .bool false, .bool true, .int .u64 2008, .slice (some ⟨gl, 0, none⟩) 40 512, .int .i64 0, .int .i64 0, .int .i64 0, .int .i64 0, .bool false, .bool true, .int .u64 2009, .slice (some ⟨gl, 0, none⟩) 40 512, .int .i64 1, .int .i64 0, .int .i64 0, .int .i64 9, .bool false, .bool false, .int .u64 0, .slice none 0 0] 25) = W24 at hS24 ⊢
          clear hW24 hz24
          refine hK.out _ _ (trivial) (fun hHeld => ?_)
          clear hK K
          refine wpAnyH_ready (rs := [40]) (by kernel_rfl) (by simp) ?_
          refine AllReadyH.cons rfl (fun K hK => ?_) AllReadyH.nil
          go_simp
          go_wp2_with (fail)
          have hS25 := hS24.b3
          rw [nr3_c] at hS25
          obtain ⟨g3, hz25⟩ : ∃ g, W24.heap.size = g := ⟨_, rfl⟩
          rw [hz25] at hS25 ⊢
          generalize hW25 : W24.alloc (.cells #[.int .i64 0, .int .i64 0, .int .i64 0, .int .i64 0, .bool true, .bool false, .int .u64 0, .slice none 0 0, .int .i64 1, .int .i64 0, .int .i64 0, .int .i64 0, .bool false, .bool false, .int .u64 0, .slice none 0 0, .int .i64 0, .int .i64 0, .int .i64 0, .int .i64 0, .bool false, .bool false, .int .u64 0, .slice (some ⟨gl, 0, none⟩) 1 512] 25) = W25 at hS25 ⊢
          clear hW25 hz25
          refine hK.out _ _ (trivial) (fun hHeld => ?_)
          clear hK K
          refine wpAnyH_ready (rs := [41]) (by kernel_rfl) (by simp) ?_
          refine AllReadyH.cons rfl (fun K hK => ?_) AllReadyH.nil
          go_simp
          go_wp2_with (fail)
          have h5 := ls_last (g0 := g0) (g1 := g1) (g2 := g2) (g3 := g3) hS25
          refine hK.out _ _ (trivial) (fun hHeld => ?_)
          clear hK K
          refine tkq 42 (some 51) (v := ?_) rfl (Or.inl ⟨by rfl, ?_⟩) (by assumption) ?_
          rotate_left
          · intro w hSw; (try dsimp only at hSw); go_simp; first | done | (with_reducible rfl)
          simp only [Act.put, List.setIfInBounds_toArray, List.set_cons_zero, List.set_cons_succ]
          refine wpAnyH_done (by kernel_rfl) ?_ _
          go_wp2_with fail
          go_meet
          exact ⟨_, rfl, rfl, rfl, h5⟩
        · go_simp
          go_wp2_with (fail)
          have hS26 := hS23.b3
          rw [nr3_c] at hS26
          obtain ⟨g3, hz26⟩ : ∃ g, W23.heap.size = g := ⟨_, rfl⟩
          rw [hz26] at hS26 ⊢
          generalize hW26 : W23.alloc (.cells #[.int .i64 0, .int .i64 0, .int .i64 0, .int .i64 0, .bool true, .bool false, .int .u64 0, .slice none 0 0, .int .i64 1, .int .i64 0, .int .i64 0, .int .i64 0, .bool false, .bool false, .int .u64 0, .slice none 0 0, .int .i64 0, .int .i64 0, .int .i64 0, .int .i64 0, .bool false, .bool false, .int .u64 0, .slice (some ⟨gl, 0, none⟩) 1 512] 25) = W26 at hS26 ⊢
          clear hW26 hz26
          refine hK.out _ _ (trivial) (fun hHeld => ?_)
          clear hK K
          refine wpAnyH_ready (rs := [8]) (by kernel_rfl) (by simp) ?_
          refine AllReadyH.cons rfl (fun K hK => ?_) AllReadyH.nil
          go_simp
          go_wp2_with (fail)
          have hS27 := hS26.b0
          rw [nr0_c] at hS27
          obtain ⟨g0, hz27⟩ : ∃ g, W26.heap.size = g := ⟨_, rfl⟩
          rw [hz27] at hS27 ⊢
          generalize hW27 : W26.alloc (.cells #[.int .i64 0, .int .i64 0, .int .i64 0, .int .i64 0, .bool false, .bool true, .int .u64 1099511627777, .slice none 0 0, .int .i64 0, .int .i64 0, .int .i64 0, .int .i64 0, .bool false, .bool true, .int .u64 2008, .slice (some ⟨gl, 0, none⟩) 40 512, .int .i64 0, .int .i64 0, .int .i64 0, .int .i64 0, .bool false, .bool true, .int .u64 2009, .slice (some ⟨gl, 0, none⟩) 40 512, .int .i64 1, .int .i64 0, .int .i64 0, .int .i64 9, .bool false, .bool false, .int .u64 0, .slice none 0 0] 25) = W27 at hS27 ⊢
          clear hW27 hz27
          refine hK.out _ _ (trivial) (fun hHeld => ?_)
          clear hK K
          refine wpAnyH_ready (rs := [41]) (by kernel_rfl) (by simp) ?_
          refine AllReadyH.cons rfl (fun K hK => ?_) AllReadyH.nil
          go_simp
          go_wp2_with (fail)
          have h5 := ls_last (g0 := g0) (g1 := g1) (g2 := g2) (g3 := g3) hS27
          refine hK.out _ _ (trivial) (fun hHeld => ?_)
          clear hK K
          refine tkq 42 (some 51) (v := ?_) rfl (Or.inl ⟨by rfl, ?_⟩) (by assumption) ?_
          rotate_left
          · intro w hSw; (try dsimp only at hSw); go_simp; first | done | (with_reducible rfl)
          simp only [Act.put, List.setIfInBounds_toArray, List.set_cons_zero, List.set_cons_succ]
          refine wpAnyH_done (by kernel_rfl) ?_ _
          go_wp2_with fail
          go_meet
          exact ⟨_, rfl, rfl, rfl, h5⟩
      · go_simp
        go_wp2_with (fail)
        have hS28 := hS17.b3
        rw [nr3_c] at hS28
        obtain ⟨g3, hz28⟩ : ∃ g, W17.heap.size = g := ⟨_, rfl⟩
        rw [hz28] at hS28 ⊢
        generalize hW28 : W17.alloc (.cells #[.int .i64 0, .int .i64 0, .int .i64 0, .int .i64 0, .bool true, .bool false, .int .u64 0, .slice none 0 0, .int .i64 1, .int .i64 0, .int .i64 0, .int .i64 0, .bool false, .bool false, .int .u64 0, .slice none 0 0, .int .i64 0, .int .i64 0, .int .i64 0, .int .i64 0, .bool false, .bool false, .int .u64 0, .slice (some ⟨gl, 0, none⟩) 1 512] 25) = W28 at hS28 ⊢
        clear hW28 hz28
        refine hK.out _ _ (trivial) (fun hHeld => ?_)
        clear hK K
        refine wpAnyH_ready (rs := [8, 34]) (by kernel_rfl) (by simp) ?_
        refine AllReadyH.cons rfl (fun K hK => ?_) (AllReadyH.cons rfl (fun K hK => ?_) (AllReadyH.nil))
        · go_simp
          go_wp2_with (fail)
          have hS29 := hS28.b0
          rw [nr0_c] at hS29
          obtain ⟨g0, hz29⟩ : ∃ g, W28.heap.size = g := ⟨_, rfl⟩
          rw [hz29] at hS29 ⊢
          generalize hW29 : W28.alloc (.cells #[.int .i64 0, .int .i64 0, .int .i64 0, .int .i64 0, .bool false, .bool true, .int .u64 1099511627777, .slice none 0 0, .int .i64 0, .int .i64 0, .int .i64 0, .int .i64 0, .bool false, .bool true, .int .u64 2008, .slice (some ⟨gl, 0, none⟩) 40 512, .int .i64 0, .int .i64 0, .int .i64 0, .int .i64 0, .bool false, .bool true, .int .u64 2009, .slice (some ⟨gl, 0, none⟩) 40 512, .int .i64 1, .int .i64 0, .int .i64 0, .int .i64 9, .bool false, .bool false, .int .u64 0, .slice none 0 0] 25) = W29 at hS29 ⊢
          clear hW29 hz29
          refine hK.out _ _ (trivial) (fun hHeld => ?_)
          clear hK K
          refine wpAnyH_ready (rs := [34]) (by kernel_rfl) (by simp) ?_
          refine AllReadyH.cons rfl (fun K hK => ?_) AllReadyH.nil
          go_simp
          go_wp2_with (fail)
          have hS30 := hS29.b2
          rw [nr2_c] at hS30
          obtain ⟨g2, hz30⟩ : ∃ g, W29.heap.size = g := ⟨_, rfl⟩
          rw [hz30] at hS30 ⊢
          generalize hW30 : W29.alloc (.cells #[.int .i64 0, .int .i64 9, .int .i64 0, .int .i64 0, .bool false, .bool false, .int .u64 0, .slice (some ⟨gl, 0, none⟩) 3 512, .int .i64 0, .int .i64 5, .int .i64 0, .int .i64 0, .bool true, .bool false, .int .u64 0, .slice none 0 0, .int .i64 0, .int .i64 12, .int .i64 0, .int .i64 0, .bool true, .bool false, .int .u64 0, .slice none 0 0, .int .i64 0, .int .i64 0, .int .i64 0, .int .i64 0, .bool false, .bool false, .int .u64 0, .slice (some ⟨gl, 0, none⟩) 9 512, .int .i64 1, .int .i64 0, .int .i64 0, .int .i64 5, .bool false, .bool false, .int .u64 0, .slice none 0 0, .int .i64 0, .int .i64 0, .int .i64 0, .int .i64 0, .bool true, .bool false, .int .u64 0, .slice (some ⟨gl, 0, none⟩) 12 512, .int .i64 1, .int .i64 0, .int .i64 0, .int .i64 99, .bool false, .bool false, .int .u64 0, .slice none 0 0] 25) = W30 at hS30 ⊢
          clear hW30 hz30
          refine hK.out _ _ (trivial) (fun hHeld => ?_)
          clear hK K
          refine wpAnyH_ready (rs := [41]) (by kernel_rfl) (by simp) ?_
          refine AllReadyH.cons rfl (fun K hK => ?_) AllReadyH.nil
          go_simp
          go_wp2_with (fail)
          have h5 := ls_last (g0 := g0) (g1 := g1) (g2 := g2) (g3 := g3) hS30
          refine hK.out _ _ (trivial) (fun hHeld => ?_)
          clear hK K
          refine tkq 42 (some 51) (v := ?_) rfl (Or.inl ⟨by rfl, ?_⟩) (by assumption) ?_
          rotate_left
          · intro w hSw; (try dsimp only at hSw); go_simp; first | done | (with_reducible rfl)
          simp only [Act.put, List.setIfInBounds_toArray, List.set_cons_zero, List.set_cons_succ]
          refine wpAnyH_done (by kernel_rfl) ?_ _
          go_wp2_with fail
          go_meet
          exact ⟨_, rfl, rfl, rfl, h5⟩
        · go_simp
          go_wp2_with (fail)
          have hS31 := hS28.b2
          rw [nr2_c] at hS31
          obtain ⟨g2, hz31⟩ : ∃ g, W28.heap.size = g := ⟨_, rfl⟩
          rw [hz31] at hS31 ⊢
          generalize hW31 : W28.alloc (.cells #[.int .i64 0, .int .i64 9, .int .i64 0, .int .i64 0, .bool false, .bool false, .int .u64 0, .slice (some ⟨gl, 0, none⟩) 3 512, .int .i64 0, .int .i64 5, .int .i64 0, .int .i64 0, .bool true, .bool false, .int .u64 0, .slice none 0 0, .int .i64 0, .int .i64 12, .int .i64 0, .int .i64 0, .bool true, .bool false, .int .u64 0, .slice none 0 0, .int .i64 0, .int .i64 0, .int .i64 0, .int .i64 0, .bool false, .bool false, .int .u64 0, .slice (some ⟨gl, 0, none⟩) 9 512, .int .i64 1, .int .i64 0, .int .i64 0, .int .i64 5, .bool false, .bool false, .int .u64 0, .slice none 0 0, .int .i64 0, .int .i64 0, .int .i64 0, .int .i64 0, .bool true, .bool false, .int .u64 0, .slice (some ⟨gl, 0, none⟩) 12 512, .int .i64 1, .int .i64 0, .int .i64 0, .int .i64 99, .bool false, .bool false, .int .u64 0, .slice none 0 0] 25) = W31 at hS31 ⊢
          clear hW31 hz31
          refine hK.out _ _ (trivial) (fun hHeld => ?_)
          clear hK K
          refine wpAnyH_ready (rs := [8]) (by kernel_rfl) (by simp) ?_
          refine AllReadyH.cons rfl (fun K hK => ?_) AllReadyH.nil
          go_simp
          go_wp2_with (fail)
          have hS32 := hS31.b0
          rw [nr0_c] at hS32
          obtain ⟨g0, hz32⟩ : ∃ g, W31.heap.size = g := ⟨_, rfl⟩
          rw [hz32] at hS32 ⊢
          generalize hW32 : W31.alloc (.cells #[.int .i64 0, .int .i64 0, .int .i64 0, .int .i64 0, .bool false, .bool true, .int .u64 1099511627777, .slice none 0 0, .int .i64 0, .int .i64 0, .int .i64 0, .int .i64 0, .bool false, .bool true, .int .u64 2008, .slice (some ⟨gl, 0, none⟩) 40 512, .int .i64 0, .int .i64 0, .int .i64 0, .int .i64 0, .bool false, .bool true, .int .u64 2009, .slice (some ⟨gl, 0, none⟩) 40 512, .int .i64 1, .int .i64 0, .int .i64 0, .int .i64 9, .bool false, .bool false, .int .u64 0, .slice none 0 0] 25) = W32 at hS32 ⊢
          clear hW32 hz32
          refine hK.out _ _ (trivial) (fun hHeld => ?_)
          clear hK K
          refine wpAnyH_ready (rs := [41]) (by kernel_rfl) (by simp) ?_
          refine AllReadyH.cons rfl (fun K hK => ?_) AllReadyH.nil
          go_simp
          go_wp2_with (fail)
          have h5 := ls_last (g0 := g0) (g1 := g1) (g2 := g2) (g3 := g3) hS32
          refine hK.out _ _ (trivial) (fun hHeld => ?_)
          clear hK K
          refine tkq 42 (some 51) (v := ?_) rfl (Or.inl ⟨by rfl, ?_⟩) (by assumption) ?_
          rotate_left
          · intro w hSw; (try dsimp only at hSw); go_simp; first | done | (with_reducible rfl)
          simp only [Act.put, List.setIfInBounds_toArray, List.set_cons_zero, List.set_cons_succ]
          refine wpAnyH_done (by kernel_rfl) ?_ _
          go_wp2_with fail
          go_meet
          exact ⟨_, rfl, rfl, rfl, h5⟩
    · go_simp
      go_wp2_with (fail)
      have hS33 := hS0.b2
      rw [nr2_c] at hS33
      obtain ⟨g2, hz33⟩ : ∃ g, Y1.heap.size = g := ⟨_, rfl⟩
      rw [hz33] at hS33 ⊢
      generalize hW33 : Y1.alloc (.cells #[.int .i64 0, .int .i64 9, .int .i64 0, .int .i64 0, .bool false, .bool false, .int .u64 0, .slice (some ⟨gl, 0, none⟩) 3 512, .int .i64 0, .int .i64 5, .int .i64 0, .int .i64 0, .bool true, .bool false, .int .u64 0, .slice none 0 0, .int .i64 0, .int .i64 12, .int .i64 0, .int .i64 0, .bool true, .bool false, .int .u64 0, .slice none 0 0, .int .i64 0, .int .i64 0, .int .i64 0, .int .i64 0, .bool false, .bool false, .int .u64 0, .slice (some ⟨gl, 0, none⟩) 9 512, .int .i64 1, .int .i64 0, .int .i64 0, .int .i64 5, .bool false, .bool false, .int .u64 0, .slice none 0 0, .int .i64 0, .int .i64 0, .int .i64 0, .int .i64 0, .bool true, .bool false, .int .u64 0, .slice (some ⟨gl, 0, none⟩) 12 512, .int .i64 1, .int .i64 0, .int .i64 0, .int .i64 99, .bool false, .bool false, .int .u64 0, .slice none 0 0] 25) = W33 at hS33 ⊢
      clear hW33 hz33
      refine hK.out _ _ (trivial) (fun hHeld => ?_)
      clear hK K
      refine wpAnyH_ready (rs := [8, 20, 40]) (by kernel_rfl) (by simp) ?_
      refine AllReadyH.cons rfl (fun K hK => ?_) (AllReadyH.cons rfl (fun K hK => ?_) (AllReadyH.cons rfl (fun K hK => ?_) (AllReadyH.nil)))
      · go_simp
        go_wp2_with (fail)
        have hS34 := hS33.b0
        rw [nr0_c] at hS34
        obtain ⟨g0, hz34⟩ : ∃ g, W33.heap.size = g := ⟨_, rfl⟩
        rw [hz34] at hS34 ⊢
        generalize hW34 : W33.alloc (.cells #[.int .i64 0, .int .i64 0, .int .i64 0, .int .i64 0, .bool false, .bool true, .int .u64 1099511627777, .slice none 0 0, .int .i64 0, .int .i64 0, .int .i64 0, .int .i64 0, .bool false, .bool true, .int .u64 2008, .slice (some ⟨gl, 0, none⟩) 40 512, .int .i64 0, .int .i64 0, .int .i64 0, .int .i64 0, .bool false, .bool true, .int .u64 2009, .slice (some ⟨gl, 0, none⟩) 40 512, .int .i64 1, .int .i64 0, .int .i64 0, .int .i64 9, .bool false, .bool false, .int .u64 0, .slice none 0 0] 25) = W34 at hS34 ⊢
        clear hW34 hz34
        refine hK.out _ _ (trivial) (fun hHeld => ?_)
        clear hK K
        refine wpAnyH_ready (rs := [20, 40]) (by kernel_rfl) (by simp) ?_
        refine AllReadyH.cons rfl (fun K hK => ?_) (AllReadyH.cons rfl (fun K hK => ?_) (AllReadyH.nil))
        · go_simp
          go_wp2_with (fail)
          have hS35 := hS34.b1
          rw [nr1_c] at hS35
          obtain ⟨g1, hz35⟩ : ∃ g, W34.heap.size = g := ⟨_, rfl⟩
          rw [hz35] at hS35 ⊢
          generalize hW35 : W34.alloc (.cells #[.int .i64 0, .int .i64 0, .int .i64 0, .int .i64 0, .bool true, .bool false, .int .u64 0, .slice (some ⟨gl, 0, none⟩) 5 512, .int .i64 0, .int .i64 5, .int .i64 0, .int .i64 0, .bool false, .bool false, .int .u64 0, .slice none 0 0, .int .i64 0, .int .i64 5, .int .i64 0, .int .i64 0, .bool true, .bool false, .int .u64 0, .slice none 0 0, .int .i64 0, .int .i64 6, .int .i64 0, .int .i64 0, .bool true, .bool false, .int .u64 0, .slice none 0 0, .int .i64 0, .int .i64 4, .int .i64 0, .int .i64 0, .bool true, .bool false, .int .u64 0, .slice none 0 0, .int .i64 1, .int .i64 0, .int .i64 0, .int .i64 (-1), .bool false, .bool false, .int .u64 0, .slice none 0 0, .int .i64 1, .int .i64 0, .int .i64 0, .int .i64 2, .bool false, .bool false, .int .u64 0, .slice none 0 0, .int .i64 1, .int .i64 0, .int .i64 0, .int .i64 9, .bool false, .bool false, .int .u64 0, .slice none 0 0, .int .i64 1, .int .i64 0, .int .i64 0, .int .i64 0, .bool false, .bool false, .int .u64 0, .slice none 0 0] 25) = W35 at hS35 ⊢
          clear hW35 hz35
          refine hK.out _ _ (trivial) (fun hHeld => ?_)
          clear hK K
          refine wpAnyH_ready (rs := [40]) (by kernel_rfl) (by simp) ?_
          refine AllReadyH.cons rfl (fun K hK => ?_) AllReadyH.nil
          go_simp
          go_wp2_with (fail)
          have hS36 := hS35.b3
          rw [nr3_c] at hS36
          obtain ⟨g3, hz36⟩ : ∃ g, W35.heap.size = g := ⟨_, rfl⟩
          rw [hz36] at hS36 ⊢
          generalize hW36 : W35.alloc (.cells #[.int .i64 0, .int .i64 0, .int .i64 0, .int .i64 0, .bool true, .bool false, .int .u64 0, .slice none 0 0, .int .i64 1, .int .i64 0, .int .i64 0, .int .i64 0, .bool false, .bool false, .int .u64 0, .slice none 0 0, .int .i64 0, .int .i64 0, .int .i64 0, .int .i64 0, .bool false, .bool false, .int .u64 0, .slice (some ⟨gl, 0, none⟩) 1 512] 25) = W36 at hS36 ⊢
          clear hW36 hz36
          refine hK.out _ _ (trivial) (fun hHeld => ?_)
          clear hK K
          refine wpAnyH_ready (rs := [41]) (by kernel_rfl) (by simp) ?_
          refine AllReadyH.cons rfl (fun K hK => ?_) AllReadyH.nil
          go_simp
          go_wp2_with (fail)
          have h5 := ls_last (g0 := g0) (g1 := g1) (g2 := g2) (g3 := g3) hS36
          refine hK.out _ _ (trivial) (fun hHeld => ?_)
          clear hK K
          refine tkq 42 (some 51) (v := ?_) rfl (Or.inl ⟨by rfl, ?_⟩) (by assumption) ?_
          rotate_left
          · intro w hSw; (try dsimp only at hSw); go_simp; first | done | (with_reducible rfl)
          simp only [Act.put, List.setIfInBounds_toArray, List.set_cons_zero, List.set_cons_succ]
          refine wpAnyH_done (by kernel_rfl) ?_ _
          go_wp2_with fail
          go_meet
          exact ⟨_, rfl, rfl, rfl, h5⟩
        · go_simp
          go_wp2_with (fail)
          have hS37 := hS34.b3
          rw [nr3_c] at hS37
          obtain ⟨g3, hz37⟩ : ∃ g, W34.heap.size = g := ⟨_, rfl⟩
          rw [hz37] at hS37 ⊢
          generalize hW37 : W34.alloc (.cells #[.int .i64 0, .int .i64 0, .int .i64 0, .int .i64 0, .bool true, .bool false, .int .u64 0, .slice none 0 0, .int .i64 1, .int .i64 0, .int .i64 0, .int .i64 0, .bool false, .bool false, .int .u64 0, .slice none 0 0, .int .i64 0, .int .i64 0, .int .i64 0, .int .i64 0, .bool false, .bool false, .int .u64 0, .slice (some ⟨gl, 0, none⟩) 1 512] 25) = W37 at hS37 ⊢
          clear hW37 hz37
          refine hK.out _ _ (trivial) (fun hHeld => ?_)
          clear hK K
          refine wpAnyH_ready (rs := [20]) (by kernel_rfl) (by simp) ?_
          refine AllReadyH.cons rfl (fun K hK => ?_) AllReadyH.nil
          go_simp
          go_wp2_with (fail)
          have hS38 := hS37.b1
          rw [nr1_c] at hS38
          obtain ⟨g1, hz38⟩ : ∃ g, W37.heap.size = g := ⟨_, rfl⟩
          rw [hz38] at hS38 ⊢
          generalize hW38 : W37.alloc (.cells #[.int .i64 0, .int .i64 0, .int .i64 0, .int .i64 0, .bool true, .bool false, .int .u64 0, .slice (some ⟨gl, 0, none⟩) 5 512, .int .i64 0, .int .i64 5, .int .i64 0, .int .i64 0, .bool false, .bool false, .int .u64 0, .slice none 0 0, .int .i64 0, .int .i64 5, .int .i64 0, .int .i64 0, .bool true, .bool false, .int .u64 0, .slice none 0 0, .int .i64 0, .int .i64 6, .int .i64 0, .int .i64 0, .bool true, .bool false, .int .u64 0, .slice none 0 0, .int .i64 0, .int .i64 4, .int .i64 0, .int .i64 0, .bool true, .bool false, .int .u64 0, .slice none 0 0, .int .i64 1, .int .i64 0, .int .i64 0, .int .i64 (-1), .bool false, .bool false, .int .u64 0, .slice none 0 0, .int .i64 1, .int .i64 0, .int .i64 0, .int .i64 2, .bool false, .bool false, .int .u64 0, .slice none 0 0, .int .i64 1, .int .i64 0, .int .i64 0, .int .i64 9, .bool false, .bool false, .int .u64 0, .slice none 0 0, .int .i64 1, .int .i64 0, .int .i64 0, .int .i64 0, .bool false, .bool false, .int .u64 0, .slice none 0 0] 25) = W38 at hS38 ⊢
          clear hW38 hz38
          refine hK.out _ _ (trivial) (fun hHeld => ?_)
          clear hK K
          refine wpAnyH_ready (rs := [41]) (by kernel_rfl) (by simp) ?_
          refine AllReadyH.cons rfl (fun K hK => ?_) AllReadyH.nil
          go_simp
          go_wp2_with (fail)
          have h5 := ls_last (g0 := g0) (g1 := g1) (g2 := g2) (g3 := g3) hS38
          refine hK.out _ _ (trivial) (fun hHeld => ?_)
          clear hK K
          refine tkq 42 (some 51) (v := ?_) rfl (Or.inl ⟨by rfl, ?_⟩) (by assumption) ?_
          rotate_left
          · intro w hSw; (try dsimp only at hSw); go_simp; first | done | (with_reducible rfl)
          simp only [Act.put, List.setIfInBounds_toArray, List.set_cons_zero, List.set_cons_succ]
          refine wpAnyH_done (by kernel_rfl) ?_ _
          go_wp2_with fail
          go_meet
          exact ⟨_, rfl, rfl, rfl, h5⟩
      · go_simp
        go_wp2_with (fail)
        have hS39 := hS33.b1
        rw [nr1_c] at hS39
        obtain ⟨g1, hz39⟩ : ∃ g, W33.heap.size = g := ⟨_, rfl⟩
        rw [hz39] at hS39 ⊢
        generalize hW39 : W33.alloc (.cells #[.int .i64 0, .int .i64 0, .int .i64 0, .int .i64 0, .bool true, .bool false, .int .u64 0, .slice (some ⟨gl, 0, none⟩) 5 512, .int .i64 0, .int .i64 5, .int .i64 0, .int .i64 0, .bool false, .bool false, .int .u64 0, .slice none 0 0, .int .i64 0, .int .i64 5, .int .i64 0, .int .i64 0, .bool true, .bool false, .int .u64 0, .slice none 0 0, .int .i64 0, .int .i64 6, .int .i64 0, .int .i64 0, .bool true, .bool false, .int .u64 0, .slice none 0 0, .int .i64 0, .int .i64 4, .int .i64 0, .int .i64 0, .bool true, .bool false, .int .u64 0, .slice none 0 0, .int .i64 1, .int .i64 0, .int .i64 0, .int .i64 (-1), .bool false, .bool false, .int .u64 0, .slice none 0 0, .int .i64 1, .int .i64 0, .int .i64 0, .int .i64 2, .bool false, .bool false, .int .u64 0, .slice none 0 0, .int .i64 1, .int .i64 0, .int .i64 0, .int .i64 9, .bool false, .bool false, .int .u64 0, .slice none 0 0, .int .i64 1, .int .i64 0, .int .i64 0, .int .i64 0, .bool false, .bool false, .int .u64 0, .slice none 0 0] 25) = W39 at hS39 ⊢
        clear hW39 hz39
        refine hK.out _ _ (trivial) (fun hHeld => ?_)
        clear hK K
        refine wpAnyH_ready (rs := [8, 40]) (by kernel_rfl) (by simp) ?_
        refine AllReadyH.cons rfl (fun K hK => ?_) (AllReadyH.cons rfl (fun K hK => ?_) (AllReadyH.nil))
        · go_simp
          go_wp2_with (fail)
          have hS40 := hS39.b0
          rw [nr0_c] at hS40
          obtain ⟨g0, hz40⟩ : ∃ g, W39.heap.size = g := ⟨_, rfl⟩
          rw [hz40] at hS40 ⊢
          generalize hW40 : W39.alloc (.cells #[.int .i64 0, .int .i64 0, .int .i64 0, .int .i64 0, .bool false, .bool true, .int .u64 1099511627777, .slice none 0 0, .int .i64 0, .int .i64 0, .int .i64 0, .int .i64 0, .bool false, .bool true, .int .u64 2008, .slice (some ⟨gl, 0, none⟩) 40 512, .int .i64 0, .int .i64 0, .int .i64 0, .int .i64 0, .bool false, .bool true, .int .u64 2009, .slice (some ⟨gl, 0, none⟩) 40 512, .int .i64 1, .int .i64 0, .int .i64 0, .int .i64 9, .bool false, .bool false, .int .u64 0, .slice none 0 0] 25) = W40 at hS40 ⊢
          clear hW40 hz40
          refine hK.out _ _ (trivial) (fun hHeld => ?_)
          clear hK K
          refine wpAnyH_ready (rs := [40]) (by kernel_rfl) (by simp) ?_
          refine AllReadyH.cons rfl (fun K hK => ?_) AllReadyH.nil
          go_simp
          go_wp2_with (fail)
          have hS41 := hS40.b3
          rw [nr3_c] at hS41
          obtain ⟨g3, hz41⟩ : ∃ g, W40.heap.size = g := ⟨_, rfl⟩
          rw [hz41] at hS41 ⊢
          generalize hW41 : W40.alloc (.cells #[.int .i64 0, .int .i64 0, .int .i64 0, .int .i64 0, .bool true, .bool false, .int .u64 0, .slice none 0 0, .int .i64 1, .int .i64 0, .int .i64 0, .int .i64 0, .bool false, .bool false, .int .u64 0, .slice none 0 0, .int .i64 0, .int .i64 0, .int .i64 0, .int .i64 0, .bool false, .bool false, .int .u64 0, .slice (some ⟨gl, 0, none⟩) 1 512] 25) = W41 at hS41 ⊢
          clear hW41 hz41
          refine hK.out _ _ (trivial) (fun hHeld => ?_)
          clear hK K
          refine wpAnyH_ready (rs := [41]) (by kernel_rfl) (by simp) ?_
          refine AllReadyH.cons rfl (fun K hK => ?_) AllReadyH.nil
          go_simp
          go_wp2_with (fail)
          have h5 := ls_last (g0 := g0) (g1 := g1) (g2 := g2) (g3 := g3) hS41
          refine hK.out _ _ (trivial) (fun hHeld => ?_)
          clear hK K
          refine tkq 42 (some 51) (v := ?_) rfl (Or.inl ⟨by rfl, ?_⟩) (by assumption) ?_
          rotate_left
          · intro w hSw; (try dsimp only at hSw); go_simp; first | done | (with_reducible rfl)
          simp only [Act.put, List.setIfInBounds_toArray, List.set_cons_zero, List.set_cons_succ]
          refine wpAnyH_done (by kernel_rfl) ?_ _
          go_wp2_with fail
          go_meet
          exact ⟨_, rfl, rfl, rfl, h5⟩
        · go_simp
          go_wp2_with (fail)
          have hS42 := hS39.b3
          rw [nr3_c] at hS42
          obtain ⟨g3, hz42⟩ : ∃ g, W39.heap.size = g := ⟨_, rfl⟩
          rw [hz42] at hS42 ⊢
          generalize hW42 : W39.alloc (.cells #[.int .i64 0, .int .i64 0, .int .i64 0, .int .i64 0, .bool true, .bool false, .int .u64 0, .slice none 0 0, .int .i64 1, .int .i64 0, .int .i64 0, .int .i64 0, .bool false, .bool false, .int .u64 0, .slice none 0 0, .int .i64 0, .int .i64 0, .int .i64 0, .int .i64 0, .bool false, .bool false, .int .u64 0, .slice (some ⟨gl, 0, none⟩) 1 512] 25) = W42 at hS42 ⊢
          clear hW42 hz42
          refine hK.out _ _ (trivial) (fun hHeld => ?_)
          clear hK K
          refine wpAnyH_ready (rs := [8]) (by kernel_rfl) (by simp) ?_
          refine AllReadyH.cons rfl (fun K hK => ?_) AllReadyH.nil
          go_simp
          go_wp2_with (fail)
          have hS43 := hS42.b0
          rw [nr0_c] at hS43
          obtain ⟨g0, hz43⟩ : ∃ g, W42.heap.size = g := ⟨_, rfl⟩
          rw [hz43] at hS43 ⊢
          generalize hW43 : W42.alloc (.cells #[.int .i64 0, .int .i64 0, .int .i64 0, .int .i64 0, .bool false, .bool true, .int .u64 1099511627777, .slice none 0 0, .int .i64 0, .int .i64 0, .int .i64 0, .int .i64 0, .bool false, .bool true, .int .u64 2008, .slice (some ⟨gl, 0, none⟩) 40 512, .int .i64 0, .int .i64 0, .int .i64 0, .int .i64 0, .bool false, .bool true, .int .u64 2009, .slice (some ⟨gl, 0, none⟩) 40 512, .int .i64 1, .int .i64 0, .int .i64 0, .int .i64 9, .bool false, .bool false, .int .u64 0, .slice none 0 0] 25) = W43 at hS43 ⊢
          clear hW43 hz43
          refine hK.out _ _ (trivial) (fun hHeld => ?_)
          clear hK K
          refine wpAnyH_ready (rs := [41]) (by kernel_rfl) (by simp) ?_
          refine AllReadyH.cons rfl (fun K hK => ?_) AllReadyH.nil
          go_simp
          go_wp2_with (fail)
          have h5 := ls_last (g0 := g0) (g1 := g1) (g2 := g2) (g3 := g3) hS43
          refine hK.out _ _ (trivial) (fun hHeld => ?_)
          clear hK K
          refine tkq 42 (some 51) (v := ?_) rfl (Or.inl ⟨by rfl, ?_⟩) (by assumption) ?_
          rotate_left
          · intro w hSw; (try dsimp only at hSw); go_simp; first | done | (with_reducible rfl)
          simp only [Act.put, List.setIfInBounds_toArray, List.set_cons_zero, List.set_cons_succ]
          refine wpAnyH_done (by kernel_rfl) ?_ _
          go_wp2_with fail
          go_meet
          exact ⟨_, rfl, rfl, rfl, h5⟩
      · go_simp
        go_wp2_with (fail)
        have hS44 := hS33.b3
        rw [nr3_c] at hS44
        obtain ⟨g3, hz44⟩ : ∃ g, W33.heap.size = g := ⟨_, rfl⟩
        rw [hz44] at hS44 ⊢
        generalize hW44 : W33.alloc (.cells #[.int .i64 0, .int .i64 0, .int .i64 0, .int .i64 0, .bool true, .bool false, .int .u64 0, .slice none 0 0, .int .i64 1, .int .i64 0, .int .i64 0, .int .i64 0, .bool false, .bool false, .int .u64 0, .slice none 0 0, .int .i64 0, .int .i64 0, .int .i64 0, .int .i64 0, .bool false, .bool false, .int .u64 0, .slice (some ⟨gl, 0, none⟩) 1 512] 25) = W44 at hS44 ⊢
        clear hW44 hz44
        refine hK.out _ _ (trivial) (fun hHeld => ?_)
        clear hK K
        refine wpAnyH_ready (rs := [8, 20]) (by kernel_rfl) (by simp) ?_
        refine AllReadyH.cons rfl (fun K hK => ?_) (AllReadyH.cons rfl (fun K hK => ?_) (AllReadyH.nil))
        · go_simp
          go_wp2_with (fail)
          have hS45 := hS44.b0
          rw [nr0_c] at hS45
          obtain ⟨g0, hz45⟩ : ∃ g, W44.heap.size = g := ⟨_, rfl⟩
          rw [hz45] at hS45 ⊢
          generalize hW45 : W44.alloc (.cells #[.int .i64 0, .int .i64 0, .int .i64 0, .int .i64 0, .bool false, .bool true, .int .u64 1099511627777, .slice none 0 0, .int .i64 0, .int .i64 0, .int .i64 0, .int .i64 0, .bool false, .bool true, .int .u64 2008, .slice (some ⟨gl, 0, none⟩) 40 512, .int .i64 0, .int .i64 0, .int .i64 0, .int .i64 0, .bool false, .bool true, .int .u64 2009, .slice (some ⟨gl, 0, none⟩) 40 512, .int .i64 1, .int .i64 0, .int .i64 0, .int .i64 9, .bool false, .bool false, .int .u64 0, .slice none 0 0] 25) = W45 at hS45 ⊢
          clear hW45 hz45
          refine hK.out _ _ (trivial) (fun hHeld => ?_)
          clear hK K
          refine wpAnyH_ready (rs := [20]) (by kernel_rfl) (by simp) ?_
          refine AllReadyH.cons rfl (fun K hK => ?_) AllReadyH.nil
          go_simp
          go_wp2_with (fail)
          have hS46 := hS45.b1
          rw [nr1_c] at hS46
          obtain ⟨g1, hz46⟩ : ∃ g, W45.heap.size = g := ⟨_, rfl⟩
          rw [hz46] at hS46 ⊢
          generalize hW46 : W45.alloc (.cells #[.int .i64 0, .int .i64 0, .int .i64 0, .int .i64 0, .bool true, .bool false, .int .u64 0, .slice (some ⟨gl, 0, none⟩) 5 512, .int .i64 0, .int .i64 5, .int .i64 0, .int .i64 0, .bool false, .bool false, .int .u64 0, .slice none 0 0, .int .i64 0, .int .i64 5, .int .i64 0, .int .i64 0, .bool true, .bool false, .int .u64 0, .slice none 0 0, .int .i64 0, .int .i64 6, .int .i64 0, .int .i64 0, .bool true, .bool false, .int .u64 0, .slice none 0 0, .int .i64 0, .int .i64 4, .int .i64 0, .int .i64 0, .bool true, .bool false, .int .u64 0, .slice none 0 0, .int .i64 1, .int .i64 0, .int .i64 0, .int .i64 (-1), .bool false, .bool false, .int .u64 0, .slice none 0 0, .int .i64 1, .int .i64 0, .int .i64 0, .int .i64 2, .bool false, .bool false, .int .u64 0, .slice none 0 0, .int .i64 1, .int .i64 0, .int .i64 0, .int .i64 9, .bool false, .bool false, .int .u64 0, .slice none 0 0, .int .i64 1, .int .i64 0, .int .i64 0, .int .i64 0, .bool false, .bool false, .int .u64 0, .slice none 0 0] 25) = W46 at hS46 ⊢
          clear hW46 hz46
          refine hK.out _ _ (trivial) (fun hHeld => ?_)
          clear hK K
          refine wpAnyH_ready (rs := [41]) (by kernel_rfl) (by simp) ?_
          refine AllReadyH.cons rfl (fun K hK => ?_) AllReadyH.nil
          go_simp
          go_wp2_with (fail)
          have h5 := ls_last (g0 := g0) (g1 := g1) (g2 := g2) (g3 := g3) hS46
          refine hK.out _ _ (trivial) (fun hHeld => ?_)
          clear hK K
          refine tkq 42 (some 51) (v := ?_) rfl (Or.inl ⟨by rfl, ?_⟩) (by assumption) ?_
          rotate_left
          · intro w hSw; (try dsimp only at hSw); go_simp; first | done | (with_reducible rfl)
          simp only [Act.put, List.setIfInBounds_toArray, List.set_cons_zero, List.set_cons_succ]
          refine wpAnyH_done (by kernel_rfl) ?_ _
          go_wp2_with fail
          go_meet
          exact ⟨_, rfl, rfl, rfl, h5⟩
        · go_simp
          go_wp2_with (fail)
          have hS47 := hS44.b1
          rw [nr1_c] at hS47
          obtain ⟨g1, hz47⟩ : ∃ g, W44.heap.size = g := ⟨_, rfl⟩
          rw [hz47] at hS47 ⊢
          generalize hW47 : W44.alloc (.cells #[.int .i64 0, .int .i64 0, .int .i64 0, .int .i64 0, .bool true, .bool false, .int .u64 0, .slice (some ⟨gl, 0, none⟩) 5 512, .int .i64 0, .int .i64 5, .int .i64 0, .int .i64 0, .bool false, .bool false, .int .u64 0, .slice none 0 0, .int .i64 0, .int .i64 5, .int .i64 0, .int .i64 0, .bool true, .bool false, .int .u64 0, .slice none 0 0, .int .i64 0, .int .i64 6, .int .i64 0, .int .i64 0, .bool true, .bool false, .int .u64 0, .slice none 0 0, .int .i64 0, .int .i64 4, .int .i64 0, .int .i64 0, .bool true, .bool false, .int .u64 0, .slice none 0 0, .int .i64 1, .int .i64 0, .int .i64 0, .int .i64 (-1), .bool false, .bool false, .int .u64 0, .slice none 0 0, .int .i64 1, .int .i64 0, .int .i64 0, .int .i64 2, .bool false, .bool false, .int .u64 0, .slice none 0 0, .int .i64 1, .int .i64 0, .int .i64 0, .int .i64 9, .bool false, .bool false, .int .u64 0, .slice none 0 0, .int .i64 1, .int .i64 0, .int .i64 0, .int .i64 0, .bool false, .bool false, .int .u64 0, .slice none 0 0] 25) = W47 at hS47 ⊢
          clear hW47 hz47
          refine hK.out _ _ (trivial) (fun hHeld => ?_)
          clear hK K
          refine wpAnyH_ready (rs := [8]) (by kernel_rfl) (by simp) ?_
          refine AllReadyH.cons rfl (fun K hK => ?_) AllReadyH.nil
          go_simp
          go_wp2_with (fail)
          have hS48 := hS47.b0
          rw [nr0_c] at hS48
          obtain ⟨g0, hz48⟩ : ∃ g, W47.heap.size = g := ⟨_, rfl⟩
          rw [hz48] at hS48 ⊢
          generalize hW48 : W47.alloc (.cells #[.int .i64 0, .int .i64 0, .int .i64 0, .int .i64 0, .bool false, .bool true, .int .u64 1099511627777, .slice none 0 0, .int .i64 0, .int .i64 0, .int .i64 0, .int .i64 0, .bool false, .bool true, .int .u64 2008, .slice (some ⟨gl, 0, none⟩) 40 512, .int .i64 0, .int .i64 0, .int .i64 0, .int .i64 0, .bool false, .bool true, .int .u64 2009, .slice (some ⟨gl, 0, none⟩) 40 512, .int .i64 1, .int .i64 0, .int .i64 0, .int .i64 9, .bool false, .bool false, .int .u64 0, .slice none 0 0] 25) = W48 at hS48 ⊢
          clear hW48 hz48
          refine hK.out _ _ (trivial) (fun hHeld => ?_)
          clear hK K
          refine wpAnyH_ready (rs := [41]) (by kernel_rfl) (by simp) ?_
          refine AllReadyH.cons rfl (fun K hK => ?_) AllReadyH.nil
          go_simp
          go_wp2_with (fail)
          have h5 := ls_last (g0 := g0) (g1 := g1) (g2 := g2) (g3 := g3) hS48
          refine hK.out _ _ (trivial) (fun hHeld => ?_)
          clear hK K
          refine tkq 42 (some 51) (v := ?_) rfl (Or.inl ⟨by rfl, ?_⟩) (by assumption) ?_
          rotate_left
          · intro w hSw; (try dsimp only at hSw); go_simp; first | done | (with_reducible rfl)
          simp only [Act.put, List.setIfInBounds_toArray, List.set_cons_zero, List.set_cons_succ]
          refine wpAnyH_done (by kernel_rfl) ?_ _
          go_wp2_with fail
          go_meet
          exact ⟨_, rfl, rfl, rfl, h5⟩
    · go_simp
      go_wp2_with (fail)
      have hS49 := hS0.b3
      rw [nr3_c] at hS49
      obtain ⟨g3, hz49⟩ : ∃ g, Y1.heap.size = g := ⟨_, rfl⟩
      rw [hz49] at hS49 ⊢
      generalize hW49 : Y1.alloc (.cells #[.int .i64 0, .int .i64 0, .int .i64 0, .int .i64 0, .bool true, .bool false, .int .u64 0, .slice none 0 0, .int .i64 1, .int .i64 0, .int .i64 0, .int .i64 0, .bool false, .bool false, .int .u64 0, .slice none 0 0, .int .i64 0, .int .i64 0, .int .i64 0, .int .i64 0, .bool false, .bool false, .int .u64 0, .slice (some ⟨gl, 0, none⟩) 1 512] 25) = W49 at hS49 ⊢
      clear hW49 hz49
      refine hK.out _ _ (trivial) (fun hHeld => ?_)
      clear hK K
      refine wpAnyH_ready (rs := [8, 20, 34]) (by kernel_rfl) (by simp) ?_
      refine AllReadyH.cons rfl (fun K hK => ?_) (AllReadyH.cons rfl (fun K hK => ?_) (AllReadyH.cons rfl (fun K hK => ?_) (AllReadyH.nil)))
      · go_simp
        go_wp2_with (fail)
        have hS50 := hS49.b0
        rw [nr0_c] at hS50
        obtain ⟨g0, hz50⟩ : ∃ g, W49.heap.size = g := ⟨_, rfl⟩
        rw [hz50] at hS50 ⊢
        generalize hW50 : W49.alloc (.cells #[.int .i64 0, .int .i64 0, .int .i64 0, .int .i64 0, .bool false, .bool true, .int .u64 1099511627777, .slice none 0 0, .int .i64 0, .int .i64 0, .int .i64 0, .int .i64 0, .bool false, .bool true, .int .u64 2008, .slice (some ⟨gl, 0, none⟩) 40 512, .int .i64 0, .int .i64 0, .int .i64 0, .int .i64 0, .bool false, .bool true, .int .u64 2009, .slice (some ⟨gl, 0, none⟩) 40 512, .int .i64 1, .int .i64 0, .int .i64 0, .int .i64 9, .bool false, .bool false, .int .u64 0, .slice none 0 0] 25) = W50 at hS50 ⊢
        clear hW50 hz50
        refine hK.out _ _ (trivial) (fun hHeld => ?_)
        clear hK K
        refine wpAnyH_ready (rs := [20, 34]) (by kernel_rfl) (by simp) ?_
        refine AllReadyH.cons rfl (fun K hK => ?_) (AllReadyH.cons rfl (fun K hK => ?_) (AllReadyH.nil))
        · go_simp
          go_wp2_with (fail)
          have hS51 := hS50.b1
          rw [nr1_c] at hS51
          obtain ⟨g1, hz51⟩ : ∃ g, W50.heap.size = g := ⟨_, rfl⟩
          rw [hz51] at hS51 ⊢
          generalize hW51 : W50.alloc (.cells #[.int .i64 0, .int .i64 0, .int .i64 0, .int .i64 0, .bool true, .bool false, .int .u64 0, .slice (some ⟨gl, 0, none⟩) 5 512, .int .i64 0, .int .i64 5, .int .i64 0, .int .i64 0, .bool false, .bool false, .int .u64 0, .slice none 0 0, .int .i64 0, .int .i64 5, .int .i64 0, .int .i64 0, .bool true, .bool false, .int .u64 0, .slice none 0 0, .int .i64 0, .int .i64 6, .int .i64 0, .int .i64 0, .bool true, .bool false, .int .u64 0, .slice none 0 0, .int .i64 0, .int .i64 4, .int .i64 0, .int .i64 0, .bool true, .bool false, .int .u64 0, .slice none 0 0, .int .i64 1, .int .i64 0, .int .i64 0, .int .i64 (-1), .bool false, .bool false, .int .u64 0, .slice none 0 0, .int .i64 1, .int .i64 0, .int .i64 0, .int .i64 2, .bool false, .bool false, .int .u64 0, .slice none 0 0, .int .i64 1, .int .i64 0, .int .i64 0, .int .i64 9, .bool false, .bool false, .int .u64 0, .slice none 0 0, .int .i64 1, .int .i64 0, .int .i64 0, .int .i64 0, .bool false, .bool false, .int .u64 0, .slice none 0 0] 25) = W51 at hS51 ⊢
          clear hW51 hz51
          refine hK.out _ _ (trivial) (fun hHeld => ?_)
          clear hK K
          refine wpAnyH_ready (rs := [34]) (by kernel_rfl) (by simp) ?_
          refine AllReadyH.cons rfl (fun K hK => ?_) AllReadyH.nil
          go_simp
          go_wp2_with (fail)
          have hS52 := hS51.b2
          rw [nr2_c] at hS52
          obtain ⟨g2, hz52⟩ : ∃ g, W51.heap.size = g := ⟨_, rfl⟩
          rw [hz52] at hS52 ⊢
          generalize hW52 : W51.alloc (.cells #[.int .i64 0, .int .i64 9, .int .i64 0, .int .i64 0, .bool false, .bool false, .int .u64 0, .slice (some ⟨gl, 0, none⟩) 3 512, .int .i64 0, .int .i64 5, .int .i64 0, .int .i64 0, .bool true, .bool false, .int .u64 0, .slice none 0 0, .int .i64 0, .int .i64 12, .int .i64 0, .int .i64 0, .bool true, .bool false, .int .u64 0, .slice none 0 0, .int .i64 0, .int .i64 0, .int .i64 0, .int .i64 0, .bool false, .bool false, .int .u64 0, .slice (some ⟨gl, 0, none⟩) 9 512, .int .i64 1, .int .i64 0, .int .i64 0, .int .i64 5, .bool false, .bool false, .int .u64 0, .slice none 0 0, .int .i64 0, .int .i64 0, .int .i64 0, .int .i64 0, .bool true, .bool false, .int .u64 0, .slice (some ⟨gl, 0, none⟩) 12 512, .int .i64 1, .int .i64 0, .int .i64 0, .int .i64 99, .bool false, .bool false, .int .u64 0, .slice none 0 0] 25) = W52 at hS52 ⊢
          clear hW52 hz52
          refine hK.out _ _ (trivial) (fun hHeld => ?_)
          clear hK K
          refine wpAnyH_ready (rs := [41]) (by kernel_rfl) (by simp) ?_
          refine AllReadyH.cons rfl (fun K hK => ?_) AllReadyH.nil
          go_simp
          go_wp2_with (fail)
          have h5 := ls_last (g0 := g0) (g1 := g1) (g2 := g2) (g3 := g3) hS52
          refine hK.out _ _ (trivial) (fun hHeld => ?_)
          clear hK K
          refine tkq 42 (some 51) (v := ?_) rfl (Or.inl ⟨by rfl, ?_⟩) (by assumption) ?_
          rotate_left
          · intro w hSw; (try dsimp only at hSw); go_simp; first | done | (with_reducible rfl)
          simp only [Act.put, List.setIfInBounds_toArray, List.set_cons_zero, List.set_cons_succ]
          refine wpAnyH_done (by kernel_rfl) ?_ _
          go_wp2_with fail
          go_meet
          exact ⟨_, rfl, rfl, rfl, h5⟩
        · go_simp
          go_wp2_with (fail)
          have hS53 := hS50.b2
          rw [nr2_c] at hS53
          obtain ⟨g2, hz53⟩ : ∃ g, W50.heap.size = g := ⟨_, rfl⟩
          rw [hz53] at hS53 ⊢
          generalize hW53 : W50.alloc (.cells #[.int .i64 0, .int .i64 9, .int .i64 0, .int .i64 0, .bool false, .bool false, .int .u64 0, .slice (some ⟨gl, 0, none⟩) 3 512, .int .i64 0, .int .i64 5, .int .i64 0, .int .i64 0, .bool true, .bool false, .int .u64 0, .slice none 0 0, .int .i64 0, .int .i64 12, .int .i64 0, .int .i64 0, .bool true, .bool false, .int .u64 0, .slice none 0 0, .int .i64 0, .int .i64 0, .int .i64 0, .int .i64 0, .bool false, .bool false, .int .u64 0, .slice (some ⟨gl, 0, none⟩) 9 512, .int .i64 1, .int .i64 0, .int .i64 0, .int .i64 5, .bool false, .bool false, .int .u64 0, .slice none 0 0, .int .i64 0, .int .i64 0, .int .i64 0, .int .i64 0, .bool true, .bool false, .int .u64 0, .slice (some ⟨gl, 0, none⟩) 12 512, .int .i64 1, .int .i64 0, .int .i64 0, .int .i64 99, .bool false, .bool false, .int .u64 0, .slice none 0 0] 25) = W53 at hS53 ⊢
          clear hW53 hz53
          refine hK.out _ _ (trivial) (fun hHeld => ?_)
          clear hK K
          refine wpAnyH_ready (rs := [20]) (by kernel_rfl) (by simp) ?_
          refine AllReadyH.cons rfl (fun K hK => ?_) AllReadyH.nil
          go_simp
          go_wp2_with (fail)
          have hS54 := hS53.b1
          rw [nr1_c] at hS54
          obtain ⟨g1, hz54⟩ : ∃ g, W53.heap.size = g := ⟨_, rfl⟩
          rw [hz54] at hS54 ⊢
          generalize hW54 : W53.alloc (.cells #[.int .i64 0, .int .i64 0, .int .i64 0, .int .i64 0, .bool true, .bool false, .int .u64 0, .slice (some ⟨gl, 0, none⟩) 5 512, .int .i64 0, .int .i64 5, .int .i64 0, .int .i64 0, .bool false, .bool false, .int .u64 0, .slice none 0 0, .int .i64 0, .int .i64 5, .int .i64 0, .int .i64 0, .bool true, .bool false, .int .u64 0, .slice none 0 0, .int .i64 0, .int .i64 6, .int .i64 0, .int .i64 0, .bool true, .bool false, .int .u64 0, .slice none 0 0, .int .i64 0, .int .i64 4, .int .i64 0, .int .i64 0, .bool true, .bool false, .int .u64 0, .slice none 0 0, .int .i64 1, .int .i64 0, .int .i64 0, .int .i64 (-1), .bool false, .bool false, .int .u64 0, .slice none 0 0, .int .i64 1, .int .i64 0, .int .i64 0, .int .i64 2, .bool false, .bool false, .int .u64 0, .slice none 0 0, .int .i64 1, .int .i64 0, .int .i64 0, .int .i64 9, .bool false, .bool false, .int .u64 0, .slice none 0 0, .int .i64 1, .int .i64 0, .int .i64 0, .int .i64 0, .bool false, .bool false, .int .u64 0, .slice none 0 0] 25) = W54 at hS54 ⊢
          clear hW54 hz54
          refine hK.out _ _ (trivial) (fun hHeld => ?_)
          clear hK K
          refine wpAnyH_ready (rs := [41]) (by kernel_rfl) (by simp) ?_
          refine AllReadyH.cons rfl (fun K hK => ?_) AllReadyH.nil
          go_simp
          go_wp2_with (fail)
          have h5 := ls_last (g0 := g0) (g1 := g1) (g2 := g2) (g3 := g3) hS54
          refine hK.out _ _ (trivial) (fun hHeld => ?_)
          clear hK K
          refine tkq 42 (some 51) (v := ?_) rfl (Or.inl ⟨by rfl, ?_⟩) (by assumption) ?_
          rotate_left
          · intro w hSw; (try dsimp only at hSw); go_simp; first | done | (with_reducible rfl)
          simp only [Act.put, List.setIfInBounds_toArray, List.set_cons_zero, List.set_cons_succ]
          refine wpAnyH_done (by kernel_rfl) ?_ _
          go_wp2_with fail
          go_meet
          exact ⟨_, rfl, rfl, rfl, h5⟩
      · go_simp
        go_wp2_with (fail)
        have hS55 := hS49.b1
        rw [nr1_c] at hS55
        obtain ⟨g1, hz55⟩ : ∃ g, W49.heap.size = g := ⟨_, rfl⟩
        rw [hz55] at hS55 ⊢
        generalize hW55 : W49.alloc (.cells #[.int .i64 0, .int .i64 0, .int .i64 0, .int .i64 0, .bool true, .bool false, .int .u64 0, .slice (some ⟨gl, 0, none⟩) 5 512, .int .i64 0, .int .i64 5, .int .i64 0, .int .i64 0, .bool false, .bool false, .int .u64 0, .slice none 0 0, .int .i64 0, .int .i64 5, .int .i64 0, .int .i64 0, .bool true, .bool false, .int .u64 0, .slice none 0 0, .int .i64 0, .int .i64 6, .int .i64 0, .int .i64 0, .bool true, .bool false, .int .u64 0, .slice none 0 0, .int .i64 0, .int .i64 4, .int .i64 0, .int .i64 0, .bool true, .bool false, .int .u64 0, .slice none 0 0, .int .i64 1, .int .i64 0, .int .i64 0, .int .i64 (-1), .bool false, .bool false, .int .u64 0, .slice none 0 0, .int .i64 1, .int .i64 0, .int .i64 0, .int .i64 2, .bool false, .bool false, .int .u64 0, .slice none 0 0, .int .i64 1, .int .i64 0, .int .i64 0, .int .i64 9, .bool false, .bool false, .int .u64 0, .slice none 0 0, .int .i64 1, .int .i64 0, .int .i64 0, .int .i64 0, .bool false, .bool false, .int .u64 0, .slice none 0 0] 25) = W55 at hS55 ⊢
        clear hW55 hz55
        refine hK.out _ _ (trivial) (fun hHeld => ?_)
        clear hK K
        refine wpAnyH_ready (rs := [8, 34]) (by kernel_rfl) (by simp) ?_
        refine AllReadyH.cons rfl (fun K hK => ?_) (AllReadyH.cons rfl (fun K hK => ?_) (AllReadyH.nil))
        · go_simp
          go_wp2_with (fail)
          have hS56 := hS55.b0
          rw [nr0_c] at hS56
          obtain ⟨g0, hz56⟩ : ∃ g, W55.heap.size = g := ⟨_, rfl⟩
          rw [hz56] at hS56 ⊢
          generalize hW56 : W55.alloc (.cells #[.int .i64 0, .int .i64 0, .int .i64 0, .int .i64 0, .bool false, .bool true, .int .u64 1099511627777, .slice none 0 0, .int .i64 0, .int .i64 0, .int .i64 0, .int .i64 0, .bool false, .bool true, .int .u64 2008, .slice (some ⟨gl, 0, none⟩) 40 512, .int .i64 0, .int .i64 0, .int .i64 0, .int .i64 0, .bool false, .bool true, .int .u64 2009, .slice (some ⟨gl, 0, none⟩) 40 512, .int .i64 1, .int .i64 0, .int .i64 0, .int .i64 9, .bool false, .bool false, .int .u64 0, .slice none 0 0] 25) = W56 at hS56 ⊢
          clear hW56 hz56
          refine hK.out _ _ (trivial) (fun hHeld => ?_)
          clear hK K
          refine wpAnyH_ready (rs := [34]) (by kernel_rfl) (by simp) ?_
          refine AllReadyH.cons rfl (fun K hK => ?_) AllReadyH.nil
          go_simp
          go_wp2_with (fail)
          have hS57 := hS56.b2
          rw [nr2_c] at hS57
          obtain ⟨g2, hz57⟩ : ∃ g, W56.heap.size = g := ⟨_, rfl⟩
          rw [hz57] at hS57 ⊢
          generalize hW57 : W56.alloc (.cells #[.int .i64 0, .int .i64 9, .int .i64 0, .int .i64 0, .bool false, .bool false, .int .u64 0, .slice (some ⟨gl, 0, none⟩) 3 512, .int .i64 0, .int .i64 5, .int .i64 0, .int .i64 0, .bool true, .bool false, .int .u64 0, .slice none 0 0, .int .i64 0, .int .i64 12, .int .i64 0, .int .i64 0, .bool true, .bool false, .int .u64 0, .slice none 0 0, .int .i64 0, .int .i64 0, .int .i64 0, .int .i64 0, .bool false, .bool false, .int .u64 0, .slice (some ⟨gl, 0, none⟩) 9 512, .int .i64 1, .int .i64 0, .int .i64 0, .int .i64 5, .bool false, .bool false, .int .u64 0, .slice none 0 0, .int .i64 0, .int .i64 0, .int .i64 0, .int .i64 0, .bool true, .bool false, .int .u64 0, .slice (some ⟨gl, 0, none⟩) 12 512, .int .i64 1, .int .i64 0, .int .i64 0, .int .i64 99, .bool false, .bool false, .int .u64 0, .slice none 0 0] 25) = W57 at hS57 ⊢
          clear hW57 hz57
          refine hK.out _ _ (trivial) (fun hHeld => ?_)
          clear hK K
          refine wpAnyH_ready (rs := [41]) (by kernel_rfl) (by simp) ?_
          refine AllReadyH.cons rfl (fun K hK => ?_) AllReadyH.nil
          go_simp
          go_wp2_with (fail)
          have h5 := ls_last (g0 := g0) (g1 := g1) (g2 := g2) (g3 := g3) hS57
          refine hK.out _ _ (trivial) (fun hHeld => ?_)
          clear hK K
          refine tkq 42 (some 51) (v := ?_) rfl (Or.inl ⟨by rfl, ?_⟩) (by assumption) ?_
          rotate_left
          · intro w hSw; (try dsimp only at hSw); go_simp; first | done | (with_reducible rfl)
          simp only [Act.put, List.setIfInBounds_toArray, List.set_cons_zero, List.set_cons_succ]
          refine wpAnyH_done (by kernel_rfl) ?_ _
          go_wp2_with fail
          go_meet
          exact ⟨_, rfl, rfl, rfl, h5⟩
        · go_simp
          go_wp2_with (fail)
          have hS58 := hS55.b2
          rw [nr2_c] at hS58
          obtain ⟨g2, hz58⟩ : ∃ g, W55.heap.size = g := ⟨_, rfl⟩
          rw [hz58] at hS58 ⊢
          generalize hW58 : W55.alloc (.cells #[.int .i64 0, .int .i64 9, .int .i64 0, .int .i64 0, .bool false, .bool false, .int .u64 0, .slice (some ⟨gl, 0, none⟩) 3 512, .int .i64 0, .int .i64 5, .int .i64 0, .int .i64 0, .bool true, .bool false, .int .u64 0, .slice none 0 0, .int .i64 0, .int .i64 12, .int .i64 0, .int .i64 0, .bool true, .bool false, .int .u64 0, .slice none 0 0, .int .i64 0, .int .i64 0, .int .i64 0, .int .i64 0, .bool false, .bool false, .int .u64 0, .slice (some ⟨gl, 0, none⟩) 9 512, .int .i64 1, .int .i64 0, .int .i64 0, .int .i64 5, .bool false, .bool false, .int .u64 0, .slice none 0 0, .int .i64 0, .int .i64 0, .int .i64 0, .int .i64 0, .bool true, .bool false, .int .u64 0, .slice (some ⟨gl, 0, none⟩) 12 512, .int .i64 1, .int .i64 0, .int .i64 0, .int .i64 99, .bool false, .bool false, .int .u64 0, .slice none 0 0] 25) = W58 at hS58 ⊢
          clear hW58 hz58
          refine hK.out _ _ (trivial) (fun hHeld => ?_)
          clear hK K
          refine wpAnyH_ready (rs := [8]) (by kernel_rfl) (by simp) ?_
          refine AllReadyH.cons rfl (fun K hK => ?_) AllReadyH.nil
          go_simp
          go_wp2_with (fail)
          have hS59 := hS58.b0
          rw [nr0_c] at hS59
          obtain ⟨g0, hz59⟩ : ∃ g, W58.heap.size = g := ⟨_, rfl⟩
          rw [hz59] at hS59 ⊢
          generalize hW59 : W58.alloc (.cells #[.int .i64 0, .int .i64 0, .int .i64 0, .int .i64 0, .bool false, .bool true, .int .u64 1099511627777, .slice none 0 0, .int .i64 0, .int .i64 0, .int .i64 0, .int .i64 0, .bool false, .bool true, .int .u64 2008, .slice (some ⟨gl, 0, none⟩) 40 512, .int .i64 0, .int .i64 0, .int .i64 0, .int .i64 0, .bool false, .bool true, .int .u64 2009, .slice (some ⟨gl, 0, none⟩) 40 512, .int .i64 1, .int .i64 0, .int .i64 0, .int .i64 9, .bool false, .bool false, .int .u64 0, .slice none 0 0] 25) = W59 at hS59 ⊢
          clear hW59 hz59
          refine hK.out _ _ (trivial) (fun hHeld => ?_)
          clear hK K
          refine wpAnyH_ready (rs := [41]) (by kernel_rfl) (by simp) ?_
          refine AllReadyH.cons rfl (fun K hK => ?_) AllReadyH.nil
          go_simp
          go_wp2_with (fail)
          have h5 := ls_last (g0 := g0) (g1 := g1) (g2 := g2) (g3 := g3) hS59
          refine hK.out _ _ (trivial) (fun hHeld => ?_)
          clear hK K
          refine tkq 42 (some 51) (v := ?_) rfl (Or.inl ⟨by rfl, ?_⟩) (by assumption) ?_
          rotate_left
          · intro w hSw; (try dsimp only at hSw); go_simp; first | done | (with_reducible rfl)
          simp only [Act.put, List.setIfInBounds_toArray, List.set_cons_zero, List.set_cons_succ]
          refine wpAnyH_done (by kernel_rfl) ?_ _
          go_wp2_with fail
          go_meet
          exact ⟨_, rfl, rfl, rfl, h5⟩
      · go_simp
        go_wp2_with (fail)
        have hS60 := hS49.b2
        rw [nr2_c] at hS60
        obtain ⟨g2, hz60⟩ : ∃ g, W49.heap.size = g := ⟨_, rfl⟩
        rw [hz60] at hS60 ⊢
        generalize hW60 : W49.alloc (.cells #[.int .i64 0, .int .i64 9, .int .i64 0, .int .i64 0, .bool false, .bool false, .int .u64 0, .slice (some ⟨gl, 0, none⟩) 3 512, .int .i64 0, .int .i64 5, .int .i64 0, .int .i64 0, .bool true, .bool false, .int .u64 0, .slice none 0 0, .int .i64 0, .int .i64 12, .int .i64 0, .int .i64 0, .bool true, .bool false, .int .u64 0, .slice none 0 0, .int .i64 0, .int .i64 0, .int .i64 0, .int .i64 0, .bool false, .bool false, .int .u64 0, .slice (some ⟨gl, 0, none⟩) 9 512, .int .i64 1, .int .i64 0, .int .i64 0, .int .i64 5, .bool false, .bool false, .int .u64 0, .slice none 0 0, .int .i64 0, .int .i64 0, .int .i64 0, .int .i64 0, .bool true, .bool false, .int .u64 0, .slice (some ⟨gl, 0, none⟩) 12 512, .int .i64 1, .int .i64 0, .int .i64 0, .int .i64 99, .bool false, .bool false, .int .u64 0, .slice none 0 0] 25) = W60 at hS60 ⊢
        clear hW60 hz60
        refine hK.out _ _ (trivial) (fun hHeld => ?_)
        clear hK K
        refine wpAnyH_ready (rs := [8, 20]) (by kernel_rfl) (by simp) ?_
        refine AllReadyH.cons rfl (fun K hK => ?_) (AllReadyH.cons rfl (fun K hK => ?_) (AllReadyH.nil))
        · go_simp
          go_wp2_with (fail)
          have hS61 := hS60.b0
          rw [nr0_c] at hS61
          obtain ⟨g0, hz61⟩ : ∃ g, W60.heap.size = g := ⟨_, rfl⟩
          rw [hz61] at hS61 ⊢
          generalize hW61 : W60.alloc (.cells #[.int .i64 0, .int .i64 0, .int .i64 0, .int .i64 0, .bool false, .bool true, .int .u64 1099511627777, .slice none 0 0, .int .i64 0, .int .i64 0, .int .i64 0, .int .i64 0, .bool false, .bool true, .int .u64 2008, .slice (some ⟨gl, 0, none⟩) 40 512, .int .i64 0, .int .i64 0, .int .i64 0, .int .i64 0, .bool false, .bool true, .int .u64 2009, .slice (some ⟨gl, 0, none⟩) 40 512, .int .i64 1, .int .i64 0, .int .i64 0, .int .i64 9, .bool false, .bool false, .int .u64 0, .slice none 0 0] 25) = W61 at hS61 ⊢
          clear hW61 hz61
          refine hK.out _ _ (trivial) (fun hHeld => ?_)
          clear hK K
          refine wpAnyH_ready (rs := [20]) (by kernel_rfl) (by simp) ?_
          refine AllReadyH.cons rfl (fun K hK => ?_) AllReadyH.nil
          go_simp
          go_wp2_with (fail)
          have hS62 := hS61.b1
          rw [nr1_c] at hS62
          obtain ⟨g1, hz62⟩ : ∃ g, W61.heap.size = g := ⟨_, rfl⟩
          rw [hz62] at hS62 ⊢
          generalize hW62 : W61.alloc (.cells #[.int .i64 0, .int .i64 0, .int .i64 0, .int .i64 0, .bool true, .bool false, .int .u64 0, .slice (some ⟨gl, 0, none⟩) 5 512, .int .i64 0, .int .i64 5, .int .i64 0, .int .i64 0, .bool false, .bool false, .int .u64 0, .slice none 0 0, .int .i64 0, .int .i64 5, .int .i64 0, .int .i64 0, .bool true, .bool false, .int .u64 0, .slice none 0 0, .int .i64 0, .int .i64 6, .int .i64 0, .int .i64 0, .bool true, .bool false, .int .u64 0, .slice none 0 0, .int .i64 0, .int .i64 4, .int .i64 0, .int .i64 0, .bool true, .bool false, .int .u64 0, .slice none 0 0, .int .i64 1, .int .i64 0, .int .i64 0, .int .i64 (-1), .bool false, .bool false, .int .u64 0, .slice none 0 0, .int .i64 1, .int .i64 0, .int .i64 0, .int .i64 2, .bool false, .bool false, .int .u64 0, .slice none 0 0, .int .i64 1, .int .i64 0, .int .i64 0, .int .i64 9, .bool false, .bool false, .int .u64 0, .slice none 0 0, .int .i64 1, .int .i64 0, .int .i64 0, .int .i64 0, .bool false, .bool false, .int .u64 0, .slice none 0 0] 25) = W62 at hS62 ⊢
          clear hW62 hz62
          refine hK.out _ _ (trivial) (fun hHeld => ?_)
          clear hK K
          refine wpAnyH_ready (rs := [41]) (by kernel_rfl) (by simp) ?_
          refine AllReadyH.cons rfl (fun K hK => ?_) AllReadyH.nil
          go_simp
          go_wp2_with (fail)
          have h5 := ls_last (g0 := g0) (g1 := g1) (g2 := g2) (g3 := g3) hS62
          refine hK.out _ _ (trivial) (fun hHeld => ?_)
          clear hK K
          refine tkq 42 (some 51) (v := ?_) rfl (Or.inl ⟨by rfl, ?_⟩) (by assumption) ?_
          rotate_left
          · intro w hSw; (try dsimp only at hSw); go_simp; first | done | (with_reducible rfl)
          simp only [Act.put, List.setIfInBounds_toArray, List.set_cons_zero, List.set_cons_succ]
          refine wpAnyH_done (by kernel_rfl) ?_ _
          go_wp2_with fail
          go_meet
          exact ⟨_, rfl, rfl, rfl, h5⟩
        · go_simp
          go_wp2_with (fail)
          have hS63 := hS60.b1
          rw [nr1_c] at hS63
          obtain ⟨g1, hz63⟩ : ∃ g, W60.heap.size = g := ⟨_, rfl⟩
          rw [hz63] at hS63 ⊢
          generalize hW63 : W60.alloc (.cells #[.int .i64 0, .int .i64 0, .int .i64 0, .int .i64 0, .bool true, .bool false, .int .u64 0, .slice (some ⟨gl, 0, none⟩) 5 512, .int .i64 0, .int .i64 5, .int .i64 0, .int .i64 0, .bool false, .bool false, .int .u64 0, .slice none 0 0, .int .i64 0, .int .i64 5, .int .i64 0, .int .i64 0, .bool true, .bool false, .int .u64 0, .slice none 0 0, .int .i64 0, .int .i64 6, .int .i64 0, .int .i64 0, .bool true, .bool false, .int .u64 0, .slice none 0 0, .int .i64 0, .int .i64 4, .int .i64 0, .int .i64 0, .bool true, .bool false, .int .u64 0, .slice none 0 0, .int .i64 1, .int .i64 0, .int .i64 0, .int .i64 (-1), .bool false, .bool false, .int .u64 0, .slice none 0 0, .int .i64 1, .int .i64 0, .int .i64 0, .int .i64 2, .bool false, .bool false, .int .u64 0, .slice none 0 0, .int .i64 1, .int .i64 0, .int .i64 0, .int .i64 9, .bool false, .bool false, .int .u64 0, .slice none 0 0, .int .i64 1, .int .i64 0, .int .i64 0, .int .i64 0, .bool false, .bool false, .int .u64 0, .slice none 0 0] 25) = W63 at hS63 ⊢
          clear hW63 hz63
          refine hK.out _ _ (trivial) (fun hHeld => ?_)
          clear hK K
          refine wpAnyH_ready (rs := [8]) (by kernel_rfl) (by simp) ?_
          refine AllReadyH.cons rfl (fun K hK => ?_) AllReadyH.nil
          go_simp
          go_wp2_with (fail)
          have hS64 := hS63.b0
          rw [nr0_c] at hS64
          obtain ⟨g0, hz64⟩ : ∃ g, W63.heap.size = g := ⟨_, rfl⟩
          rw [hz64] at hS64 ⊢
          generalize hW64 : W63.alloc (.cells #[.int .i64 0, .int .i64 0, .int .i64 0, .int .i64 0, .bool false, .bool true, .int .u64 1099511627777, .slice none 0 0, .int .i64 0, .int .i64 0, .int .i64 0, .int .i64 0, .bool false, .bool true, .int .u64 2008, .slice (some ⟨gl, 0, none⟩) 40 512, .int .i64 0, .int .i64 0, .int .i64 0, .int .i64 0, .bool false, .bool true, .int .u64 2009, .slice (some ⟨gl, 0, none⟩) 40 512, .int .i64 1, .int .i64 0, .int .i64 0, .int .i64 9, .bool false, .bool false, .int .u64 0, .slice none 0 0] 25) = W64 at hS64 ⊢
          clear hW64 hz64
          refine hK.out _ _ (trivial) (fun hHeld => ?_)
          clear hK K
          refine wpAnyH_ready (rs := [41]) (by kernel_rfl) (by simp) ?_
          refine AllReadyH.cons rfl (fun K hK => ?_) AllReadyH.nil
          go_simp
          go_wp2_with (fail)
          have h5 := ls_last (g0 := g0) (g1 := g1) (g2 := g2) (g3 := g3) hS64
          refine hK.out _ _ (trivial) (fun hHeld => ?_)
          clear hK K
          refine tkq 42 (some 51) (v := ?_) rfl (Or.inl ⟨by rfl, ?_⟩) (by assumption) ?_
          rotate_left
          · intro w hSw; (try dsimp only at hSw); go_simp; first | done | (with_reducible rfl)
          simp only [Act.put, List.setIfInBounds_toArray, List.set_cons_zero, List.set_cons_succ]
          refine wpAnyH_done (by kernel_rfl) ?_ _
          go_wp2_with fail
          go_meet
          exact ⟨_, rfl, rfl, rfl, h5⟩
  case rest =>
    obtain ⟨g4, rfl, rfl, rfl, hX⟩ := hcut
    have HROW : Hid (∀ i, i < 4 → ∃ (g n : Nat) (L : List AskD), wc.cell? ⟨g4, i, none⟩ = some (.slice (some ⟨g, 0, none⟩) n n) ∧ L.length = n ∧ n ≤ 9 ∧ g < wc.heap.size ∧ ∀ j d, L[j]? = some d → AskAt wc wc.heap.size g (j * 8) d) := by
      obtain ⟨hb, g0, g1, g2, g3, hl, h4⟩ := hX.out
      exact Lib.hid fun i hi => rows4 hl h4 (HGL.out.below hb HGL.out.lt) i hi
    have HG4 : Hid (g4 < wc.heap.size ∧ At wc gl 5 (madeL (.int .u8 0) 512) ∧ Below w.heap.size w wc ∧ gl < wc.heap.size) := by
      obtain ⟨hb, g0, g1, g2, g3, hl, h4⟩ := hX.out
      exact Lib.hid ⟨h4.lt, HGL.out.below hb HGL.out.lt, HB1.out.trans (hb.mono HB1.out.size), (HGL.out.below hb HGL.out.lt).lt⟩
    clear hX HGL HB1 HGE
    go_wp2_with (fail)
    go_loopg [52] 4 (fun kx s52 wr => ∃ i : Nat, s52 = .int .i64 i ∧ i ≤ 4 ∧ 4 - i ≤ kx ∧ Hid (Below wc.heap.size wc wr))
    case atStart => exact ⟨0, rfl, by omega, by omega, Lib.hid (Below.refl _ _)⟩
    case round =>
      obtain ⟨i, rfl, hi4, hkx, hB⟩ := hrel
      by_cases hgo : i < 4
      · obtain ⟨wo, rfl⟩ : ∃ wo : World, wo = wr := ⟨_, rfl⟩
        obtain ⟨g, n, L, hc, hL, hn9, hg, hA⟩ := HROW.out i hgo
        have c0 : wo.cell? ⟨g4, i, none⟩ = some (.slice (some ⟨g, 0, none⟩) n n) := (hB.out.cell (p := ⟨g4, i, none⟩) HG4.out.1).trans hc
        have HA : Hid (∀ j d, L[j]? = some d → AskAt wo wo.heap.size g (j * 8) d) := Lib.hid fun j d h => ((hA j d h).below hB.out hg).more hB.out.size
        have HL := Lib.hid hL
        have Hg : Hid (g < wo.heap.size) := Lib.hid (Nat.lt_of_lt_of_le hg hB.out.size)
        clear hc hL hg hA
        have hiz : (i : Int) < 4 := by omega
        have HN := Lib.hid (inew_any wo)
        have HTB := Lib.hid (tb_new wo)
        go_wp2_with (go_at_call 7; (with_reducible refine HN.out.mono ?_); rintro e w2 ⟨p, rfl, hO1, hb1⟩; have HT := Lib.hid (HTB.out w2 p hO1 hb1); clear hO1 hb1)
        obtain ⟨q, hq⟩ : ∃ q, w2.heap.size = q := ⟨_, rfl⟩
        rw [hq] at HT ⊢
        clear hq c0
        go_loopg [6] 9 (fun kx s6 wr => ∃ j : Nat, s6 = .int .i64 j ∧ j ≤ n ∧ n - j ≤ kx ∧ Hid (∃ S, Tb wo.heap.size wr p q S ∧ Below wo.heap.size wo wr))
        case atStart => exact ⟨0, rfl, by omega, by omega, Lib.hid ⟨_, HT.out⟩⟩
        case round =>
          clear HT
          obtain ⟨j, rfl, hjn, hkx2, hT⟩ := hrel
          by_cases hgo2 : j < n
          · obtain ⟨S, hTb, hBl⟩ := hT.out
            obtain ⟨d, hx⟩ : ∃ d, L[j]? = some d := ⟨_, List.getElem?_eq_getElem (by rw [HL.out]; exact hgo2)⟩
            have ha := (HA.out j d hx).below hBl Hg.out
            have HD := Lib.hid (do14_any wo.heap.size p q S d wr hTb ha.wf ha.rd)
            have e0 := ha.c0
            have e1 := ha.c1
            have e2 := ha.c2
            have e3 := ha.c3
            have e4 := ha.c4
            have e5 := ha.c5
            have e6 := ha.c6
            have e7 := ha.c7
            obtain ⟨dk, doff, dsize, dmost, dfin, draw, dat, dA, dn, dc, dbs⟩ := d
            simp only [AskD.v] at HD e0 e1 e2 e3 e4 e5 e6 e7
            have HBL := Lib.hid hBl
            clear ha hx hTb hBl hT
            have hjz : (j : Int) < (n : Int) := by omega
            go_wp2_with (go_at_call 8; (with_reducible refine HD.out.mono ?_); rintro e w3 ⟨rfl, hT3, hb3⟩; have H3 : Hid (∃ S, Tb wo.heap.size w3 p q S ∧ Below wo.heap.size wo w3) := Lib.hid ⟨hT3.choose, hT3.choose_spec, HBL.out.trans hb3⟩; clear hT3 hb3)
            go_roundg (n - (j + 1))
            case measure => omega
            case rel => exact ⟨j + 1, by simp, by omega, by omega, H3⟩
          · have hjz : ¬ (j : Int) < (n : Int) := by omega
            have HB2 : Hid (Below wc.heap.size wc wr) := by
              obtain ⟨S, hTb, hBl⟩ := hT.out
              exact Lib.hid (hB.out.trans (hBl.mono hB.out.size))
            clear hT
            go_wp2
            go_roundg (4 - (i + 1))
            case measure => omega
            case rel => exact ⟨i + 1, by simp, by omega, by omega, HB2⟩
      · obtain rfl : i = 4 := by omega
        clear HROW
        obtain ⟨w5, rfl⟩ : ∃ w5 : World, w5 = wr := ⟨_, rfl⟩
        have HB5 : Hid (Below w.heap.size w w5) := Lib.hid (HG4.out.2.2.1.trans (hB.out.mono HG4.out.2.2.1.size))
        have HL5 : Hid (Rd w5 w5.heap.size (some ⟨gl, 0, none⟩) 512 (List.replicate 512 0)) := Lib.hid (rd_made14 (HG4.out.2.1.below hB.out HG4.out.2.2.2) (by omega) (Nat.lt_of_lt_of_le HG4.out.2.2.2 hB.out.size))
        clear HG4 hB
        have HN := Lib.hid (ob_new w5)
        have H0 : Hid (∀ W W' g p, Ob w5 W p bs0 (fun _ => False) → At W' g 5 (madeL (.int .u8 0) 513) → g = W.heap.size → Below W.heap.size W W' → Calls Try.prog 9 #[.pointer (some ⟨p, 0, none⟩), .int .u64 0, .slice (some ⟨g, 0, none⟩) 513 513, .bool false] W' fun e w' => e = .returned (.int .i64 1) ∧ Ob w5 w' p bs0 (fun _ => False)) := Lib.hid fun W W' g p h hA hg hb => by
          have h' := h.fresh (F' := fun b => b = g) hb fun b e => .inr ⟨by omega, by rw [e]; exact hA.lt⟩
          have := ob_add_f h' 0 g 513 513 (List.replicate 513 0) false (rd_made14 hA (Nat.le_refl _) hA.lt) rfl (Nat.le_refl _) (by omega) (by omega)
          rw [big_e, big_eq] at this
          exact this.mono fun e w' hP => ⟨hP.1, hP.2.1.weak fun b hb => hb.elim⟩
        have H1 : Hid (∀ W p, Ob w5 W p bs0 (fun _ => False) → Calls Try.prog 9 #[.pointer (some ⟨p, 0, none⟩), .int .u64 0, .slice (some ⟨gl, 0, none⟩) 512 512, .bool false] W fun e w' => e = .returned (.int .i64 0) ∧ Ob w5 w' p (addR bs0 0 (List.replicate 512 0) false) (fun _ => False)) := Lib.hid fun W p h => by
          have := ob_add_in h 0 (some ⟨gl, 0, none⟩) 512 512 (List.replicate 512 0) false HL5.out (Nat.le_refl _) (by omega) (by omega)
          rw [long_e] at this
          exact this.mono fun e w' hP => ⟨hP.1, hP.2.1⟩
        have H2 : Hid (∀ W p, Ob w5 W p (addR bs0 0 (List.replicate 512 0) false) (fun _ => False) → Calls Try.prog 10 #[.pointer (some ⟨p, 0, none⟩)] W fun e w' => e = .returned (.int .i64 512) ∧ Below w5.heap.size w5 w') := Lib.hid fun W p h => (ob_ready h 512 long_r).mono fun e w' hP => ⟨hP.1, hP.2.1.bl⟩
        have HK : Hid (∀ W, Calls Try.prog 11 #[] W fun e w' => e = .returned (.bool true) ∧ Below W.heap.size W w') := Lib.hid known14_any
        clear HL5
        go_wp2_with (first
          | (go_at_call 7; (with_reducible refine HN.out.mono ?_); rintro e w6 ⟨p, rfl, hO1⟩; have HO6 := Lib.hid hO1; clear hO1)
          | (at_make; refine wpList_make_g (by go_simp) (.const (.int .i64 513)) (.const (.int .i64 513)) 22 rfl 5 i0 (.int .u8 0) Try.underlying22 hi hz0 hz1 .i64 .i64 513 rfl rfl (by rw [hz2]; omega) (by unfold maxLen; omega) ?_; intro w7 g7 G1 G2 G3; have HC := Lib.hid (H0.out _ _ _ _ HO6.out G1.out G2.out G3.out); clear G1 G2 G3 HO6)
          | (go_at_call 9; (with_reducible refine HC.out.mono ?_); rintro e w8 ⟨rfl, hO8⟩; have HD := Lib.hid (H1.out w8 p hO8); clear hO8 HC)
          | (go_at_call 9; (with_reducible refine HD.out.mono ?_); rintro e w9 ⟨rfl, hO9⟩; have HE := Lib.hid (H2.out w9 p hO9); clear hO9 HD)
          | (go_at_call 10; (with_reducible refine HE.out.mono ?_); rintro e w10 ⟨rfl, hO10⟩; have HF := Lib.hid hO10; clear hO10)
          | (go_at_call 11; (with_reducible refine (HK.out _).mono ?_); rintro e w11 ⟨rfl, hO11⟩))
        go_ret
        exact ⟨by first | rfl | simp, (HB5.out.trans (HF.out.mono HB5.out.size)).trans (hO11.mono (Nat.le_trans HB5.out.size HF.out.size))⟩
end Go.Proofs.Ythgbnknahnaemaa
