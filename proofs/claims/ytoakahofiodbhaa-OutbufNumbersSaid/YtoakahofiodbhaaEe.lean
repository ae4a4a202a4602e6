/-
  OutbufNumbers: its walk.
-/
import Derived.Test.YtoakahofiodbhaaEd
import Derived.Test.YtoakahofiodbhaaDq
import Derived.Deep.CutRange
namespace Go.Proofs.Ytoakahofiodbhaa
set_option linter.unusedVariables false
set_option linter.unusedSimpArgs false
open Go.RowKit
def eRow (L : List AskE) : List Value := L.flatMap AskE.cs
theorem eRow_get : ∀ (L : List AskE) (j : Nat) (d : AskE), L[j]? = some d → ∀ t, t < 7 → (eRow L)[j * 7 + t]? = d.cs[t]?
  | [], j, d, h, _, _ => by simp at h
  | x :: L, 0, d, h, t, ht => by
    simp at h
    subst h
    show (x.cs ++ eRow L)[0 * 7 + t]? = _
    rw [Nat.zero_mul, Nat.zero_add, List.getElem?_append_left (by simp [AskE.cs]; omega)]
  | x :: L, j + 1, d, h, t, ht => by
    have h' : L[j]? = some d := by simpa using h
    show (x.cs ++ eRow L)[(j + 1) * 7 + t]? = _
    rw [List.getElem?_append_right (by simp [AskE.cs]; omega), ← eRow_get L j d h' t ht]
    congr 1
    simp [AskE.cs]
    omega
/-- A call stands at place o of block b; its bytes lie below block B. -/
structure AskEAt (w : World) (B b o : Nat) (d : AskE) : Prop where
  c : ∀ t v, d.cs[t]? = some v → w.cell? ⟨b, o + t, none⟩ = some v
  rd : Rd w B d.A d.m d.bs
  wf : d.wf
theorem AskEAt.below {w w' : World} {B b o : Nat} {d : AskE} (h : AskEAt w B b o d) (hb : Below B w w') (hlt : b < B) : AskEAt w' B b o d :=
  ⟨fun t v hv => (hb.cell (p := ⟨b, _, none⟩) hlt).trans (h.c t v hv), h.rd.below hb, h.wf⟩
theorem AskEAt.more {w : World} {B B' b o : Nat} {d : AskE} (h : AskEAt w B b o d) (hb : B ≤ B') : AskEAt w B' b o d :=
  { h with rd := ⟨h.rd.1, h.rd.2.1, fun hp => by obtain ⟨b, off, h1, h2, h3⟩ := h.rd.2.2 hp; exact ⟨b, off, h1, Nat.lt_of_lt_of_le h2 hb, h3⟩⟩ }
theorem aske_lit {W : World} {B g : Nat} {L : List AskE} (h : At W g 25 (eRow L)) (hd : ∀ d ∈ L, d.wf ∧ Rd W B d.A d.m d.bs) : ∀ j d, L[j]? = some d → AskEAt W B g (j * 7) d := fun j d hj => by
  have hw := hd d (List.mem_of_getElem? hj)
  refine ⟨fun t v hv => ?_, hw.2, hw.1⟩
  have ht := (List.getElem?_eq_some_iff.1 hv).1
  rw [h.cell, eRow_get L j d hj t (by simpa [AskE.cs] using ht)]
  exact hv
theorem madeL15 (n : Nat) : madeL (.int .u8 0) n = (List.replicate n (0 : Int)).map (Value.int .u8) := by
  rw [List.map_replicate]
  apply List.ext_getElem?
  intro i
  by_cases hi : i < n
  · rw [List.getElem?_replicate, if_pos hi]
    simp [madeL, madeCells, Value.cells, Nat.mod_one, hi]
  · rw [List.getElem?_eq_none (by rw [madeL_len]; omega), List.getElem?_eq_none (by simp; omega)]
theorem rd_made15 {W : World} {g B n m : Nat} (h : At W g 5 (madeL (.int .u8 0) n)) (hm : m ≤ n) (hB : g < B) : Rd W B (some ⟨g, 0, none⟩) m (List.replicate m 0) := by
  refine ⟨by simp, fun x hx => by rw [List.eq_of_mem_replicate hx]; omega, fun hp => ⟨g, 0, rfl, hB, fun i hi => ?_⟩⟩
  rw [Nat.zero_add, h.cell, madeL15, List.map_replicate, List.getElem?_replicate, if_pos (by omega), List.getD_eq_getElem?_getD, List.getElem?_replicate, if_pos hi]
  rfl
theorem enil_wf {k most n : Int} {off lim : Nat} {fin : Bool} (h1 : -9223372036854775808 ≤ most ∧ most < 4611686018427387904) (h2 : -9223372036854775808 ≤ n ∧ n < 9223372036854775808) (h3 : off < 18446744073709551616) (h4 : lim < 18446744073709551616) : (AskE.wf ⟨k, most, n, off, lim, fin, none, 0, 0, []⟩) :=
  ⟨h1, h2, h3, h4, Nat.le_refl _, Nat.zero_le _, fun _ => rfl⟩
theorem edat_wf {k most n : Int} {off lim : Nat} {fin : Bool} {gl : Nat} (h1 : -9223372036854775808 ≤ most ∧ most < 4611686018427387904) (h2 : -9223372036854775808 ≤ n ∧ n < 9223372036854775808) (h3 : off < 18446744073709551616) (h4 : lim < 18446744073709551616) : (AskE.wf ⟨k, most, n, off, lim, fin, some ⟨gl, 0, none⟩, 60, 60, List.replicate 60 0⟩) :=
  ⟨h1, h2, h3, h4, Nat.le_refl _, by show 60 ≤ maxLen; unfold maxLen; omega, fun h => by cases h⟩
def er0 (gl : Nat) : List AskE := [⟨3, 5, 0, 0, 9, false, none, 0, 0, []⟩, ⟨2, 0, 0, 0, 0, false, none, 0, 0, []⟩, ⟨2, 0, 0, 0, 0, false, none, 0, 0, []⟩, ⟨3, 0, 3, 0, 9, false, none, 0, 0, []⟩, ⟨3, 5, 0, 0, 0, false, none, 0, 0, []⟩, ⟨7, 0, 0, 0, 0, true, none, 0, 0, []⟩, ⟨3, 0, 0, 0, 0, false, none, 0, 0, []⟩, ⟨6, 0, 0, 0, 0, true, none, 0, 0, []⟩, ⟨0, 0, 0, 0, 0, false, some ⟨gl, 0, none⟩, 60, 60, List.replicate 60 0⟩]
def er1 (gl : Nat) : List AskE := [⟨0, 0, 0, 0, 0, false, some ⟨gl, 0, none⟩, 60, 60, List.replicate 60 0⟩, ⟨3, 20, 3, 0, 50, false, none, 0, 0, []⟩, ⟨3, 99, 3, 0, 50, false, none, 0, 0, []⟩, ⟨7, 0, 10, 5, 0, false, none, 0, 0, []⟩, ⟨6, 0, 2, 8, 0, false, none, 0, 0, []⟩, ⟨3, 99, 3, 0, 0, false, none, 0, 0, []⟩, ⟨3, 99, 3, 0, 0, false, none, 0, 0, []⟩, ⟨2, 0, 0, 0, 0, false, none, 0, 0, []⟩, ⟨3, 99, 3, 0, 399, false, none, 0, 0, []⟩, ⟨7, 0, 10, 50, 0, true, none, 0, 0, []⟩, ⟨3, 4, 3, 0, 0, false, none, 0, 0, []⟩, ⟨3, 99, 0, 0, 0, false, none, 0, 0, []⟩, ⟨6, 0, 100, 0, 0, true, none, 0, 0, []⟩]
def er2 (gl : Nat) : List AskE := [⟨0, 0, 0, 0, 0, false, some ⟨gl, 0, none⟩, 60, 60, List.replicate 60 0⟩, ⟨3, (-1), 3, 0, 99, false, none, 0, 0, []⟩, ⟨6, 0, 60, 0, 0, false, none, 0, 0, []⟩, ⟨6, 0, (-1), 0, 0, false, none, 0, 0, []⟩, ⟨2, 0, 0, 0, 0, false, none, 0, 0, []⟩, ⟨3, 60, 3, 0, 60, false, none, 0, 0, []⟩, ⟨6, 0, 1, 0, 0, true, none, 0, 0, []⟩, ⟨6, 0, 60, 0, 0, false, none, 0, 0, []⟩]
theorem er0_c (gl : Nat) : (eRow (er0 gl)).toArray = #[.int .i64 3, .int .i64 5, .int .i64 0, .int .u64 0, .int .u64 9, .bool false, .slice none 0 0, .int .i64 2, .int .i64 0, .int .i64 0, .int .u64 0, .int .u64 0, .bool false, .slice none 0 0, .int .i64 2, .int .i64 0, .int .i64 0, .int .u64 0, .int .u64 0, .bool false, .slice none 0 0, .int .i64 3, .int .i64 0, .int .i64 3, .int .u64 0, .int .u64 9, .bool false, .slice none 0 0, .int .i64 3, .int .i64 5, .int .i64 0, .int .u64 0, .int .u64 0, .bool false, .slice none 0 0, .int .i64 7, .int .i64 0, .int .i64 0, .int .u64 0, .int .u64 0, .bool true, .slice none 0 0, .int .i64 3, .int .i64 0, .int .i64 0, .int .u64 0, .int .u64 0, .bool false, .slice none 0 0, .int .i64 6, .int .i64 0, .int .i64 0, .int .u64 0, .int .u64 0, .bool true, .slice none 0 0, .int .i64 0, .int .i64 0, .int .i64 0, .int .u64 0, .int .u64 0, .bool false, .slice (some ⟨gl, 0, none⟩) 60 60] := rfl
theorem er0_d {W : World} {gl B : Nat} (h : At W gl 5 (madeL (.int .u8 0) 60)) (hB : gl < B) : ∀ d ∈ er0 gl, d.wf ∧ Rd W B d.A d.m d.bs := by
  intro d hd
  unfold er0 at hd
  simp only [List.mem_cons, List.not_mem_nil, or_false] at hd
  rcases hd with rfl | rfl | rfl | rfl | rfl | rfl | rfl | rfl | rfl
  · exact ⟨enil_wf (by omega) (by omega) (by omega) (by omega), Rd.none_ _ _ _⟩
  · exact ⟨enil_wf (by omega) (by omega) (by omega) (by omega), Rd.none_ _ _ _⟩
  · exact ⟨enil_wf (by omega) (by omega) (by omega) (by omega), Rd.none_ _ _ _⟩
  · exact ⟨enil_wf (by omega) (by omega) (by omega) (by omega), Rd.none_ _ _ _⟩
  · exact ⟨enil_wf (by omega) (by omega) (by omega) (by omega), Rd.none_ _ _ _⟩
  · exact ⟨enil_wf (by omega) (by omega) (by omega) (by omega), Rd.none_ _ _ _⟩
  · exact ⟨enil_wf (by omega) (by omega) (by omega) (by omega), Rd.none_ _ _ _⟩
  · exact ⟨enil_wf (by omega) (by omega) (by omega) (by omega), Rd.none_ _ _ _⟩
  · exact ⟨edat_wf (by omega) (by omega) (by omega) (by omega), rd_made15 (m := 60) h (by omega) hB⟩
theorem er1_c (gl : Nat) : (eRow (er1 gl)).toArray = #[.int .i64 0, .int .i64 0, .int .i64 0, .int .u64 0, .int .u64 0, .bool false, .slice (some ⟨gl, 0, none⟩) 60 60, .int .i64 3, .int .i64 20, .int .i64 3, .int .u64 0, .int .u64 50, .bool false, .slice none 0 0, .int .i64 3, .int .i64 99, .int .i64 3, .int .u64 0, .int .u64 50, .bool false, .slice none 0 0, .int .i64 7, .int .i64 0, .int .i64 10, .int .u64 5, .int .u64 0, .bool false, .slice none 0 0, .int .i64 6, .int .i64 0, .int .i64 2, .int .u64 8, .int .u64 0, .bool false, .slice none 0 0, .int .i64 3, .int .i64 99, .int .i64 3, .int .u64 0, .int .u64 0, .bool false, .slice none 0 0, .int .i64 3, .int .i64 99, .int .i64 3, .int .u64 0, .int .u64 0, .bool false, .slice none 0 0, .int .i64 2, .int .i64 0, .int .i64 0, .int .u64 0, .int .u64 0, .bool false, .slice none 0 0, .int .i64 3, .int .i64 99, .int .i64 3, .int .u64 0, .int .u64 399, .bool false, .slice none 0 0, .int .i64 7, .int .i64 0, .int .i64 10, .int .u64 50, .int .u64 0, .bool true, .slice none 0 0, .int .i64 3, .int .i64 4, .int .i64 3, .int .u64 0, .int .u64 0, .bool false, .slice none 0 0, .int .i64 3, .int .i64 99, .int .i64 0, .int .u64 0, .int .u64 0, .bool false, .slice none 0 0, .int .i64 6, .int .i64 0, .int .i64 100, .int .u64 0, .int .u64 0, .bool true, .slice none 0 0] := rfl
theorem er1_d {W : World} {gl B : Nat} (h : At W gl 5 (madeL (.int .u8 0) 60)) (hB : gl < B) : ∀ d ∈ er1 gl, d.wf ∧ Rd W B d.A d.m d.bs := by
  intro d hd
  unfold er1 at hd
  simp only [List.mem_cons, List.not_mem_nil, or_false] at hd
  rcases hd with rfl | rfl | rfl | rfl | rfl | rfl | rfl | rfl | rfl | rfl | rfl | rfl | rfl
  · exact ⟨edat_wf (by omega) (by omega) (by omega) (by omega), rd_made15 (m := 60) h (by omega) hB⟩
  · exact ⟨enil_wf (by omega) (by omega) (by omega) (by omega), Rd.none_ _ _ _⟩
  · exact ⟨enil_wf (by omega) (by omega) (by omega) (by omega), Rd.none_ _ _ _⟩
  · exact ⟨enil_wf (by omega) (by omega) (by omega) (by omega), Rd.none_ _ _ _⟩
  · exact ⟨enil_wf (by omega) (by omega) (by omega) (by omega), Rd.none_ _ _ _⟩
  · exact ⟨enil_wf (by omega) (by omega) (by omega) (by omega), Rd.none_ _ _ _⟩
  · exact ⟨enil_wf (by omega) (by omega) (by omega) (by omega), Rd.none_ _ _ _⟩
  · exact ⟨enil_wf (by omega) (by omega) (by omega) (by omega), Rd.none_ _ _ _⟩
  · exact ⟨enil_wf (by omega) (by omega) (by omega) (by omega), Rd.none_ _ _ _⟩
  · exact ⟨enil_wf (by omega) (by omega) (by omega) (by omega), Rd.none_ _ _ _⟩
  · exact ⟨enil_wf (by omega) (by omega) (by omega) (by omega), Rd.none_ _ _ _⟩
  · exact ⟨enil_wf (by omega) (by omega) (by omega) (by omega), Rd.none_ _ _ _⟩
  · exact ⟨enil_wf (by omega) (by omega) (by omega) (by omega), Rd.none_ _ _ _⟩
theorem er2_c (gl : Nat) : (eRow (er2 gl)).toArray = #[.int .i64 0, .int .i64 0, .int .i64 0, .int .u64 0, .int .u64 0, .bool false, .slice (some ⟨gl, 0, none⟩) 60 60, .int .i64 3, .int .i64 (-1), .int .i64 3, .int .u64 0, .int .u64 99, .bool false, .slice none 0 0, .int .i64 6, .int .i64 0, .int .i64 60, .int .u64 0, .int .u64 0, .bool false, .slice none 0 0, .int .i64 6, .int .i64 0, .int .i64 (-1), .int .u64 0, .int .u64 0, .bool false, .slice none 0 0, .int .i64 2, .int .i64 0, .int .i64 0, .int .u64 0, .int .u64 0, .bool false, .slice none 0 0, .int .i64 3, .int .i64 60, .int .i64 3, .int .u64 0, .int .u64 60, .bool false, .slice none 0 0, .int .i64 6, .int .i64 0, .int .i64 1, .int .u64 0, .int .u64 0, .bool true, .slice none 0 0, .int .i64 6, .int .i64 0, .int .i64 60, .int .u64 0, .int .u64 0, .bool false, .slice none 0 0] := rfl
theorem er2_d {W : World} {gl B : Nat} (h : At W gl 5 (madeL (.int .u8 0) 60)) (hB : gl < B) : ∀ d ∈ er2 gl, d.wf ∧ Rd W B d.A d.m d.bs := by
  intro d hd
  unfold er2 at hd
  simp only [List.mem_cons, List.not_mem_nil, or_false] at hd
  rcases hd with rfl | rfl | rfl | rfl | rfl | rfl | rfl | rfl
  · exact ⟨edat_wf (by omega) (by omega) (by omega) (by omega), rd_made15 (m := 60) h (by omega) hB⟩
  · exact ⟨enil_wf (by omega) (by omega) (by omega) (by omega), Rd.none_ _ _ _⟩
  · exact ⟨enil_wf (by omega) (by omega) (by omega) (by omega), Rd.none_ _ _ _⟩
  · exact ⟨enil_wf (by omega) (by omega) (by omega) (by omega), Rd.none_ _ _ _⟩
  · exact ⟨enil_wf (by omega) (by omega) (by omega) (by omega), Rd.none_ _ _ _⟩
  · exact ⟨enil_wf (by omega) (by omega) (by omega) (by omega), Rd.none_ _ _ _⟩
  · exact ⟨enil_wf (by omega) (by omega) (by omega) (by omega), Rd.none_ _ _ _⟩
  · exact ⟨enil_wf (by omega) (by omega) (by omega) (by omega), Rd.none_ _ _ _⟩
/-- The rows one by one, behind the world Y that has the sixty bytes. -/
theorem rows_e {Y : World} {gl : Nat} (hl : At Y gl 5 (madeL (.int .u8 0) 60)) (g0 g1 g2 g4 : Nat) (hg0 : g0 = Y.heap.size) {W1 W2 W3 W4 : World} (h1 : W1 = Y.alloc (.cells (eRow (er0 gl)).toArray 25)) (hg1 : g1 = W1.heap.size) (h2 : W2 = W1.alloc (.cells (eRow (er1 gl)).toArray 25)) (hg2 : g2 = W2.heap.size)
    (h3 : W3 = W2.alloc (.cells (eRow (er2 gl)).toArray 25)) (h4 : W4 = W3.alloc (.cells [.slice (some ⟨g0, 0, none⟩) 9 9, .slice (some ⟨g1, 0, none⟩) 13 13, .slice (some ⟨g2, 0, none⟩) 8 8].toArray 26)) (hg4 : g4 = W3.heap.size) :
    Below Y.heap.size Y W4 ∧ g4 < W4.heap.size ∧ ∀ i, i < 3 → ∃ (g n : Nat) (L : List AskE), W4.cell? ⟨g4, i, none⟩ = some (.slice (some ⟨g, 0, none⟩) n n) ∧ L.length = n ∧ n ≤ 13 ∧ g < W4.heap.size ∧ ∀ j d, L[j]? = some d → AskEAt W4 W4.heap.size g (j * 7) d := by
  subst hg0; subst h1; subst hg1; subst h2; subst hg2; subst h3; subst h4; subst hg4
  have b1 := (Below.refl Y.heap.size Y).alloc (Nat.le_refl _) (.cells (eRow (er0 gl)).toArray 25)
  have b2 := b1.alloc b1.size (.cells (eRow (er1 gl)).toArray 25)
  have b3 := b2.alloc b2.size (.cells (eRow (er2 gl)).toArray 25)
  have a0 := ((((At.new Y 25 (eRow (er0 gl))).alloc (.cells (eRow (er1 gl)).toArray 25)).alloc (.cells (eRow (er2 gl)).toArray 25)).alloc (.cells [.slice (some ⟨Y.heap.size, 0, none⟩) 9 9, .slice (some ⟨(Y.alloc (.cells (eRow (er0 gl)).toArray 25)).heap.size, 0, none⟩) 13 13, .slice (some ⟨((Y.alloc (.cells (eRow (er0 gl)).toArray 25)).alloc (.cells (eRow (er1 gl)).toArray 25)).heap.size, 0, none⟩) 8 8].toArray 26))
  have a1 := (((At.new (Y.alloc (.cells (eRow (er0 gl)).toArray 25)) 25 (eRow (er1 gl))).alloc (.cells (eRow (er2 gl)).toArray 25)).alloc (.cells [.slice (some ⟨Y.heap.size, 0, none⟩) 9 9, .slice (some ⟨(Y.alloc (.cells (eRow (er0 gl)).toArray 25)).heap.size, 0, none⟩) 13 13, .slice (some ⟨((Y.alloc (.cells (eRow (er0 gl)).toArray 25)).alloc (.cells (eRow (er1 gl)).toArray 25)).heap.size, 0, none⟩) 8 8].toArray 26))
  have a2 := ((At.new ((Y.alloc (.cells (eRow (er0 gl)).toArray 25)).alloc (.cells (eRow (er1 gl)).toArray 25)) 25 (eRow (er2 gl))).alloc (.cells [.slice (some ⟨Y.heap.size, 0, none⟩) 9 9, .slice (some ⟨(Y.alloc (.cells (eRow (er0 gl)).toArray 25)).heap.size, 0, none⟩) 13 13, .slice (some ⟨((Y.alloc (.cells (eRow (er0 gl)).toArray 25)).alloc (.cells (eRow (er1 gl)).toArray 25)).heap.size, 0, none⟩) 8 8].toArray 26))
  have a4 := At.new (((Y.alloc (.cells (eRow (er0 gl)).toArray 25)).alloc (.cells (eRow (er1 gl)).toArray 25)).alloc (.cells (eRow (er2 gl)).toArray 25)) 26 [.slice (some ⟨Y.heap.size, 0, none⟩) 9 9, .slice (some ⟨(Y.alloc (.cells (eRow (er0 gl)).toArray 25)).heap.size, 0, none⟩) 13 13, .slice (some ⟨((Y.alloc (.cells (eRow (er0 gl)).toArray 25)).alloc (.cells (eRow (er1 gl)).toArray 25)).heap.size, 0, none⟩) 8 8]
  have bl := b3.alloc b3.size (.cells [.slice (some ⟨Y.heap.size, 0, none⟩) 9 9, .slice (some ⟨(Y.alloc (.cells (eRow (er0 gl)).toArray 25)).heap.size, 0, none⟩) 13 13, .slice (some ⟨((Y.alloc (.cells (eRow (er0 gl)).toArray 25)).alloc (.cells (eRow (er1 gl)).toArray 25)).heap.size, 0, none⟩) 8 8].toArray 26)
  have hl4 := hl.below bl hl.lt
  refine ⟨bl, a4.lt, fun i hi => ?_⟩
  have hc : i = 0 ∨ i = 1 ∨ i = 2 := by omega
  rcases hc with rfl | rfl | rfl
  · exact ⟨_, 9, er0 gl, a4.cell 0, rfl, by omega, a0.lt, aske_lit a0 (er0_d hl4 hl4.lt)⟩
  · exact ⟨_, 13, er1 gl, a4.cell 1, rfl, by omega, a1.lt, aske_lit a1 (er1_d hl4 hl4.lt)⟩
  · exact ⟨_, 8, er2 gl, a4.cell 2, rfl, by omega, a2.lt, aske_lit a2 (er2_d hl4 hl4.lt)⟩
theorem te_new (w0 w1 : World) (p : Nat) (h : ∃ O, Of w1 w0.heap.size p O os0) (hb : Below w0.heap.size w0 w1) :
    Te w0.heap.size (w1.alloc (.cells #[.slice none 0 0, .slice none 0 0, .slice none 0 0, .int .i64 0, .bool false, .bool false, .bool false, .bool false] 33)) p w1.heap.size os0 ∧ Below w0.heap.size w0 (w1.alloc (.cells #[.slice none 0 0, .slice none 0 0, .slice none 0 0, .int .i64 0, .bool false, .bool false, .bool false, .bool false] 33)) := by
  obtain ⟨O, h⟩ := h
  have k : Below w1.heap.size w1 (w1.alloc (.cells #[.slice none 0 0, .slice none 0 0, .slice none 0 0, .int .i64 0, .bool false, .bool false, .bool false, .bool false] 33)) := (Below.refl _ _).alloc (Nat.le_refl _) _
  have key : ∀ i k : Nat, (robs w1.heap.size (.slice none 0 0) (.slice none 0 0) (.slice none 0 0))[i]? = some (some k) → i = 0 ∧ k = w1.heap.size := fun i k hi => by
    rcases i with _ | _ | _ | _ | i
    · injection hi with hi; injection hi with hi; exact ⟨rfl, hi.symm⟩
    · cases hi
    · cases hi
    · cases hi
    · cases hi
  refine ⟨⟨os0_ok, ⟨O, _, rcs0, h.below k, ⟨.slice none 0 0, .slice none 0 0, .slice none 0 0, [], [], rfl, ⟨At.new w1 _ rcs0, fun j u hj => by rw [Nat.zero_add]; exact hj, Own.none_ _ _ _, ⟨rfl, .inl ⟨rfl, rfl⟩⟩, ⟨rfl, .inl ⟨rfl, rfl⟩⟩, fun i j k hi hj => (key i k hi).1.trans (key j k hj).1.symm, hb.size⟩, rf0⟩, ?_⟩, Nat.le_trans hb.size k.size, Nat.zero_le _⟩, hb.trans (k.mono hb.size)⟩
  intro j hj e
  have := (h.lt j hj).2
  obtain ⟨i, hi⟩ := List.getElem?_of_mem e
  have := (key i j hi).2
  omega
theorem room_of {S : OS} (hov : S.ov = false) (hak : ∀ j, S.ak j = false) : roomO S = 2048 - S.bs.length := by
  have hb : baseO S = 0 := runF_is (Nat.zero_le _) (fun j hj => absurd hj (Nat.not_lt_zero j)) fun _ => by rw [hak]
  unfold roomO
  rw [hov, hb]
  simp
def os1 : OS := writeO os0 (List.replicate 3000 0)
theorem w1_n : writeN os0 3000 = 2048 := by
  unfold writeN
  rw [room_of rfl fun _ => rfl]
  show min 3000 (2048 - 0) = 2048
  omega
theorem wlen (n : Nat) (h : 2048 ≤ n) : (writeO os0 (List.replicate n 0)).bs.length = 2048 := by
  have hw : writeN os0 n = min n 2048 := by
    unfold writeN
    rw [room_of rfl fun _ => rfl]
    rfl
  unfold writeO
  rw [List.length_replicate, hw, List.length_append, List.length_take, List.length_replicate]
  have : os0.bs.length = 0 := rfl
  omega
theorem os1_len : os1.bs.length = 2048 := wlen 3000 (by omega)
theorem os1_room : roomO os1 = 0 := by rw [room_of rfl fun _ => rfl, os1_len]
theorem w2_n : writeN os1 1 = 0 := by
  unfold writeN
  rw [os1_room]
  omega
theorem room2 {S : OS} (hov : S.ov = false) (hak : ∀ j, S.ak j = false) (hl : S.bs.length = 2048) : roomO (writeO S [1]) = 0 := by
  have hr : roomO S = 0 := by rw [room_of hov hak, hl]
  have hw : writeN S 1 = 0 := by
    unfold writeN
    rw [hr]
    omega
  have e : (writeO S [1]).bs = S.bs ++ ([1] : List Int).take (writeN S 1) := rfl
  rw [room_of (S := writeO S [1]) hov hak, e, hw, List.length_append, hl]
  omega
theorem os2_room : roomO (writeO os1 [1]) = 0 := room2 rfl (fun _ => rfl) os1_len
theorem wpList_make_g {P : Program} {w : World} {ops : Array Oper} {rest : List Oper} {o : Oper} {a : Act} {Q : Exit → Act → World → Prop}
    (hgw : Region.wanted o (yielded ops a.tmps) = true) (l c : Operand) (t : TypeId) (hop : o.op = Op.makeSlice t l c)
    (e : TypeId) (i : TypeInfo) (z : Value) (h1 : P.underlying t = some (.slice e)) (h2 : P.info? e = some i) (h3 : i.zero = some z) (h4 : i.size = 1)
    (kl kc : IntKind) (m : Nat) (hl : a.eval l = .int kl m) (hc : a.eval c = .int kc m) (b2 : i.bytes * m ≤ 281474976710656) (b3 : m ≤ maxLen)
    (hK : ∀ w' g, Hid (At w' g e (madeL z m)) → Hid (g = w.heap.size) → Hid (Below w.heap.size w w') → wpList P ops Q rest (a.put o.dst (.slice (some ⟨g, 0, none⟩) m m)) w') :
    wpList P ops Q (o :: rest) a w := by
  refine wpList_step fun K hK' => ?_
  rw [if_pos hgw]
  have hb' : (i.bytes : Int) * (m : Int) ≤ 281474976710656 := by
    have : ((i.bytes * m : Nat) : Int) ≤ 281474976710656 := by omega
    simpa using this
  have hrun := run_make (P := P) (w := w) t e i z h1 h2 h3 kl kc (m : Int) (m : Int) (by omega) (by omega) hb' (by unfold maxLen at b3; omega)
  unfold Oper.wp
  simp [execOp, hop, hl, hc, hrun, Result.andThen, h4]
  refine hK' _ _ (hK _ _ (Lib.hid ?_) (Lib.hid rfl) (Lib.hid ((Below.refl _ _).alloc (Nat.le_refl _) _)))
  show _ = _
  rw [heap_alloc_new]
  simp [madeL]
set_option maxHeartbeats 80000000 in
set_option maxRecDepth 100000 in
theorem onumbers_law (w : World) : Calls Try.prog 3 #[] w fun e w' => e = .returned (.bool true) ∧ Below w.heap.size w w' := by
  obtain ⟨i0, hi, hz0, hz1, hz2⟩ := o8.hi
  have hb0 := Below.refl w.heap.size w
  go_enter Try.func3, Try.ntmps3
  go_upto_region 2 with (at_make; refine wpList_make_lc rfl (.const (.int .i64 60)) (.const (.int .i64 60)) 22 rfl 5 i0 (.int .u8 0) Try.underlying22 hi hz0 hz1 .i64 .i64 _ _ 60 60 rfl rfl rfl rfl (by omega) (by rw [hz2]; omega) (by unfold maxLen; omega) w.heap.size w hb0 (Nat.le_refl _) ?_; intro w1 gl G1 GE hg hb1 hbw1; have HGL : Hid (At w1 gl 5 (madeL (.int .u8 0) 60)) := Lib.hid G1.out; have HB1 := Lib.hid hb1; clear G1 GE hg hb1 hbw1 hb0)
  go_cut [45, 46, 47] from 9 to 47 (fun s45 s46 s47 wx => ∃ g4, s45 = .slice (some ⟨g4, 0, none⟩) 3 3 ∧ s46 = .int .i64 3 ∧ s47 = .int .i64 0 ∧ Hid (Below w1.heap.size w1 wx ∧ g4 < wx.heap.size ∧ ∀ i, i < 3 → ∃ (g n : Nat) (L : List AskE), wx.cell? ⟨g4, i, none⟩ = some (.slice (some ⟨g, 0, none⟩) n n) ∧ L.length = n ∧ n ≤ 13 ∧ g < wx.heap.size ∧ ∀ j d, L[j]? = some d → AskEAt wx wx.heap.size g (j * 7) d))
  case first =>
    clear hi hz0 hz1 hz2
    go_wp2_with fail
    go_meet
    exact ⟨_, rfl, rfl, rfl, Lib.hid (rows_e HGL.out _ _ _ _ rfl rfl (by simp) rfl (by simp) rfl rfl (by simp))⟩
  case rest =>
    obtain ⟨g4, rfl, rfl, rfl, hX⟩ := hcut
    have HROW : Hid (∀ i, i < 3 → ∃ (g n : Nat) (L : List AskE), wc.cell? ⟨g4, i, none⟩ = some (.slice (some ⟨g, 0, none⟩) n n) ∧ L.length = n ∧ n ≤ 13 ∧ g < wc.heap.size ∧ ∀ j d, L[j]? = some d → AskEAt wc wc.heap.size g (j * 7) d) := Lib.hid hX.out.2.2
    have HG4 : Hid (g4 < wc.heap.size ∧ Below w.heap.size w wc) := Lib.hid ⟨hX.out.2.1, HB1.out.trans (hX.out.1.mono HB1.out.size)⟩
    clear hX HGL HB1
    go_wp2_with (fail)
    go_loopg [47] 3 (fun kx s47 wr => ∃ i : Nat, s47 = .int .i64 i ∧ i ≤ 3 ∧ 3 - i ≤ kx ∧ Hid (Below wc.heap.size wc wr))
    case atStart => exact ⟨0, rfl, by omega, by omega, Lib.hid (Below.refl _ _)⟩
    case round =>
      obtain ⟨i, rfl, hi4, hkx, hB⟩ := hrel
      by_cases hgo : i < 3
      · obtain ⟨wo, rfl⟩ : ∃ wo : World, wo = wr := ⟨_, rfl⟩
        obtain ⟨g, n, L, hc, hL, hn9, hg, hA⟩ := HROW.out i hgo
        have c0 : wo.cell? ⟨g4, i, none⟩ = some (.slice (some ⟨g, 0, none⟩) n n) := (hB.out.cell (p := ⟨g4, i, none⟩) HG4.out.1).trans hc
        have HA : Hid (∀ j d, L[j]? = some d → AskEAt wo wo.heap.size g (j * 7) d) := Lib.hid fun j d h => ((hA j d h).below hB.out hg).more hB.out.size
        have HL := Lib.hid hL
        have Hg : Hid (g < wo.heap.size) := Lib.hid (Nat.lt_of_lt_of_le hg hB.out.size)
        clear hc hL hg hA
        have hiz : (i : Int) < 3 := by omega
        have HN := Lib.hid (onew_any wo)
        have HTB := Lib.hid (te_new wo)
        go_wp2_with (go_at_call 6; (with_reducible refine HN.out.mono ?_); rintro e w2 ⟨p, rfl, hO1, hb1⟩; have HT := Lib.hid (HTB.out w2 p hO1 hb1); clear hO1 hb1)
        obtain ⟨q, hq⟩ : ∃ q, w2.heap.size = q := ⟨_, rfl⟩
        rw [hq] at HT ⊢
        clear hq c0
        go_loopg [6] 13 (fun kx s6 wr => ∃ j : Nat, s6 = .int .i64 j ∧ j ≤ n ∧ n - j ≤ kx ∧ Hid (∃ S, Te wo.heap.size wr p q S ∧ S.bs.length ≤ 60 * j ∧ Below wo.heap.size wo wr))
        case atStart => exact ⟨0, rfl, by omega, by omega, Lib.hid ⟨_, HT.out.1, Nat.zero_le _, HT.out.2⟩⟩
        case round =>
          clear HT
          obtain ⟨j, rfl, hjn, hkx2, hT⟩ := hrel
          by_cases hgo2 : j < n
          · obtain ⟨S, hTb, hSl, hBl⟩ := hT.out
            obtain ⟨d, hx⟩ : ∃ d, L[j]? = some d := ⟨_, List.getElem?_eq_getElem (by rw [HL.out]; exact hgo2)⟩
            have ha := (HA.out j d hx).below hBl Hg.out
            have HD := Lib.hid (do15_any wo.heap.size p q S d wr hTb ha.wf ha.rd (by omega))
            obtain ⟨dk, dmost, dn, doff, dlim, dfin, dA, dm, dc, dbs⟩ := d
            have e0 := ha.c 0 _ rfl
            have e1 := ha.c 1 _ rfl
            have e2 := ha.c 2 _ rfl
            have e3 := ha.c 3 _ rfl
            have e4 := ha.c 4 _ rfl
            have e5 := ha.c 5 _ rfl
            have e6 := ha.c 6 _ rfl
            simp only [AskE.v, AskE.cs, Nat.add_zero] at HD e0 e1 e2 e3 e4 e5 e6
            have HBL := Lib.hid hBl
            have HSL := Lib.hid hSl
            clear ha hx hTb hBl hT hSl
            have hjz : (j : Int) < (n : Int) := by omega
            go_wp2_with (go_at_call 7; (with_reducible refine HD.out.mono ?_); rintro e w3 ⟨rfl, hT3, hb3⟩; have H3 : Hid (∃ S, Te wo.heap.size w3 p q S ∧ S.bs.length ≤ 60 * (j + 1) ∧ Below wo.heap.size wo w3) := Lib.hid (by obtain ⟨S', h1, h2⟩ := hT3; exact ⟨S', h1, by have := HSL.out; omega, HBL.out.trans hb3⟩); clear hT3 hb3)
            go_roundg (n - (j + 1))
            case measure => omega
            case rel => exact ⟨j + 1, by simp, by omega, by omega, H3⟩
          · have hjz : ¬ (j : Int) < (n : Int) := by omega
            have HB2 : Hid (Below wc.heap.size wc wr) := by
              obtain ⟨S, hTb, _, hBl⟩ := hT.out
              exact Lib.hid (hB.out.trans (hBl.mono hB.out.size))
            clear hT
            go_wp2
            go_roundg (3 - (i + 1))
            case measure => omega
            case rel => exact ⟨i + 1, by simp, by omega, by omega, HB2⟩
      · obtain rfl : i = 3 := by omega
        clear HROW
        obtain ⟨w5, rfl⟩ : ∃ w5 : World, w5 = wr := ⟨_, rfl⟩
        have HB5 : Hid (Below w.heap.size w w5) := Lib.hid (HG4.out.2.trans (hB.out.mono HG4.out.2.size))
        clear HG4 hB
        have HN := Lib.hid (oz_new w5)
        have H0 : Hid (∀ W W' g p, Oz w5 W p os0 (fun _ => False) → At W' g 5 (madeL (.int .u8 0) 3000) → Below W.heap.size W W' → Calls Try.prog 8 #[.pointer (some ⟨p, 0, none⟩), .slice (some ⟨g, 0, none⟩) 3000 3000] W' fun e w' => e = .returned (.int .i64 2048) ∧ Oz w5 w' p os1 (fun _ => False)) := Lib.hid fun W W' g p h hA hb => by
          have := oz_write (h.below hb) (some ⟨g, 0, none⟩) 3000 3000 (List.replicate 3000 0) (rd_made15 hA (Nat.le_refl _) hA.lt) (Nat.le_refl _) (by omega) (by omega)
          rw [w1_n] at this
          exact this.mono fun e w' hP => ⟨hP.1, hP.2.1⟩
        have H1 : Hid (∀ W p, Oz w5 W p os1 (fun _ => False) → Calls Try.prog 8 #[.pointer (some ⟨p, 0, none⟩), .slice (some ⟨W.heap.size, 0, none⟩) 1 1] (W.alloc (.cells #[.int .u8 1] 5)) fun e w' => e = .returned (.int .i64 0) ∧ Oz w5 w' p (writeO os1 [1]) (fun _ => False)) := Lib.hid fun W p h => by
          have hA := At.new W 5 [.int .u8 1]
          have := oz_write (h.below ((Below.refl W.heap.size W).alloc (Nat.le_refl _) (.cells #[.int .u8 1] 5))) (some ⟨W.heap.size, 0, none⟩) 1 1 [1] ⟨rfl, fun x hx => by rw [List.mem_singleton] at hx; omega, fun _ => ⟨_, 0, rfl, hA.lt, fun i hi => by
            obtain rfl : i = 0 := by omega
            exact hA.cell 0⟩⟩ (Nat.le_refl _) (by omega) (by omega)
          rw [w2_n] at this
          exact this.mono fun e w' hP => ⟨hP.1, hP.2.1⟩
        have H2 : Hid (∀ W p, Oz w5 W p (writeO os1 [1]) (fun _ => False) → Calls Try.prog 9 #[.pointer (some ⟨p, 0, none⟩)] W fun e w' => e = .returned (.int .i64 0) ∧ Below w5.heap.size w5 w') := Lib.hid fun W p h => by
          have := oz_room h
          rw [os2_room] at this
          exact this.mono fun e w' hP => ⟨hP.1, by rw [hP.2]; exact h.bl⟩
        have HK : Hid (∀ W, Calls Try.prog 10 #[] W fun e w' => e = .returned (.bool true) ∧ Below W.heap.size W w') := Lib.hid known15_any
        go_wp2_with (first
          | (go_at_call 6; (with_reducible refine HN.out.mono ?_); rintro e w6 ⟨p, rfl, hO1⟩; have HO6 := Lib.hid hO1; clear hO1)
          | (at_make; refine wpList_make_g (by go_simp) (.const (.int .i64 3000)) (.const (.int .i64 3000)) 22 rfl 5 i0 (.int .u8 0) Try.underlying22 hi hz0 hz1 .i64 .i64 3000 rfl rfl (by rw [hz2]; omega) (by unfold maxLen; omega) ?_; intro w7 g7 G1 G2 G3; have HC := Lib.hid (H0.out _ _ _ _ HO6.out G1.out G3.out); clear G1 G2 G3 HO6)
          | (go_at_call 8; (with_reducible refine HC.out.mono ?_); rintro e w8 ⟨rfl, hO8⟩; have HD := Lib.hid (H1.out w8 p hO8); clear hO8 HC)
          | (go_at_call 8; (with_reducible refine HD.out.mono ?_); rintro e w9 ⟨rfl, hO9⟩; have HE := Lib.hid (H2.out w9 p hO9); clear hO9 HD)
          | (go_at_call 9; (with_reducible refine HE.out.mono ?_); rintro e w10 ⟨rfl, hO10⟩; have HF := Lib.hid hO10; clear hO10)
          | (go_at_call 10; (with_reducible refine (HK.out _).mono ?_); rintro e w11 ⟨rfl, hO11⟩))
        go_ret
        exact ⟨by first | rfl | simp, (HB5.out.trans (HF.out.mono HB5.out.size)).trans (hO11.mono (Nat.le_trans HB5.out.size HF.out.size))⟩
end Go.Proofs.Ytoakahofiodbhaa
