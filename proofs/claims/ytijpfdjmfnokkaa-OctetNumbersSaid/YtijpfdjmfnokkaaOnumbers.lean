/-
  OctetNumbers, the closed sentence of chapter 2's runs, returns true: its walk.
-/
import Derived.Test.YtijpfdjmfnokkaaOtells
import Derived.Lib.SlBytesConst
namespace Go.Proofs.Ytijpfdjmfnokkaa
set_option linter.unusedVariables false
open Go.RowKit
/-- The cells of an ask. -/
def askCells (d : AskD) : List Value := [.int .i64 d.k, .int .i64 d.n, .int .u64 d.x, .slice d.A d.len d.cap]
theorem askCells_at : ∀ (L : List AskD) (i : Nat) (d : AskD) (j : Nat), L[i]? = some d → j < 4 → (L.flatMap askCells)[i * 4 + j]? = (askCells d)[j]?
  | [], i, d, j, h, _ => by simp at h
  | e :: L, 0, d, j, h, hj => by
    simp at h
    subst h
    rw [List.flatMap_cons, Nat.zero_mul, Nat.zero_add, List.getElem?_append_left (by simpa [askCells] using hj)]
  | e :: L, i + 1, d, j, h, hj => by
    have := askCells_at L i d j (by simpa using h) hj
    rw [List.flatMap_cons, List.getElem?_append_right (by simp [askCells]; omega)]
    rw [show (i + 1) * 4 + j - (askCells e).length = i * 4 + j by simp [askCells]; omega]
    exact this
/-- What an ask of a literal owes. -/
structure AskOk (w : World) (B : Nat) (d : AskD) : Prop where
  rd : Rd w B d.A d.len d.bs
  lc : d.len ≤ d.cap
  cm : d.cap ≤ maxLen
  nil : d.A = none → d.cap = 0
  k0 : -9223372036854775808 ≤ d.k
  k1 : d.k ≤ 9223372036854775807
  n0 : -9223372036854775808 ≤ d.n
  n1 : d.n ≤ 9223372036854775807
  x0 : 0 ≤ d.x
  x1 : d.x < 18446744073709551616
theorem asks_lit {w : World} {B g : Nat} {T : TypeId} {L : List AskD} {l : List Value} (h : At w g T l) (hl : l = L.flatMap askCells) (hg : g < B) (hok : ∀ d ∈ L, AskOk w B d) (n c : Nat) (hn : L.length = n) (hc : n ≤ c) (hm : c ≤ maxLen) : Asks w B (some ⟨g, 0, none⟩) n c L := by
  refine ⟨hn, hc, hm, fun h => (by cases h), fun _ => ⟨g, 0, rfl, hg, fun i d hd => ?_⟩⟩
  have o := hok d (List.mem_of_getElem? hd)
  have cc : ∀ j, j < 4 → w.cell? ⟨g, 0 + i * 4 + j, none⟩ = (askCells d)[j]? := fun j hj => by
    rw [h.cell, hl, Nat.zero_add]; exact askCells_at L i d j hd hj
  exact ⟨cc 0 (by omega), cc 1 (by omega), cc 2 (by omega), cc 3 (by omega), o.rd, o.lc, o.cm, o.nil, o.k0, o.k1, o.n0, o.n1, o.x0, o.x1⟩
/-- An ask without bytes. -/
def bare (k n x : Int) : AskD := ⟨k, n, x, none, 0, 0, []⟩
theorem bare_ok (w : World) (B : Nat) (k n x : Int) (h : (-9223372036854775808 ≤ k ∧ k ≤ 9223372036854775807) ∧ (-9223372036854775808 ≤ n ∧ n ≤ 9223372036854775807) ∧ 0 ≤ x ∧ x < 18446744073709551616) : AskOk w B (bare k n x) :=
  ⟨Rd.none_ _ _ _, Nat.le_refl _, by unfold bare maxLen; simp, fun _ => rfl, h.1.1, h.1.2, h.2.1.1, h.2.1.2, h.2.2.1, h.2.2.2⟩
/-- The seven asks: the sixth of kind k; the rows of "abc" and "de" at a and a + 1. -/
def seven (a : Nat) (k : Int) : List AskD :=
  [bare 1 0 7, bare 2 0 65535, bare 3 0 1048576, ⟨4, 3, 0, some ⟨a, 0, none⟩, 3, 3, [97, 98, 99]⟩, ⟨5, 0, 0, some ⟨a + 1, 0, none⟩, 2, 2, [100, 101]⟩, bare k 0 4611686018427387904, bare 4 0 0]
theorem seven_asks {w : World} {B a g : Nat} {T : TypeId} {l : List Value} (k : Int) (hk : 0 ≤ k ∧ k < 10) (h : At w g T l) (hl : l = (seven a k).flatMap askCells) (hg : g < B) (h1 : Rd w B (some ⟨a, 0, none⟩) 3 [97, 98, 99]) (h2 : Rd w B (some ⟨a + 1, 0, none⟩) 2 [100, 101]) :
    Asks w B (some ⟨g, 0, none⟩) 7 7 (seven a k) := by
  refine asks_lit h hl hg (fun d hd => ?_) 7 7 rfl (Nat.le_refl _) (by unfold maxLen; omega)
  simp only [seven, List.mem_cons, List.not_mem_nil, or_false] at hd
  rcases hd with rfl | rfl | rfl | rfl | rfl | rfl | rfl
  · exact bare_ok _ _ _ _ _ (by omega)
  · exact bare_ok _ _ _ _ _ (by omega)
  · exact bare_ok _ _ _ _ _ (by omega)
  · exact ⟨h1, Nat.le_refl _, by unfold maxLen; simp, fun h => (by cases h), by simp, by simp, by simp, by simp, by simp, by simp⟩
  · exact ⟨h2, Nat.le_refl _, by unfold maxLen; simp, fun h => (by cases h), by simp, by simp, by simp, by simp, by simp, by simp⟩
  · exact bare_ok _ _ _ _ _ (by omega)
  · exact bare_ok _ _ _ _ _ (by omega)
theorem seven_set (a : Nat) : ((seven a 3).flatMap askCells).set 20 (.int .i64 1) = (seven a 1).flatMap askCells := rfl
/-- A literal of bytes with a mark behind it. -/
theorem Rd.litm (w : World) (t : TypeId) (fr : Nat × Nat) (bs : List Int) (hb : Byt bs) (cs : Array Value) (hcs : cs = (bs.map (Value.int .u8)).toArray) (g : Nat) (hg : w.heap.size = g) :
    Rd (w.alloc (.cells cs t fr)) (g + 1) (some ⟨g, 0, none⟩) bs.length bs := by
  subst hcs; subst hg
  refine ⟨rfl, hb, fun hp => ⟨w.heap.size, 0, rfl, by omega, fun i hi => ?_⟩⟩
  rw [cell_of_row _ _ _ _ t fr (heap_alloc_new w _)]
  simp [List.getD_eq_getElem?_getD, hi]
theorem mark_at (w : World) (C : Array Value) (n c g : Nat) (hg : g = w.heap.size) :
    (convert 23 23 (.slice (some ⟨g, 0, none⟩) n c)).run Try.prog (w.alloc (.cells C 5)) = .ok (.slice (some ⟨g, 0, none⟩) n c) (w.alloc (.cells C 5 (C.size, C.size + 1))) := by
  subst hg; exact Lib.run_convert_bytes_const w _ _ C n c Try.underlying23 Try.underlying5
/-- The world behind the literal of the seven asks. -/
def W3 (w : World) : World := ((w.alloc (.cells #[.int .u8 97, .int .u8 98, .int .u8 99] 5 (3, 4))).alloc (.cells #[.int .u8 100, .int .u8 101] 5 (2, 3))).alloc (.cells ((seven w.heap.size 3).flatMap askCells).toArray 25)
theorem W3_size (w : World) : (W3 w).heap.size = w.heap.size + 3 := by simp [W3]
theorem W3_below (w : World) : Below w.heap.size w (W3 w) := (((Below.refl _ _).alloc (Nat.le_refl _) _).alloc (by simp) _).alloc (by simp; omega) _
theorem W3_at (w : World) : At (W3 w) (w.heap.size + 2) 25 ((seven w.heap.size 3).flatMap askCells) := by
  have h := At.new ((w.alloc (.cells #[.int .u8 97, .int .u8 98, .int .u8 99] 5 (3, 4))).alloc (.cells #[.int .u8 100, .int .u8 101] 5 (2, 3))) 25 ((seven w.heap.size 3).flatMap askCells)
  simpa [W3] using h
theorem W3_abc (w : World) : Rd (W3 w) (w.heap.size + 3) (some ⟨w.heap.size, 0, none⟩) 3 [97, 98, 99] := by
  have h := Rd.litm w 5 (3, 4) [97, 98, 99] (fun y hy => by simp at hy; omega) #[.int .u8 97, .int .u8 98, .int .u8 99] rfl w.heap.size rfl
  exact ((h.alloc (by simp) _).alloc (by simp) _).more (by omega)
theorem W3_de (w : World) : Rd (W3 w) (w.heap.size + 3) (some ⟨w.heap.size + 1, 0, none⟩) 2 [100, 101] := by
  have h := Rd.litm (w.alloc (.cells #[.int .u8 97, .int .u8 98, .int .u8 99] 5 (3, 4))) 5 (2, 3) [100, 101] (fun y hy => by simp at hy; omega) #[.int .u8 100, .int .u8 101] rfl (w.heap.size + 1) (by simp)
  exact (h.alloc (by simp) _).more (by omega)
theorem seven_len (a : Nat) : (encL ((seven a 3).take 15)).length = 13 := rfl
def three (k : Int) : List AskD := [bare 4 k 0, bare 4 (-1) 0, bare 1 0 0]
theorem three_asks (w : World) (k : Int) (hk : 0 ≤ k ∧ k ≤ 1000) : Asks (w.alloc (.cells ((three k).flatMap askCells).toArray 25)) (w.heap.size + 1) (some ⟨w.heap.size, 0, none⟩) 3 3 (three k) := by
  refine asks_lit (At.new w _ _) rfl (by omega) (fun d hd => ?_) 3 3 rfl (Nat.le_refl _) (by unfold maxLen; omega)
  simp only [three, List.mem_cons, List.not_mem_nil, or_false] at hd
  rcases hd with rfl | rfl | rfl <;> exact bare_ok _ _ _ _ _ (by omega)
def two_ : List AskD := [bare 5 0 0, bare 3 0 0]
theorem two_asks (w : World) (g : Nat) (hg : w.heap.size = g) : Asks (w.alloc (.cells (two_.flatMap askCells).toArray 25)) (g + 1) (some ⟨g, 0, none⟩) 2 2 two_ := by
  subst hg
  refine asks_lit (At.new w _ _) rfl (by omega) (fun d hd => ?_) 2 2 rfl (Nat.le_refl _) (by unfold maxLen; omega)
  simp only [two_, List.mem_cons, List.not_mem_nil, or_false] at hd
  rcases hd with rfl | rfl <;> exact bare_ok _ _ _ _ _ (by omega)
theorem InRow.cut {w : World} {A : Option Addr} {n c : Nat} {bs : List Int} (h : InRow w A n c bs) {m : Nat} (hm : m ≤ n) : InRow w A m c (bs.take m) := ⟨h.1.cut hm, by have := h.2.1; omega, h.2.2⟩
set_option maxRecDepth 100000 in
set_option maxHeartbeats 8000000 in
theorem onumbers_law (w : World) :
    Calls Try.prog 3 #[] w fun e w' => e = .returned (.bool true) ∧ Below w.heap.size w w' := by
  have m1 := mark_at w #[.int .u8 97, .int .u8 98, .int .u8 99] 3 3 w.heap.size rfl
  have m2 := mark_at (w.alloc (.cells #[.int .u8 97, .int .u8 98, .int .u8 99] 5 (3, 4))) #[.int .u8 100, .int .u8 101] 2 2 (w.heap.size + 1) (by simp)
  have hsz := Lib.hid (W3_size w)
  have hL3 : Asks (W3 w) (W3 w).heap.size (some ⟨w.heap.size + 2, 0, none⟩) 7 7 (seven w.heap.size 3) := by
    rw [hsz.out]
    exact seven_asks 3 (by omega) (W3_at w) rfl (by omega) (W3_abc w) (W3_de w)
  have WR := Lib.hid (written_any (some ⟨w.heap.size + 2, 0, none⟩) 7 7 (seven w.heap.size 3) (W3 w) hL3)
  have hN := seven_len w.heap.size
  obtain ⟨E, hE⟩ : ∃ E, encL ((seven w.heap.size 3).take 15) = E := ⟨_, rfl⟩
  rw [hE] at hN WR
  obtain ⟨TX, hTX⟩ : ∃ TX, strOfNums E = TX := ⟨_, rfl⟩
  have NN := Lib.hid hN
  have TT := Lib.hid hTX
  clear hN hTX hE hL3
  go_enter Try.func3, Try.ntmps3
  go_wp2_with fail
  refine WR.out.mono ?_
  rintro e w4 ⟨v, vb, rfl, hv, hvb, _, hb4⟩
  obtain ⟨A3, c3, rfl, g1, g2, g3⟩ := hv.open_n 13 NN.out
  obtain ⟨A4, c4, rfl, k1, k2, k3⟩ := hvb.open_n 13 NN.out
  have t1 := run_text (P := Try.prog) (c := c3) g3 23 5 9 Try.underlying23 Try.underlying5 Try.underlying9
  have t2 := run_text (P := Try.prog) (c := c4) k3 23 5 9 Try.underlying23 Try.underlying5 Try.underlying9
  rw [TT.out] at t1 t2
  obtain ⟨g, rfl⟩ : ∃ g, A4 = some ⟨g, 0, none⟩ := by
    obtain ⟨g, cap, e, _⟩ := hvb.1.form (by rw [NN.out]; omega)
    injection e with e
    exact ⟨g, e⟩
  have hgb := (hvb.block_lt g rfl).1
  have hs4 := hb4.size
  rw [hsz.out] at hb4 hgb hs4
  have A4t : At w4 (w.heap.size + 2) 25 ((seven w.heap.size 3).flatMap askCells) := (W3_at w).below hb4 (by omega)
  have c20 : w4.cell? ⟨w.heap.size + 2, 20, none⟩ = some (.int .i64 3) := A4t.cell 20
  have f20 := A4t.frozen 20
  have hset := A4t.set 20 (.int .i64 1)
  rw [seven_set] at hset
  have hvb5 : Own (w4.setCell ⟨w.heap.size + 2, 20, none⟩ (.int .i64 1)) (W3 w).heap.size 5 (.slice (some ⟨g, 0, none⟩) 13 c4) E := hvb.keep (fun j hj => Below.heap_setCell _ _ _ _ (by
    simp [Value.ownBlock] at hj
    show j ≠ w.heap.size + 2
    omega))
  have hb5 : Below w.heap.size w (w4.setCell ⟨w.heap.size + 2, 20, none⟩ (.int .i64 1)) := ((W3_below w).trans (hb4.mono (by omega))).setCell (by show w.heap.size ≤ w.heap.size + 2; omega) _
  have hr1 : Rd (w4.setCell ⟨w.heap.size + 2, 20, none⟩ (.int .i64 1)) (w.heap.size + 2) (some ⟨w.heap.size, 0, none⟩) 3 [97, 98, 99] := by
    refine Rd.keep (B := w.heap.size + 2) (w := W3 w) ?_ (Nat.le_refl _) (fun b off hb => ?_)
    · have h := Rd.litm w 5 (3, 4) [97, 98, 99] (fun y hy => by simp at hy; omega) #[.int .u8 97, .int .u8 98, .int .u8 99] rfl w.heap.size rfl
      exact ((h.alloc (by simp) _).alloc (by simp) _).more (by omega)
    · rw [World.cell?_of_block (Below.heap_setCell _ _ _ _ (by show b ≠ w.heap.size + 2; omega))]
      exact hb4.cell (p := ⟨b, off, none⟩) (by show b < _; omega)
  have hr2 : Rd (w4.setCell ⟨w.heap.size + 2, 20, none⟩ (.int .i64 1)) (w.heap.size + 2) (some ⟨w.heap.size + 1, 0, none⟩) 2 [100, 101] := by
    refine Rd.keep (B := w.heap.size + 2) (w := W3 w) ?_ (Nat.le_refl _) (fun b off hb => ?_)
    · have h := Rd.litm (w.alloc (.cells #[.int .u8 97, .int .u8 98, .int .u8 99] 5 (3, 4))) 5 (2, 3) [100, 101] (fun y hy => by simp at hy; omega) #[.int .u8 100, .int .u8 101] rfl (w.heap.size + 1) (by simp)
      exact (h.alloc (by simp) _).more (by omega)
    · rw [World.cell?_of_block (Below.heap_setCell _ _ _ _ (by show b ≠ w.heap.size + 2; omega))]
      exact hb4.cell (p := ⟨b, off, none⟩) (by show b < _; omega)
  have hs5 : (w4.setCell ⟨w.heap.size + 2, 20, none⟩ (.int .i64 1)).heap.size = w4.heap.size := by simp [World.setCell]
  have hL5 : Asks (w4.setCell ⟨w.heap.size + 2, 20, none⟩ (.int .i64 1)) (w4.setCell ⟨w.heap.size + 2, 20, none⟩ (.int .i64 1)).heap.size (some ⟨w.heap.size + 2, 0, none⟩) 7 7 (seven w.heap.size 1) :=
    seven_asks 1 (by omega) hset rfl (by omega) (hr1.more (by omega)) (hr2.more (by omega))
  have HSET := Lib.hid hset
  have HL5 := Lib.hid hL5
  have HVB5 := Lib.hid hvb5
  have HB5 := Lib.hid hb5
  clear hset hL5 hvb5 hb5 hr1 hr2 g3 k3 hv hvb hs5 A4t m1 m2 WR
  go_wp2_with fail
  obtain ⟨w5, hw5⟩ : ∃ w5, w4.setCell ⟨w.heap.size + 2, 20, none⟩ (.int .i64 1) = w5 := ⟨_, rfl⟩
  rw [hw5] at HSET HL5 HVB5 HB5
  rw [hw5]
  clear hw5 c20 f20 t1 t2 hb4 HSET
  have hrow := HVB5.out.inRow NN.out
  have hb50 := HB5.out.size
  go_loopw [5] (fun i wr => ∃ k : Nat, k ≤ 14 ∧ i = .int .i64 k ∧ Below w5.heap.size w5 wr) (fun i _ => 14 - (intOf i).toNat)
  case atStart => exact ⟨0, by omega, rfl, Below.refl _ _⟩
  case round =>
    obtain ⟨k, hk, rfl, hbr⟩ := hrel
    have hbs := hbr.size
    obtain ⟨wo, rfl⟩ : ∃ wo : World, wo = wr := ⟨_, rfl⟩
    have hLr := HL5.out.later hbr
    have hrr := hrow.later hbr
    unfold maxLen at k2
    by_cases hlt : k ≤ 13
    · have hkc : k ≤ c4 := by omega
      go_wp2_with fail
      refine (reads_any (some ⟨g, 0, none⟩) k c4 (E.take k) _ 7 7 _ wo (hrr.cut hlt) (by omega) hLr).mono ?_
      rintro e w6 ⟨rfl, hb6⟩
      have hs6 := hb6.size
      have hrr6 := hrr.later hb6
      have hb56 := hbr.trans (hb6.mono hbs)
      clear hrr hLr
      go_wp2_with fail
      have hal : Below w6.heap.size w6 (w6.alloc (.cells ((three k).flatMap askCells).toArray 25)) := (Below.refl _ _).alloc (Nat.le_refl _) _
      refine (reads_any (some ⟨g, 0, none⟩) k c4 (E.take k) _ 3 3 (three k) (w6.alloc (.cells ((three k).flatMap askCells).toArray 25)) ((hrr6.cut hlt).later hal) (by omega) ((three_asks w6 k (by omega)).more (by simp))).mono ?_
      rintro e w7 ⟨rfl, hb7⟩
      have hb67 := hal.trans (hb7.mono (by simp))
      have hb57 := hb56.trans (hb67.mono (by omega))
      clear hb7 hal hb67
      go_wp2_with fail
      go_roundw
      case rel => exact ⟨k + 1, by omega, by go_num, hb57⟩
      case measure => simp [intOf]; omega
    · obtain rfl : k = 14 := by omega
      have hlit := Rd.lit wo 5 [255, 255, 255, 255, 255, 255, 255, 255] (fun y hy => by simp at hy; omega) #[.int .u8 255, .int .u8 255, .int .u8 255, .int .u8 255, .int .u8 255, .int .u8 255, .int .u8 255, .int .u8 255] rfl
      have hal : Below (wo.heap.size + 1) (wo.alloc (.cells #[.int .u8 255, .int .u8 255, .int .u8 255, .int .u8 255, .int .u8 255, .int .u8 255, .int .u8 255, .int .u8 255] 5)) ((wo.alloc (.cells #[.int .u8 255, .int .u8 255, .int .u8 255, .int .u8 255, .int .u8 255, .int .u8 255, .int .u8 255, .int .u8 255] 5)).alloc (.cells (two_.flatMap askCells).toArray 25)) := (Below.refl _ _).alloc (by simp) _
      have hin : InRow ((wo.alloc (.cells #[.int .u8 255, .int .u8 255, .int .u8 255, .int .u8 255, .int .u8 255, .int .u8 255, .int .u8 255, .int .u8 255] 5)).alloc (.cells (two_.flatMap askCells).toArray 25)) (some ⟨wo.heap.size, 0, none⟩) 8 8 [255, 255, 255, 255, 255, 255, 255, 255] :=
        ⟨(hlit.below hal).more (by simp), Nat.le_refl _, by unfold maxLen; omega, fun h => (by cases h)⟩
      have hta := (two_asks (wo.alloc (.cells #[.int .u8 255, .int .u8 255, .int .u8 255, .int .u8 255, .int .u8 255, .int .u8 255, .int .u8 255, .int .u8 255] 5)) (wo.heap.size + 1) (by simp)).more (B' := ((wo.alloc (.cells #[.int .u8 255, .int .u8 255, .int .u8 255, .int .u8 255, .int .u8 255, .int .u8 255, .int .u8 255, .int .u8 255] 5)).alloc (.cells (two_.flatMap askCells).toArray 25)).heap.size) (by simp)
      have hall : Below wo.heap.size wo ((wo.alloc (.cells #[.int .u8 255, .int .u8 255, .int .u8 255, .int .u8 255, .int .u8 255, .int .u8 255, .int .u8 255, .int .u8 255] 5)).alloc (.cells (two_.flatMap askCells).toArray 25)) := ((Below.refl _ _).alloc (Nat.le_refl _) _).trans (hal.mono (by omega))
      have RDS := Lib.hid (reads_any _ 8 8 _ _ 2 2 two_ _ hin (by omega) hta)
      clear hlit hin hta hal hrr hLr
      go_wp2_with fail
      refine (RDS.out).mono ?_
      rintro e w8 ⟨rfl, hb8⟩
      have hs8 := hb8.size
      have hb58 : Below wo.heap.size wo w8 := hall.trans (hb8.mono hall.size)
      clear hall hb8 hs8
      go_wp2_with fail
      refine (known_any _).mono ?_
      rintro e w9 ⟨rfl, hb9⟩
      have hs9 := hb58.size
      go_wp2_with fail
      go_ret
      exact ⟨rfl, HB5.out.trans ((hbr.trans ((hb58.trans (hb9.mono hs9)).mono hbs)).mono hb50)⟩
end Go.Proofs.Ytijpfdjmfnokkaa
