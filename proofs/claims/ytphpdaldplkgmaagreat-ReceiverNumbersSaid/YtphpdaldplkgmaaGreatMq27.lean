/-
  Chapter 17's ReceiverNumbers: rows of literal calls; a world of the law beside other blocks.
-/
import Derived.Test.YtphpdaldplkgmaaGreatMq26
import Derived.Test.YtphpdaldplkgmaaGreatMq0
namespace Go.Proofs.YtphpdaldplkgmaaGreat
section
set_option linter.unusedVariables false
set_option linter.unusedSimpArgs false
open Go.RowKit
/-- The frame of no kind. -/
def zFX : FX := ⟨0, 0, 0, 0, .nil, false, .nil, 0, [], []⟩
theorem zFX_ok (W : World) (P : Nat → Prop) : zFX.ok W P := ⟨by show -9223372036854775808 ≤ (0 : Int) ∧ (0 : Int) ≤ 9223372036854775807; omega, by show 0 ≤ (0 : Int) ∧ (0 : Int) < 18446744073709551616; omega, by show 0 ≤ (0 : Int) ∧ (0 : Int) < 18446744073709551616; omega, by show 0 ≤ (0 : Int) ∧ (0 : Int) < 18446744073709551616; omega, InD.nil_ _ _, ⟨rfl, fun x h => (by cases h), fun h => absurd h (Nat.lt_irrefl 0)⟩, Nat.le_refl _, Nat.zero_le _, by show -9223372036854775808 ≤ (0 : Int) ∧ (0 : Int) ≤ 9223372036854775807; omega⟩
def aRow (L : List AskD) : List Value := L.flatMap AskD.l
theorem aRow_get : ∀ (L : List AskD) (j : Nat) (d : AskD), L[j]? = some d → ∀ t, t < 15 → (aRow L)[j * 15 + t]? = d.l[t]?
  | [], j, d, h, _, _ => by simp at h
  | x :: L, 0, d, h, t, ht => by
    simp at h
    subst h
    show (x.l ++ aRow L)[0 * 15 + t]? = _
    rw [Nat.zero_mul, Nat.zero_add, List.getElem?_append_left (by show t < 15; exact ht)]
  | x :: L, j + 1, d, h, t, ht => by
    have h' : L[j]? = some d := by simpa using h
    show (x.l ++ aRow L)[(j + 1) * 15 + t]? = _
    have hx : x.l.length = 15 := rfl
    rw [List.getElem?_append_right (by omega), ← aRow_get L j d h' t ht, hx, show (j + 1) * 15 + t - 15 = j * 15 + t by omega]
/-- What a call may be, whose bytes lie below block B. -/
structure AskIn (W : World) (B : Nat) (d : AskD) : Prop where
  rd : Rd W B d.A d.m d.bs
  wf : d.wf
  fx : d.x.ok W (fun b => b < B)
theorem AskIn.below {W W' : World} {B : Nat} {d : AskD} (h : AskIn W B d) (hb : Below B W W') : AskIn W' B d := ⟨h.rd.below hb, h.wf, FIn.kept h.fx (Kept.of_belowB hb) fun b hb hn => by omega⟩
theorem znil_in {W : World} {B : Nat} {kd off most i : Int} {n : Nat} {fin : Bool} (h1 : I64 kd) (h2 : I64 off) (h3 : I64 most) (h4 : I64 i) (h5 : n < 18446744073709551616) : AskIn W B ⟨kd, off, most, i, n, fin, none, 0, 0, [], zFX⟩ :=
  ⟨Rd.none_ _ _ _, ⟨h1, h2, h3, h4, h5, Nat.le_refl _, Nat.zero_le _, fun _ => rfl⟩, zFX_ok _ _⟩
theorem madeL17 (n : Nat) : madeL (.int .u8 0) n = (List.replicate n (0 : Int)).map (Value.int .u8) := by
  rw [List.map_replicate]
  apply List.ext_getElem?
  intro i
  by_cases hi : i < n
  · rw [List.getElem?_replicate, if_pos hi]
    simp [madeL, madeCells, Value.cells, Nat.mod_one, hi]
  · rw [List.getElem?_eq_none (by rw [madeL_len]; omega), List.getElem?_eq_none (by simp; omega)]
theorem rd_made17 {W : World} {g B n m : Nat} (h : At W g 5 (madeL (.int .u8 0) n)) (hm : m ≤ n) (hB : g < B) : Rd W B (some ⟨g, 0, none⟩) m (List.replicate m 0) := by
  refine ⟨by simp, fun x hx => by rw [List.eq_of_mem_replicate hx]; omega, fun hp => ⟨g, 0, rfl, hB, fun i hi => ?_⟩⟩
  rw [Nat.zero_add, h.cell, madeL17, List.map_replicate, List.getElem?_replicate, if_pos (by omega), List.getD_eq_getElem?_getD, List.getElem?_replicate, if_pos hi]
  rfl
theorem zdat_in {W : World} {B g m : Nat} {kd off most i : Int} {n : Nat} {fin : Bool} (h1 : I64 kd) (h2 : I64 off) (h3 : I64 most) (h4 : I64 i) (h5 : n < 18446744073709551616) (h : At W g 5 (madeL (.int .u8 0) 40)) (hB : g < B) (hm : m ≤ 40) : AskIn W B ⟨kd, off, most, i, n, fin, some ⟨g, 0, none⟩, m, 40, List.replicate m 0, zFX⟩ :=
  ⟨rd_made17 h hm hB, ⟨h1, h2, h3, h4, h5, hm, by show 40 ≤ maxLen; unfold maxLen; omega, fun h => by cases h⟩, zFX_ok _ _⟩
def kr0 (g : Nat) : List AskD := [⟨0, 0, 0, 0, 0, false, some ⟨g, 0, none⟩, 40, 40, List.replicate 40 0, zFX⟩, ⟨4, 0, 5, 0, 0, false, none, 0, 0, [], zFX⟩, ⟨0, 60, 0, 0, 0, false, some ⟨g, 0, none⟩, 40, 40, List.replicate 40 0, zFX⟩, ⟨0, 61, 0, 0, 0, false, some ⟨g, 0, none⟩, 40, 40, List.replicate 40 0, zFX⟩, ⟨7, 0, 20, 0, 0, false, none, 0, 0, [], zFX⟩, ⟨4, 0, 99, 0, 0, false, none, 0, 0, [], zFX⟩, ⟨7, 0, 2, 0, 0, false, none, 0, 0, [], zFX⟩, ⟨7, 0, 20, 0, 0, false, none, 0, 0, [], zFX⟩, ⟨8, 0, 0, 1, 0, false, none, 0, 0, [], zFX⟩, ⟨7, 0, 20, 0, 0, false, none, 0, 0, [], zFX⟩, ⟨0, 40, 0, 0, 0, false, some ⟨g, 0, none⟩, 40, 40, List.replicate 40 0, zFX⟩, ⟨4, 0, 25, 0, 0, false, none, 0, 0, [], zFX⟩, ⟨4, 0, 25, 0, 0, false, none, 0, 0, [], zFX⟩, ⟨0, 100, 0, 0, 0, true, none, 0, 0, [], zFX⟩, ⟨0, 80, 0, 0, 0, false, some ⟨g, 0, none⟩, 40, 40, List.replicate 40 0, zFX⟩, ⟨4, 0, 99, 0, 0, false, none, 0, 0, [], zFX⟩, ⟨4, 0, 9, 0, 0, false, none, 0, 0, [], zFX⟩]
set_option maxRecDepth 100000 in
theorem kr0_d {W : World} {g B : Nat} (h : At W g 5 (madeL (.int .u8 0) 40)) (hB : g < B) : ∀ d ∈ kr0 g, AskIn W B d := by
  intro d hd
  unfold kr0 at hd
  simp only [List.mem_cons, List.not_mem_nil, or_false] at hd
  rcases hd with rfl | rfl | rfl | rfl | rfl | rfl | rfl | rfl | rfl | rfl | rfl | rfl | rfl | rfl | rfl | rfl | rfl
  · exact zdat_in (by unfold I64; omega) (by unfold I64; omega) (by unfold I64; omega) (by unfold I64; omega) (by omega) h hB (by omega)
  · exact znil_in (by unfold I64; omega) (by unfold I64; omega) (by unfold I64; omega) (by unfold I64; omega) (by omega)
  · exact zdat_in (by unfold I64; omega) (by unfold I64; omega) (by unfold I64; omega) (by unfold I64; omega) (by omega) h hB (by omega)
  · exact zdat_in (by unfold I64; omega) (by unfold I64; omega) (by unfold I64; omega) (by unfold I64; omega) (by omega) h hB (by omega)
  · exact znil_in (by unfold I64; omega) (by unfold I64; omega) (by unfold I64; omega) (by unfold I64; omega) (by omega)
  · exact znil_in (by unfold I64; omega) (by unfold I64; omega) (by unfold I64; omega) (by unfold I64; omega) (by omega)
  · exact znil_in (by unfold I64; omega) (by unfold I64; omega) (by unfold I64; omega) (by unfold I64; omega) (by omega)
  · exact znil_in (by unfold I64; omega) (by unfold I64; omega) (by unfold I64; omega) (by unfold I64; omega) (by omega)
  · exact znil_in (by unfold I64; omega) (by unfold I64; omega) (by unfold I64; omega) (by unfold I64; omega) (by omega)
  · exact znil_in (by unfold I64; omega) (by unfold I64; omega) (by unfold I64; omega) (by unfold I64; omega) (by omega)
  · exact zdat_in (by unfold I64; omega) (by unfold I64; omega) (by unfold I64; omega) (by unfold I64; omega) (by omega) h hB (by omega)
  · exact znil_in (by unfold I64; omega) (by unfold I64; omega) (by unfold I64; omega) (by unfold I64; omega) (by omega)
  · exact znil_in (by unfold I64; omega) (by unfold I64; omega) (by unfold I64; omega) (by unfold I64; omega) (by omega)
  · exact znil_in (by unfold I64; omega) (by unfold I64; omega) (by unfold I64; omega) (by unfold I64; omega) (by omega)
  · exact zdat_in (by unfold I64; omega) (by unfold I64; omega) (by unfold I64; omega) (by unfold I64; omega) (by omega) h hB (by omega)
  · exact znil_in (by unfold I64; omega) (by unfold I64; omega) (by unfold I64; omega) (by unfold I64; omega) (by omega)
  · exact znil_in (by unfold I64; omega) (by unfold I64; omega) (by unfold I64; omega) (by unfold I64; omega) (by omega)
def kr1 (g : Nat) (nt : Nat) : List AskD := [⟨6, 0, 0, 0, 4611686018427387904, false, none, 0, 0, [], zFX⟩, ⟨6, 0, 0, 0, 7, false, none, 0, 0, [], zFX⟩, ⟨6, 0, 0, 0, 8, false, none, 0, 0, [], zFX⟩, ⟨7, 0, 2, 0, 0, false, none, 0, 0, [], zFX⟩, ⟨7, 0, 9, 0, 0, false, none, 0, 0, [], zFX⟩, ⟨8, 0, 0, nt, 0, false, none, 0, 0, [], zFX⟩]
set_option maxRecDepth 100000 in
theorem kr1_d {W : World} {g B : Nat} {nt : Nat} (hnt : nt ≤ 1000000) (h : At W g 5 (madeL (.int .u8 0) 40)) (hB : g < B) : ∀ d ∈ kr1 g nt, AskIn W B d := by
  intro d hd
  unfold kr1 at hd
  simp only [List.mem_cons, List.not_mem_nil, or_false] at hd
  rcases hd with rfl | rfl | rfl | rfl | rfl | rfl
  · exact znil_in (by unfold I64; omega) (by unfold I64; omega) (by unfold I64; omega) (by unfold I64; omega) (by omega)
  · exact znil_in (by unfold I64; omega) (by unfold I64; omega) (by unfold I64; omega) (by unfold I64; omega) (by omega)
  · exact znil_in (by unfold I64; omega) (by unfold I64; omega) (by unfold I64; omega) (by unfold I64; omega) (by omega)
  · exact znil_in (by unfold I64; omega) (by unfold I64; omega) (by unfold I64; omega) (by unfold I64; omega) (by omega)
  · exact znil_in (by unfold I64; omega) (by unfold I64; omega) (by unfold I64; omega) (by unfold I64; omega) (by omega)
  · exact znil_in (by unfold I64; omega) (by unfold I64; omega) (by unfold I64; omega) (by unfold I64; omega) (by omega)
def kr2 (g : Nat) : List AskD := [⟨3, 30, 0, 0, 5, false, none, 0, 0, [], zFX⟩, ⟨3, 300, 0, 0, 5, false, none, 0, 0, [], zFX⟩, ⟨3, 100, 0, 0, 5, false, none, 0, 0, [], zFX⟩, ⟨3, 100, 0, 0, 6, false, none, 0, 0, [], zFX⟩, ⟨3, 99, 0, 0, 0, false, none, 0, 0, [], zFX⟩, ⟨0, 90, 0, 0, 0, true, some ⟨g, 0, none⟩, 10, 40, List.replicate 10 0, zFX⟩, ⟨0, 90, 0, 0, 0, false, some ⟨g, 0, none⟩, 11, 40, List.replicate 11 0, zFX⟩, ⟨4, 0, 5, 0, 0, false, none, 0, 0, [], zFX⟩, ⟨4, 0, 0, 0, 0, false, none, 0, 0, [], zFX⟩, ⟨6, 0, 0, 0, 0, false, none, 0, 0, [], zFX⟩]
set_option maxRecDepth 100000 in
theorem kr2_d {W : World} {g B : Nat} (h : At W g 5 (madeL (.int .u8 0) 40)) (hB : g < B) : ∀ d ∈ kr2 g, AskIn W B d := by
  intro d hd
  unfold kr2 at hd
  simp only [List.mem_cons, List.not_mem_nil, or_false] at hd
  rcases hd with rfl | rfl | rfl | rfl | rfl | rfl | rfl | rfl | rfl | rfl
  · exact znil_in (by unfold I64; omega) (by unfold I64; omega) (by unfold I64; omega) (by unfold I64; omega) (by omega)
  · exact znil_in (by unfold I64; omega) (by unfold I64; omega) (by unfold I64; omega) (by unfold I64; omega) (by omega)
  · exact znil_in (by unfold I64; omega) (by unfold I64; omega) (by unfold I64; omega) (by unfold I64; omega) (by omega)
  · exact znil_in (by unfold I64; omega) (by unfold I64; omega) (by unfold I64; omega) (by unfold I64; omega) (by omega)
  · exact znil_in (by unfold I64; omega) (by unfold I64; omega) (by unfold I64; omega) (by unfold I64; omega) (by omega)
  · exact zdat_in (by unfold I64; omega) (by unfold I64; omega) (by unfold I64; omega) (by unfold I64; omega) (by omega) h hB (by omega)
  · exact zdat_in (by unfold I64; omega) (by unfold I64; omega) (by unfold I64; omega) (by unfold I64; omega) (by omega) h hB (by omega)
  · exact znil_in (by unfold I64; omega) (by unfold I64; omega) (by unfold I64; omega) (by unfold I64; omega) (by omega)
  · exact znil_in (by unfold I64; omega) (by unfold I64; omega) (by unfold I64; omega) (by unfold I64; omega) (by omega)
  · exact znil_in (by unfold I64; omega) (by unfold I64; omega) (by unfold I64; omega) (by unfold I64; omega) (by omega)
section
variable {W1 W W' : World} {p q pw k : Nat} {G : Nat → Prop}
/-- A world of the law, made behind W1, that has nothing of the blocks G. -/
def Ln (W1 W : World) (p q pw k : Nat) (G : Nat → Prop) : Prop := ∃ O X, Lw W1 W W1.heap.size p q pw k O X ∧ ∀ b, G b → ¬ O b ∧ b < W.heap.size
theorem Ln.bl (h : Ln W1 W p q pw k G) : Below W1.heap.size W1 W := by
  obtain ⟨O, X, h, _⟩ := h
  exact h.bl
theorem Ln.below {G' : Nat → Prop} (h : Ln W1 W p q pw k G) (hb : Below W.heap.size W W') (hG : ∀ b, G' b → G b ∨ (W.heap.size ≤ b ∧ b < W'.heap.size)) : Ln W1 W' p q pw k G' := by
  obtain ⟨O, X, h1, h2⟩ := h
  refine ⟨O, X, h1.kept (Kept.of_below hb fun _ => False) (fun _ _ h => h) (fun _ h => h.elim), fun b hb' => ?_⟩
  rcases hG b hb' with e | ⟨e1, e2⟩
  · exact ⟨(h2 b e).1, Nat.lt_of_lt_of_le (h2 b e).2 hb.size⟩
  · exact ⟨fun e => by have := (h1.lt b e).2; omega, e2⟩
theorem Ln.p0 (h : Ln W1 W p q pw k G) : W.cell? ⟨pw, 0, none⟩ = some (.pointer (some ⟨p, 0, none⟩)) := by
  obtain ⟨O, X, h, _⟩ := h
  exact h.p0
theorem Ln.p2 (h : Ln W1 W p q pw k G) : ∃ tA nt tc, W.cell? ⟨pw, 2, none⟩ = some (.slice tA nt tc) ∧ nt ≤ 1000 := by
  obtain ⟨O, X, ⟨hX, O1, O2, tv, L, rfl, h2, hl, hb⟩, _⟩ := h
  obtain ⟨tA, tc, rfl, _, _⟩ := h2.own.shape
  exact ⟨tA, L.length, tc, by rw [h2.at_.cell]; rfl, h2.ll⟩
theorem ln_do (h : Ln W1 W p q pw k G) (hk : k < 1000) {d : AskD} (hd : AskIn W1 W1.heap.size d) :
    Calls Tryz.prog 7 #[.pointer (some ⟨pw, 0, none⟩), .agg d.l.toArray] W fun e w' => e = .returned (.bool true) ∧ Ln W1 w' p q pw (k + 1) G ∧ (∀ b, G b → w'.heap[b]? = W.heap[b]?) ∧ W.heap.size ≤ w'.heap.size := by
  have hbl := h.bl
  obtain ⟨O, X, h1, h2⟩ := h
  have hd' := hd.below hbl
  refine (do_all17 h1 hk d hd'.wf hd'.rd hd'.fx).mono ?_
  rintro e w' ⟨rfl, O', X', h4, h5, h6⟩
  refine ⟨rfl, ⟨O', X', h4, fun b hb => ⟨fun e => ?_, Nat.lt_of_lt_of_le (h2 b hb).2 h5.size⟩⟩, fun b hb => h5.block b (h2 b hb).2 (h2 b hb).1, h5.size⟩
  rcases h6 b e with h' | h'
  · exact (h2 b hb).1 h'
  · have := (h2 b hb).2; omega
theorem ln_born {w1 w2 : World} {id win : Nat} (hB : Below W1.heap.size W1 W) (hBs : W1.heap.size ≤ W.heap.size) (hid : id ≤ 4611686018427387903) (h1 : ∃ O, Qp w1 W.heap.size p O (qs0 id win)) (b1 : Below W.heap.size W w1) (h2 : ∃ O, Qr w2 w1.heap.size q O (qs0 id win)) (b2 : Below w1.heap.size w1 w2) :
    Ln W1 (w2.alloc (.cells #[.pointer (some ⟨p, 0, none⟩), .pointer (some ⟨q, 0, none⟩), .slice none 0 0] 31)) p q w2.heap.size 0 (fun _ => False) := by
  obtain ⟨O, h, _⟩ := lw_born hB hBs hid h1 b1 h2 b2
  exact ⟨O, _, h, fun b h => h.elim⟩
/-- A row of calls stands in block g. -/
structure RowOf (W1 W : World) (g : Nat) (L : List AskD) : Prop where
  at_ : At W g 36 (aRow L)
  all : ∀ d ∈ L, AskIn W1 W1.heap.size d
theorem RowOf.get {g : Nat} {L : List AskD} (h : RowOf W1 W g L) {j : Nat} {d : AskD} (hj : L[j]? = some d) : W.rangeAt g (j * 15) d.l ∧ AskIn W1 W1.heap.size d := by
  refine ⟨fun t v hv => ?_, h.all d (List.mem_of_getElem? hj)⟩
  have ht : t < 15 := (List.getElem?_eq_some_iff.1 hv).1
  rw [h.at_.cell, aRow_get L j d hj t ht]
  exact hv
theorem RowOf.block {g : Nat} {L : List AskD} (h : RowOf W1 W g L) (e : W'.heap[g]? = W.heap[g]?) : RowOf W1 W' g L := ⟨e.trans h.at_, h.all⟩
end
end
section
set_option linter.unusedVariables false
set_option linter.unusedSimpArgs false
open Go.RowKit
theorem nfold_set (o : Nat) : ∀ (l : List Value) (k : Nat) (C : Array Value), (l.zipIdx k).foldl (fun cs (x : Value × Nat) => cs.setIfInBounds (o + x.2) x.1) C = (setFrom C.toList (o + k) l).toArray
  | [], k, C => by simp [setFrom]
  | v :: r, k, C => by
    rw [List.zipIdx_cons, List.foldl_cons, nfold_set o r (k + 1)]
    simp [setFrom, Nat.add_assoc]
theorem fill_rows (s : Nat) : ∀ (Ls : List (List Value)) (j : Nat) (C : List Value), (∀ l ∈ Ls, l.length = s) → (j + Ls.length) * s ≤ C.length →
    Instr.fill (fun i => some (i * s, s)) C.toArray ((Ls.zipIdx j).map fun x => (x.2, Value.agg x.1.toArray)) = some (C.take (j * s) ++ Ls.flatten ++ C.drop ((j + Ls.length) * s)).toArray
  | [], j, C, _, _ => by simp [Instr.fill]
  | l :: t, j, C, hl, hC => by
    have h0 : l.length = s := hl l (List.mem_cons_self ..)
    have e1 : (j + (l :: t).length) * s = j * s + s + t.length * s := by rw [List.length_cons]; simp only [Nat.add_mul, Nat.one_mul]; omega
    rw [e1] at hC
    rw [List.zipIdx_cons, List.map_cons]
    unfold Instr.fill
    have hsz : (Value.agg l.toArray).cells.size = s := by simp [Value.cells, h0]
    simp only
    rw [if_neg (by rw [hsz]; simp; omega)]
    have hf := nfold_set (j * s) l 0 C.toArray
    have hw : (Value.agg l.toArray).cells.zipIdx.foldl (fun cs (x : Value × Nat) => cs.setIfInBounds (j * s + x.2) x.1) C.toArray = (setFrom C (j * s) l).toArray := by
      rw [← Array.foldl_toList]
      simpa [Value.cells] using hf
    have hset := setFrom_eq l C (j * s) (by omega)
    have hlen : (setFrom C (j * s) l).length = C.length := by
      rw [hset, List.length_append, List.length_append, List.length_take, List.length_drop]; omega
    have ih := fill_rows s t (j + 1) (setFrom C (j * s) l) (fun x hx => hl x (List.mem_cons_of_mem _ hx)) (by rw [hlen, Nat.add_mul, Nat.add_mul, Nat.one_mul]; omega)
    refine (congrArg (fun x => Instr.fill (fun i => some (i * s, s)) x ((t.zipIdx (j + 1)).map fun x => (x.2, Value.agg x.1.toArray))) hw).trans ?_
    rw [ih]
    have e2 : (j + 1) * s = j * s + s := by rw [Nat.add_mul, Nat.one_mul]
    have e3 : (j + 1 + t.length) * s = j * s + s + t.length * s := by rw [Nat.add_mul, Nat.add_mul, Nat.one_mul]
    have k1 : (setFrom C (j * s) l).take ((j + 1) * s) = C.take (j * s) ++ l := by
      rw [hset, e2, List.take_append_of_le_length (by rw [List.length_append, List.length_take]; omega), List.take_of_length_le (by rw [List.length_append, List.length_take]; omega)]
    have k2 : (setFrom C (j * s) l).drop ((j + 1 + t.length) * s) = C.drop ((j + (l :: t).length) * s) := by
      rw [hset, e3, e1, List.drop_append, List.drop_of_length_le (by rw [List.length_append, List.length_take]; omega), List.nil_append, List.drop_drop, List.length_append, List.length_take, h0, Nat.min_eq_left (by omega)]
      congr 1
      omega
    rw [k1, k2, List.flatten_cons]
    simp
theorem run_bsn {P : Program} (w : World) (t e : TypeId) (i : TypeInfo) (z : Value) (s n : Nat) (h1 : P.underlying t = some (.slice e)) (h2 : P.info? e = some i) (h3 : i.zero = some z) (h4 : i.size = s) (Ls : List (List Value)) (hn : Ls.length = n) (hl : ∀ l ∈ Ls, l.length = s) (hs : n * s ≤ 16777216) (hp : n * s ≠ 0) (parts : Array (Nat × Value)) (hpt : parts.toList = (Ls.zipIdx 0).map fun x => (x.2, Value.agg x.1.toArray)) :
    (Instr.buildSlice t n parts).run P w = .ok (.slice (some ⟨w.heap.size, 0, none⟩) n n) (w.alloc (.cells Ls.flatten.toArray e)) := by
  have hf : ∀ C : Array Value, C.size = n * s → Instr.fill (fun i => some (i * s, s)) C parts.toList = some Ls.flatten.toArray := by
    intro C hC
    have := fill_rows s Ls 0 C.toList hl (by rw [Nat.zero_add, hn]; simp [hC])
    rw [hpt, show C = C.toList.toArray from by simp, this, Nat.zero_mul, List.take_zero, List.nil_append, Nat.zero_add, hn, List.drop_of_length_le (by simp [hC]), List.append_nil]
  have hg : ¬ (2 ^ 24 < n * s) := by omega
  simp [Instr.buildSlice, run_underlying h1, sizeOf, typeInfo, h2, h4, zeroValue, h3, newRow, hg, hp]
  rw [hf _ (by simp)]
  simp
section
variable {P : Program} {ops : Array Oper} {rest : List Oper} {a : Act} {w : World} {Q : Exit → Act → World → Prop} {dst : Option Tmp} {ty : TypeId} {pos : String} {after : Array Edge}
theorem wpList_bsn (t e : TypeId) (i : TypeInfo) (z : Value) (s n : Nat) (h1 : P.underlying t = some (.slice e)) (h2 : P.info? e = some i) (h3 : i.zero = some z) (h4 : i.size = s) (Ls : List (List Value)) (hn : Ls.length = n) (hl : ∀ l ∈ Ls, l.length = s) (hs : n * s ≤ 16777216) (hp : n * s ≠ 0) (parts : Array (Nat × Operand)) (hpt : parts.toList.map (fun x => (x.1, a.eval x.2)) = (Ls.zipIdx 0).map fun x => (x.2, Value.agg x.1.toArray))
    (g : Nat) (hg : g = w.heap.size) (h : wpList P ops Q rest (a.put dst (.slice (some ⟨g, 0, none⟩) n n)) (w.alloc (.cells Ls.flatten.toArray e))) :
    wpList P ops Q (⟨dst, .buildSlice t n parts, ty, pos, after, none⟩ :: rest) a w := by
  subst hg
  refine wpList_plain rfl fun K hK => ?_
  have hr := run_bsn (P := P) w t e i z s n h1 h2 h3 h4 Ls hn hl hs hp (parts.map fun x => (x.1, a.eval x.2)) (by rw [Array.toList_map]; exact hpt)
  unfold Oper.wp
  simp only [execOp]
  generalize parts.map (fun x => (x.1, a.eval x.2)) = pv at hr ⊢
  simp [hr, Result.andThen]
  exact hK _ _ h
theorem step_bsn {K : Act → World → Prop} {E : Prop} (t e : TypeId) (i : TypeInfo) (z : Value) (s n : Nat) (h1 : P.underlying t = some (.slice e)) (h2 : P.info? e = some i) (h3 : i.zero = some z) (h4 : i.size = s) (Ls : List (List Value)) (hn : Ls.length = n) (hl : ∀ l ∈ Ls, l.length = s) (hs : n * s ≤ 16777216) (hp : n * s ≠ 0) (parts : Array (Nat × Operand)) (hpt : parts.toList.map (fun x => (x.1, a.eval x.2)) = (Ls.zipIdx 0).map fun x => (x.2, Value.agg x.1.toArray))
    (g : Nat) (hg : g = w.heap.size) (h : K (a.put dst (.slice (some ⟨g, 0, none⟩) n n)) (w.alloc (.cells Ls.flatten.toArray e))) :
    if Region.wanted ⟨dst, .buildSlice t n parts, ty, pos, after, none⟩ (yielded ops a.tmps) = true then Oper.wp P ⟨dst, .buildSlice t n parts, ty, pos, after, none⟩ a w K Q else E := by
  subst hg
  rw [if_pos (by rfl)]
  have hr := run_bsn (P := P) w t e i z s n h1 h2 h3 h4 Ls hn hl hs hp (parts.map fun x => (x.1, a.eval x.2)) (by rw [Array.toList_map]; exact hpt)
  unfold Oper.wp
  simp only [execOp]
  generalize parts.map (fun x => (x.1, a.eval x.2)) = pv at hr ⊢
  simp [hr, Result.andThen]
  exact h
end
end
end Go.Proofs.YtphpdaldplkgmaaGreat
