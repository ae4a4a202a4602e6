/-
  A slice literal of whole structs, as many as there are: as one operation, in order and in a region that draws.
-/
import Derived.Test.YtbejpafephofaaaGreatMq0
import Derived.Test.YtbejpafephofaaaGreatZx
import Derived.Test.YtbejpafephofaaaGreatMq23
namespace Go.Proofs.YtbejpafephofaaaGreat
section
set_option linter.unusedVariables false
set_option linter.unusedSimpArgs false
open Go.RowKit
theorem nfold_set (o : Nat) : ∀ (l : List Value) (k : Nat) (C : Array Value), (l.zipIdx k).foldl (fun cs (x : Value × Nat) => cs.setIfInBounds (o + x.2) x.1) C = (setFrom C.toList (o + k) l).toArray
  | [], k, C => by simp [setFrom]
  | v :: r, k, C => by
    rw [List.zipIdx_cons, List.foldl_cons, nfold_set o r (k + 1)]
    simp [setFrom, Nat.add_assoc]
theorem fill_rows (s : Nat) : ∀ (Ls : List (List Value)) (j : Nat) (C : List Value), (∀ l ∈ Ls, l.length = s) → (j + Ls.length) * s ≤ C.length →
    Instr.fill (fun i => some (i * s, s)) C.toArray ((Ls.zipIdx j).map fun x => (x.2, Value.agg x.1.toArray)) = some (C.take (j * s) ++ Ls.flatten ++ C.drop ((j + Ls.length) * s)).toArray
  | [], j, C, _, _ => by simp [Instr.fill]
  | l :: t, j, C, hl, hC => by
    have h0 : l.length = s := hl l (List.mem_cons_self ..)
    have e1 : (j + (l :: t).length) * s = j * s + s + t.length * s := by rw [List.length_cons]; simp only [Nat.add_mul, Nat.one_mul]; omega
    rw [e1] at hC
    rw [List.zipIdx_cons, List.map_cons]
    unfold Instr.fill
    have hsz : (Value.agg l.toArray).cells.size = s := by simp [Value.cells, h0]
    simp only
    rw [if_neg (by rw [hsz]; simp; omega)]
    have hf := nfold_set (j * s) l 0 C.toArray
    have hw : (Value.agg l.toArray).cells.zipIdx.foldl (fun cs (x : Value × Nat) => cs.setIfInBounds (j * s + x.2) x.1) C.toArray = (setFrom C (j * s) l).toArray := by
      rw [← Array.foldl_toList]
      simpa [Value.cells] using hf
    have hset := setFrom_eq l C (j * s) (by omega)
    have hlen : (setFrom C (j * s) l).length = C.length := by
      rw [hset, List.length_append, List.length_append, List.length_take, List.length_drop]; omega
    have ih := fill_rows s t (j + 1) (setFrom C (j * s) l) (fun x hx => hl x (List.mem_cons_of_mem _ hx)) (by rw [hlen, Nat.add_mul, Nat.add_mul, Nat.one_mul]; omega)
    refine (congrArg (fun x => Instr.fill (fun i => some (i * s, s)) x ((t.zipIdx (j + 1)).map fun x => (x.2, Value.agg x.1.toArray))) hw).trans ?_
    rw [ih]
    have e2 : (j + 1) * s = j * s + s := by rw [Nat.add_mul, Nat.one_mul]
    have e3 : (j + 1 + t.length) * s = j * s + s + t.length * s := by rw [Nat.add_mul, Nat.add_mul, Nat.one_mul]
    have k1 : (setFrom C (j * s) l).take ((j + 1) * s) = C.take (j * s) ++ l := by
      rw [hset, e2, List.take_append_of_le_length (by rw [List.length_append, List.length_take]; omega), List.take_of_length_le (by rw [List.length_append, List.length_take]; omega)]
    have k2 : (setFrom C (j * s) l).drop ((j + 1 + t.length) * s) = C.drop ((j + (l :: t).length) * s) := by
      rw [hset, e3, e1, List.drop_append, List.drop_of_length_le (by rw [List.length_append, List.length_take]; omega), List.nil_append, List.drop_drop, List.length_append, List.length_take, h0, Nat.min_eq_left (by omega)]
      congr 1
      omega
    rw [k1, k2, List.flatten_cons]
    simp
theorem run_bsn {P : Program} (w : World) (t e : TypeId) (i : TypeInfo) (z : Value) (s n : Nat) (h1 : P.underlying t = some (.slice e)) (h2 : P.info? e = some i) (h3 : i.zero = some z) (h4 : i.size = s) (Ls : List (List Value)) (hn : Ls.length = n) (hl : ∀ l ∈ Ls, l.length = s) (hs : n * s ≤ 16777216) (hp : n * s ≠ 0) (parts : Array (Nat × Value)) (hpt : parts.toList = (Ls.zipIdx 0).map fun x => (x.2, Value.agg x.1.toArray)) :
    (Instr.buildSlice t n parts).run P w = .ok (.slice (some ⟨w.heap.size, 0, none⟩) n n) (w.alloc (.cells Ls.flatten.toArray e)) := by
  have hf : ∀ C : Array Value, C.size = n * s → Instr.fill (fun i => some (i * s, s)) C parts.toList = some Ls.flatten.toArray := by
    intro C hC
    have := fill_rows s Ls 0 C.toList hl (by rw [Nat.zero_add, hn]; simp [hC])
    rw [hpt, show C = C.toList.toArray from by simp, this, Nat.zero_mul, List.take_zero, List.nil_append, Nat.zero_add, hn, List.drop_of_length_le (by simp [hC]), List.append_nil]
  have hg : ¬ (2 ^ 24 < n * s) := by omega
  simp [Instr.buildSlice, run_underlying h1, sizeOf, typeInfo, h2, h4, zeroValue, h3, newRow, hg, hp]
  rw [hf _ (by simp)]
  simp
section
variable {P : Program} {ops : Array Oper} {rest : List Oper} {a : Act} {w : World} {Q : Exit → Act → World → Prop} {dst : Option Tmp} {ty : TypeId} {pos : String} {after : Array Edge}
theorem wpList_bsn (t e : TypeId) (i : TypeInfo) (z : Value) (s n : Nat) (h1 : P.underlying t = some (.slice e)) (h2 : P.info? e = some i) (h3 : i.zero = some z) (h4 : i.size = s) (Ls : List (List Value)) (hn : Ls.length = n) (hl : ∀ l ∈ Ls, l.length = s) (hs : n * s ≤ 16777216) (hp : n * s ≠ 0) (parts : Array (Nat × Operand)) (hpt : parts.toList.map (fun x => (x.1, a.eval x.2)) = (Ls.zipIdx 0).map fun x => (x.2, Value.agg x.1.toArray))
    (g : Nat) (hg : g = w.heap.size) (h : wpList P ops Q rest (a.put dst (.slice (some ⟨g, 0, none⟩) n n)) (w.alloc (.cells Ls.flatten.toArray e))) :
    wpList P ops Q (⟨dst, .buildSlice t n parts, ty, pos, after, none⟩ :: rest) a w := by
  subst hg
  refine wpList_plain rfl fun K hK => ?_
  have hr := run_bsn (P := P) w t e i z s n h1 h2 h3 h4 Ls hn hl hs hp (parts.map fun x => (x.1, a.eval x.2)) (by rw [Array.toList_map]; exact hpt)
  unfold Oper.wp
  simp only [execOp]
  generalize parts.map (fun x => (x.1, a.eval x.2)) = pv at hr ⊢
  simp [hr, Result.andThen]
  exact hK _ _ h
theorem step_bsn {K : Act → World → Prop} {E : Prop} (t e : TypeId) (i : TypeInfo) (z : Value) (s n : Nat) (h1 : P.underlying t = some (.slice e)) (h2 : P.info? e = some i) (h3 : i.zero = some z) (h4 : i.size = s) (Ls : List (List Value)) (hn : Ls.length = n) (hl : ∀ l ∈ Ls, l.length = s) (hs : n * s ≤ 16777216) (hp : n * s ≠ 0) (parts : Array (Nat × Operand)) (hpt : parts.toList.map (fun x => (x.1, a.eval x.2)) = (Ls.zipIdx 0).map fun x => (x.2, Value.agg x.1.toArray))
    (g : Nat) (hg : g = w.heap.size) (h : K (a.put dst (.slice (some ⟨g, 0, none⟩) n n)) (w.alloc (.cells Ls.flatten.toArray e))) :
    if Region.wanted ⟨dst, .buildSlice t n parts, ty, pos, after, none⟩ (yielded ops a.tmps) = true then Oper.wp P ⟨dst, .buildSlice t n parts, ty, pos, after, none⟩ a w K Q else E := by
  subst hg
  rw [if_pos (by rfl)]
  have hr := run_bsn (P := P) w t e i z s n h1 h2 h3 h4 Ls hn hl hs hp (parts.map fun x => (x.1, a.eval x.2)) (by rw [Array.toList_map]; exact hpt)
  unfold Oper.wp
  simp only [execOp]
  generalize parts.map (fun x => (x.1, a.eval x.2)) = pv at hr ⊢
  simp [hr, Result.andThen]
  exact h
end
end
section
set_option linter.unusedVariables false
set_option linter.unusedSimpArgs false
open Go.RowKit
def sRow (L : List AskD) : List Value := L.flatMap AskD.l
/-- What a call may be, whose bytes lie below block B. -/
structure AskIn (W : World) (B : Nat) (d : AskD) : Prop where
  k : d.k = 0 ∨ d.k = 2 ∨ d.k = 3 ∨ d.k = 4 ∨ d.k = 5 ∨ d.k = 8 ∨ d.k = 9
  rd : Rd W B d.A d.m d.bs
  wf : d.wf
  t : d.T = zKF
theorem AskIn.len {W : World} {B : Nat} {d : AskD} (h : AskIn W B d) : d.l.length = 13 := h.wf.len
theorem sRow_get {W : World} {B : Nat} : ∀ (L : List AskD), (∀ d ∈ L, AskIn W B d) → ∀ (j : Nat) (d : AskD), L[j]? = some d → ∀ t, t < 13 → (sRow L)[j * 13 + t]? = d.l[t]?
  | [], _, j, d, h, _, _ => by simp at h
  | x :: L, hL, 0, d, h, t, ht => by
    simp at h
    subst h
    have hx := (hL x (List.mem_cons_self ..)).len
    show (x.l ++ sRow L)[0 * 13 + t]? = _
    rw [Nat.zero_mul, Nat.zero_add, List.getElem?_append_left (by omega)]
  | x :: L, hL, j + 1, d, h, t, ht => by
    have h' : L[j]? = some d := by simpa using h
    have hx := (hL x (List.mem_cons_self ..)).len
    show (x.l ++ sRow L)[(j + 1) * 13 + t]? = _
    rw [List.getElem?_append_right (by omega), ← sRow_get L (fun d hd => hL d (List.mem_cons_of_mem _ hd)) j d h' t ht, hx, show (j + 1) * 13 + t - 13 = j * 13 + t by omega]
theorem snil_in {W : World} {B : Nat} {kd room i : Int} {n : Nat} (hk : kd = 0 ∨ kd = 2 ∨ kd = 3 ∨ kd = 4 ∨ kd = 5 ∨ kd = 8 ∨ kd = 9) (h3 : I64 room) (h4 : I64 i) (h5 : n < 18446744073709551616) : AskIn W B ⟨kd, room, i, n, none, 0, 0, [], zKF⟩ :=
  ⟨hk, Rd.none_ _ _ _, ⟨by unfold I64; show -9223372036854775808 ≤ kd ∧ kd < _; omega, h3, h4, h5, Nat.le_refl _, Nat.zero_le _, fun _ => rfl, rfl, rfl⟩, rfl⟩
theorem madeL16 (n : Nat) : madeL (.int .u8 0) n = (List.replicate n (0 : Int)).map (Value.int .u8) := by
  rw [List.map_replicate]
  apply List.ext_getElem?
  intro i
  by_cases hi : i < n
  · rw [List.getElem?_replicate, if_pos hi]
    simp [madeL, madeCells, Value.cells, Nat.mod_one, hi]
  · rw [List.getElem?_eq_none (by rw [madeL_len]; omega), List.getElem?_eq_none (by simp; omega)]
theorem rd_made16 {W : World} {g B n m : Nat} (h : At W g 5 (madeL (.int .u8 0) n)) (hm : m ≤ n) (hB : g < B) : Rd W B (some ⟨g, 0, none⟩) m (List.replicate m 0) := by
  refine ⟨by simp, fun x hx => by rw [List.eq_of_mem_replicate hx]; omega, fun hp => ⟨g, 0, rfl, hB, fun i hi => ?_⟩⟩
  rw [Nat.zero_add, h.cell, madeL16, List.map_replicate, List.getElem?_replicate, if_pos (by omega), List.getD_eq_getElem?_getD, List.getElem?_replicate, if_pos hi]
  rfl
theorem sdat_in {W : World} {B g : Nat} {kd room i : Int} {n : Nat} (hk : kd = 0 ∨ kd = 2 ∨ kd = 3 ∨ kd = 4 ∨ kd = 5 ∨ kd = 8 ∨ kd = 9) (h3 : I64 room) (h4 : I64 i) (h5 : n < 18446744073709551616) (h : At W g 5 (madeL (.int .u8 0) 50)) (hB : g < B) : AskIn W B ⟨kd, room, i, n, some ⟨g, 0, none⟩, 50, 50, List.replicate 50 0, zKF⟩ :=
  ⟨hk, rd_made16 (m := 50) h (by omega) hB, ⟨by unfold I64; show -9223372036854775808 ≤ kd ∧ kd < _; omega, h3, h4, h5, Nat.le_refl _, by show 50 ≤ maxLen; unfold maxLen; omega, fun h => (by cases h), rfl, rfl⟩, rfl⟩
def ks0 (g : Nat) : List AskD := [⟨4, 0, 0, 100, none, 0, 0, [], zKF⟩, ⟨0, 0, 0, 0, some ⟨g, 0, none⟩, 50, 50, List.replicate 50 0, zKF⟩, ⟨5, 19, 0, 99, none, 0, 0, [], zKF⟩, ⟨5, 40, 0, 99, none, 0, 0, [], zKF⟩, ⟨5, 99, 0, 3, none, 0, 0, [], zKF⟩, ⟨5, 99, 0, 99, none, 0, 0, [], zKF⟩, ⟨2, 0, 0, 0, none, 0, 0, [], zKF⟩, ⟨5, 20, 0, 99, none, 0, 0, [], zKF⟩, ⟨9, 0, 1, 0, none, 0, 0, [], zKF⟩, ⟨8, 0, 2, 0, none, 0, 0, [], zKF⟩, ⟨5, 600, 0, 99, none, 0, 0, [], zKF⟩, ⟨8, 0, 5, 0, none, 0, 0, [], zKF⟩, ⟨8, 0, 1, 0, none, 0, 0, [], zKF⟩, ⟨8, 0, 3, 0, none, 0, 0, [], zKF⟩, ⟨8, 0, 6, 0, none, 0, 0, [], zKF⟩, ⟨8, 0, 9, 0, none, 0, 0, [], zKF⟩]
set_option maxRecDepth 100000 in
theorem ks0_d {W : World} {g B : Nat} (h : At W g 5 (madeL (.int .u8 0) 50)) (hB : g < B) : ∀ d ∈ ks0 g, AskIn W B d := by
  intro d hd
  unfold ks0 at hd
  simp only [List.mem_cons, List.not_mem_nil, or_false] at hd
  rcases hd with rfl | rfl | rfl | rfl | rfl | rfl | rfl | rfl | rfl | rfl | rfl | rfl | rfl | rfl | rfl | rfl
  · exact snil_in (by simp) (by unfold I64; omega) (by unfold I64; omega) (by omega)
  · exact sdat_in (by simp) (by unfold I64; omega) (by unfold I64; omega) (by omega) h hB
  · exact snil_in (by simp) (by unfold I64; omega) (by unfold I64; omega) (by omega)
  · exact snil_in (by simp) (by unfold I64; omega) (by unfold I64; omega) (by omega)
  · exact snil_in (by simp) (by unfold I64; omega) (by unfold I64; omega) (by omega)
  · exact snil_in (by simp) (by unfold I64; omega) (by unfold I64; omega) (by omega)
  · exact snil_in (by simp) (by unfold I64; omega) (by unfold I64; omega) (by omega)
  · exact snil_in (by simp) (by unfold I64; omega) (by unfold I64; omega) (by omega)
  · exact snil_in (by simp) (by unfold I64; omega) (by unfold I64; omega) (by omega)
  · exact snil_in (by simp) (by unfold I64; omega) (by unfold I64; omega) (by omega)
  · exact snil_in (by simp) (by unfold I64; omega) (by unfold I64; omega) (by omega)
  · exact snil_in (by simp) (by unfold I64; omega) (by unfold I64; omega) (by omega)
  · exact snil_in (by simp) (by unfold I64; omega) (by unfold I64; omega) (by omega)
  · exact snil_in (by simp) (by unfold I64; omega) (by unfold I64; omega) (by omega)
  · exact snil_in (by simp) (by unfold I64; omega) (by unfold I64; omega) (by omega)
  · exact snil_in (by simp) (by unfold I64; omega) (by unfold I64; omega) (by omega)
def ks1 (g : Nat) (nt : Nat) : List AskD := [⟨5, 60, 0, 0, none, 0, 0, [], zKF⟩, ⟨9, 0, ((nt : Int) - 1), 0, none, 0, 0, [], zKF⟩, ⟨5, 60, 0, 0, none, 0, 0, [], zKF⟩, ⟨8, 0, nt, 0, none, 0, 0, [], zKF⟩, ⟨3, 0, 0, 1, none, 0, 0, [], zKF⟩, ⟨0, 0, 0, 0, some ⟨g, 0, none⟩, 50, 50, List.replicate 50 0, zKF⟩, ⟨2, 0, 0, 0, none, 0, 0, [], zKF⟩]
set_option maxRecDepth 100000 in
theorem ks1_d {W : World} {g B : Nat} {nt : Nat} (hnt : nt ≤ 1000000) (h : At W g 5 (madeL (.int .u8 0) 50)) (hB : g < B) : ∀ d ∈ ks1 g nt, AskIn W B d := by
  intro d hd
  unfold ks1 at hd
  simp only [List.mem_cons, List.not_mem_nil, or_false] at hd
  rcases hd with rfl | rfl | rfl | rfl | rfl | rfl | rfl
  · exact snil_in (by simp) (by unfold I64; omega) (by unfold I64; omega) (by omega)
  · exact snil_in (by simp) (by unfold I64; omega) (by unfold I64; omega) (by omega)
  · exact snil_in (by simp) (by unfold I64; omega) (by unfold I64; omega) (by omega)
  · exact snil_in (by simp) (by unfold I64; omega) (by unfold I64; omega) (by omega)
  · exact snil_in (by simp) (by unfold I64; omega) (by unfold I64; omega) (by omega)
  · exact sdat_in (by simp) (by unfold I64; omega) (by unfold I64; omega) (by omega) h hB
  · exact snil_in (by simp) (by unfold I64; omega) (by unfold I64; omega) (by omega)
section
variable {w0 W W' w1 w2 : World} {q p qm pw k g : Nat} {O R R' : Nat → Prop} {X : SS} {fr : List Value} {dd : Bool} {tv : Value} {Lt : List (FN × Sl)} {L : List AskD}
theorem Wo.more (h : Wo R w0 W q p qm pw O X fr dd tv Lt) (kb : Below W.heap.size W W') (hR : ∀ b, R' b → R b ∨ (W.heap.size ≤ b ∧ b < W'.heap.size)) : Wo R' w0 W' q p qm pw O X fr dd tv Lt := by
  have h1 := h.below kb
  have hpw := h.at_.lt
  refine ⟨h.tw.plus kb fun b hb => ?_, h1.at_, h1.own, h.ok, h.pwn, fun b hb => ?_⟩
  · rcases hb with e | e | e
    · exact .inl (.inl e)
    · exact .inl (.inr (.inl e))
    · exact (hR b e).imp (fun e => .inr (.inr e)) id
  · rcases hR b hb with e | e
    · exact h.rn b e
    · exact ⟨by omega, fun e' => by have := (h.own.block_lt b e').2; omega⟩
/-- The law's world behind k calls, that has nothing of the blocks R. -/
def Lv (R : Nat → Prop) (w0 W : World) (q p qm pw k : Nat) : Prop := ∃ X, X.id = 9 ∧ X.o.bs.length ≤ 60 * k ∧ Wd R w0 W q p qm pw X k
theorem Lv.bl (h : Lv R w0 W q p qm pw k) : Below w0.heap.size w0 W := by
  obtain ⟨X, _, _, O, fr, dd, tv, L, h, _⟩ := h
  exact h.tw.bl
theorem Lv.more (h : Lv R w0 W q p qm pw k) (kb : Below W.heap.size W W') (hR : ∀ b, R' b → R b ∨ (W.heap.size ≤ b ∧ b < W'.heap.size)) : Lv R' w0 W' q p qm pw k := by
  obtain ⟨X, h1, h2, O, fr, dd, tv, L, h, hl⟩ := h
  exact ⟨X, h1, h2, O, fr, dd, tv, L, h.more kb hR, hl⟩
theorem Lv.p0 (h : Lv R w0 W q p qm pw k) : W.cell? ⟨pw, 0, none⟩ = some (.pointer (some ⟨q, 0, none⟩)) := by
  obtain ⟨X, h1, h2, O, fr, dd, tv, L, h, hl⟩ := h
  rw [h.at_.cell]; rfl
theorem Lv.p2 (h : Lv R w0 W q p qm pw k) : ∃ tA nt tc, W.cell? ⟨pw, 2, none⟩ = some (.slice tA nt tc) ∧ nt ≤ k := by
  obtain ⟨X, h1, h2, O, fr, dd, tv, L, h, hl⟩ := h
  obtain ⟨tA, tc, rfl, _, _⟩ := h.own.shape
  exact ⟨tA, L.length, tc, by rw [h.at_.cell]; rfl, hl⟩
theorem lv_do (h : Lv R w0 W q p qm pw k) (hk : k < 10000) {d : AskD} (hd : AskIn w0 w0.heap.size d) :
    Calls Tryz.prog 6 #[.pointer (some ⟨pw, 0, none⟩), .agg d.l.toArray] W fun e w' => e = .returned (.bool true) ∧ Lv R w0 w' q p qm pw (k + 1) ∧ ∀ b, R b → w'.heap[b]? = W.heap[b]? := by
  obtain ⟨X, h1, h2, O, fr, dd, tv, L, h, hl⟩ := h
  obtain ⟨kd, room, i, n, A, m, c, bs, T⟩ := d
  obtain ⟨dk, drd, dwf, dt⟩ := hd
  obtain ⟨f1, f2, f3, f4, f5, f6, f7, _, _⟩ := dwf
  simp only at dk drd dt f1 f2 f3 f4 f5 f6 f7
  subst dt
  have H : Calls Tryz.prog 6 #[.pointer (some ⟨pw, 0, none⟩), .agg (askL kd room i n A m c).toArray] W fun e w' => e = .returned (.bool true) ∧ DoP R W w0 q p qm pw X k w' := by
    rcases dk with rfl | rfl | rfl | rfl | rfl | rfl | rfl
    · exact do_write0 h hl bs drd f5 f6 f7 (by omega)
    · exact do_fin h hl
    · exact do_stop h hl
    · exact do_limit h hl f4
    · exact do_next h hl f2.2 f4 (by omega) (by omega)
    · exact do_turn8 h hl f3 (by omega) (by omega) (by omega)
    · exact do_turn9 h hl f3 (by omega) (by omega) (by omega)
  refine H.mono ?_
  rintro e w' ⟨rfl, X', hn, hw, hr⟩
  exact ⟨rfl, ⟨X', by rw [hn.1]; exact h1, by have := hn.2; omega, hw⟩, hr⟩
/-- .. that is born. -/
theorem lv_born (hs : Sm w0 w1 q p (ss0 9) (fun _ => False)) (hd : Dm w0 w2 qm O (ss0 9) zFr false) (hb : Below w1.heap.size w1 w2) (ho : ∀ b, O b → w1.heap.size ≤ b) :
    Lv (fun _ => False) w0 (w2.alloc (.cells #[.pointer (some ⟨q, 0, none⟩), .pointer (some ⟨qm, 0, none⟩), .slice none 0 0] 31)) q p qm w2.heap.size 0 := by
  have b3 : Below w2.heap.size w2 (w2.alloc (.cells #[.pointer (some ⟨q, 0, none⟩), .pointer (some ⟨qm, 0, none⟩), .slice none 0 0] 31)) := (Below.refl _ _).alloc (Nat.le_refl _) _
  have s1 := hb.size
  have hA := At.new w2 31 [.pointer (some ⟨q, 0, none⟩), .pointer (some ⟨qm, 0, none⟩), .slice none 0 0]
  have hno : ∀ j, (Value.slice none 0 0).ownBlock ≠ some j := fun j e => by cases e
  have hw0 := hd.bl.size
  have bb := hb.trans (b3.mono s1)
  refine ⟨ss0 9, rfl, Nat.zero_le _, O, zFr, false, .slice none 0 0, [], ⟨⟨hs.change (Kept.of_below bb _) (fun b h => h.elim) fun b hb' => ?_, hd.below b3, i16_0 9 (by omega), fun b hb' => ?_⟩, hA, World.ownsRow_nil _ _ _ _, fun x hx => (by cases hx), fun b h => absurd h (hno b), fun b h => h.elim⟩, Nat.le_refl _⟩
  · rcases hb' with e | rfl | e | e
    · have := (hd.lt b e).2
      have := b3.size
      exact .inr ⟨ho b e, by omega⟩
    · exact .inr ⟨by omega, hA.lt⟩
    · exact absurd e (hno b)
    · exact e.elim
  · rcases hb' with rfl | e | e
    · exact ⟨by omega, fun e => by have := (hd.lt _ e).2; omega⟩
    · exact absurd e (hno b)
    · exact e.elim
/-- .. with a row of calls beside it. -/
def Lr (w0 W : World) (q p qm pw k g : Nat) (L : List AskD) : Prop := Lv (fun b => b = g) w0 W q p qm pw k ∧ At W g 36 (sRow L) ∧ ∀ d ∈ L, AskIn w0 w0.heap.size d
theorem Lr.below (h : Lr w0 W q p qm pw k g L) (kb : Below W.heap.size W W') : Lr w0 W' q p qm pw k g L := ⟨h.1.more kb fun b hb => .inl hb, h.2.1.below kb h.2.1.lt, h.2.2⟩
theorem Lr.get (h : Lr w0 W q p qm pw k g L) {j : Nat} {d : AskD} (hj : L[j]? = some d) : W.rangeAt g (j * 13) d.l ∧ AskIn w0 w0.heap.size d := by
  have hd := h.2.2 d (List.mem_of_getElem? hj)
  refine ⟨fun t v hv => ?_, hd⟩
  have ht : t < 13 := by have := (List.getElem?_eq_some_iff.1 hv).1; rw [hd.len] at this; exact this
  rw [h.2.1.cell, sRow_get L h.2.2 j d hj t ht]
  exact hv
theorem lr_do (h : Lr w0 W q p qm pw k g L) (hk : k < 10000) {d : AskD} (hd : AskIn w0 w0.heap.size d) :
    Calls Tryz.prog 6 #[.pointer (some ⟨pw, 0, none⟩), .agg d.l.toArray] W fun e w' => e = .returned (.bool true) ∧ Lr w0 w' q p qm pw (k + 1) g L :=
  (lv_do h.1 hk hd).mono fun e w' ⟨h1, h2, h3⟩ => ⟨h1, h2, (h3 g rfl).trans h.2.1, h.2.2⟩
theorem lr_row (h : Lv R w0 W q p qm pw k) (hL : ∀ d ∈ L, AskIn w0 w0.heap.size d) : Lr w0 (W.alloc (.cells (sRow L).toArray 36)) q p qm pw k W.heap.size L := by
  have hb : Below W.heap.size W (W.alloc (.cells (sRow L).toArray 36)) := (Below.refl _ _).alloc (Nat.le_refl _) _
  have hA := At.new W 36 (sRow L)
  exact ⟨h.more hb fun b e => .inr ⟨by omega, by rw [e]; exact hA.lt⟩, hA, hL⟩
theorem lr_box (h : Lr w0 W q p qm pw k g L) (l : List Value) : Lr w0 (W.alloc (.cells l.toArray 36)) q p qm pw k g L ∧ At (W.alloc (.cells l.toArray 36)) W.heap.size 36 l := ⟨h.below ((Below.refl _ _).alloc (Nat.le_refl _) _), At.new W _ l⟩
end
set_option maxRecDepth 100000 in
theorem sask_i : ∃ i z, Tryz.prog.info? 36 = some i ∧ i.zero = some z ∧ i.size = 13 := by
  have h : (Tryz.prog.info? 36).map (fun i => (i.zero.isSome, i.size)) = some (true, 13) := by kernel_rfl
  cases hq : Tryz.prog.info? 36 with
  | none => rw [hq] at h; cases h
  | some i =>
    rw [hq] at h
    simp only [Option.map_some, Option.some.injEq, Prod.mk.injEq] at h
    obtain ⟨z, hz⟩ := Option.isSome_iff_exists.1 h.1
    exact ⟨i, z, rfl, hz, h.2⟩
section
variable {ops : Array Oper} {rest : List Oper} {a : Act} {w w0 : World} {Q : Exit → Act → World → Prop} {dst : Option Tmp} {ty : TypeId} {pos : String} {after : Array Edge}
theorem sl_len {L : List AskD} (hL : ∀ d ∈ L, AskIn w0 w0.heap.size d) : ∀ l ∈ L.map AskD.l, l.length = 13 := fun l hl => by
  obtain ⟨d, hd, rfl⟩ := List.mem_map.1 hl
  exact (hL d hd).len
set_option maxRecDepth 100000 in
theorem wpList_sasks (L : List AskD) (n : Nat) (parts : Array (Nat × Operand)) (hn : L.length = n) (hs : n ≤ 1000) (hp : 0 < n) (hpt : parts.toList.map (fun x => (x.1, a.eval x.2)) = ((L.map AskD.l).zipIdx 0).map fun x => (x.2, Value.agg x.1.toArray)) (hL : ∀ d ∈ L, AskIn w0 w0.heap.size d)
    (h : wpList Tryz.prog ops Q rest (a.put dst (.slice (some ⟨w.heap.size, 0, none⟩) n n)) (w.alloc (.cells (sRow L).toArray 36))) :
    wpList Tryz.prog ops Q (⟨dst, .buildSlice 37 n parts, ty, pos, after, none⟩ :: rest) a w := by
  obtain ⟨i, z, h2, h3, h4⟩ := sask_i
  exact wpList_bsn _ _ i z 13 n Tryz.underlying37 h2 h3 h4 (L.map AskD.l) ((List.length_map _).trans hn) (sl_len hL) (by omega) (by omega) parts hpt _ rfl h
set_option maxRecDepth 100000 in
theorem step_sasks {K : Act → World → Prop} {E : Prop} (L : List AskD) (n : Nat) (parts : Array (Nat × Operand)) (hn : L.length = n) (hs : n ≤ 1000) (hp : 0 < n) (hpt : parts.toList.map (fun x => (x.1, a.eval x.2)) = ((L.map AskD.l).zipIdx 0).map fun x => (x.2, Value.agg x.1.toArray)) (hL : ∀ d ∈ L, AskIn w0 w0.heap.size d)
    (h : K (a.put dst (.slice (some ⟨w.heap.size, 0, none⟩) n n)) (w.alloc (.cells (sRow L).toArray 36))) :
    if Region.wanted ⟨dst, .buildSlice 37 n parts, ty, pos, after, none⟩ (yielded ops a.tmps) = true then Oper.wp Tryz.prog ⟨dst, .buildSlice 37 n parts, ty, pos, after, none⟩ a w K Q else E := by
  obtain ⟨i, z, h2, h3, h4⟩ := sask_i
  exact step_bsn _ _ i z 13 n Tryz.underlying37 h2 h3 h4 (L.map AskD.l) ((List.length_map _).trans hn) (sl_len hL) (by omega) (by omega) parts hpt _ rfl h
end
end
end Go.Proofs.YtbejpafephofaaaGreat
