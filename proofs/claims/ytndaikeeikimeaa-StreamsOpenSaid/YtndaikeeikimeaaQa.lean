/-
  Slices of Ranges of the call's own: their cells; append, append of zeros, copy, clear as laws of one operation.
-/
import Derived.Test.YtndaikeeikimeaaProg
import Derived.Test.YtndaikeeikimeaaMq0
import Derived.Laws.CopyOwn
import Derived.Laws.IdiomCopy
import Derived.Maps.AppendAt
import Derived.Lib.Overlaps
import Derived.Lib.SliceRun
import Derived.Lib.AppendZerosOnto
namespace Go.Proofs.Ytndaikeeikimeaa
set_option linter.unusedVariables false
set_option linter.unusedSimpArgs false
open Go.RowKit
abbrev RL := List (Int × Int)
/-- The cells of ranges. -/
def rlC (l : RL) : List Value := l.flatMap fun r => [.int .u64 r.1, .int .u64 r.2]
theorem rlC_cons (r : Int × Int) (l : RL) : rlC (r :: l) = .int .u64 r.1 :: .int .u64 r.2 :: rlC l := by simp [rlC]
theorem rlC_len : ∀ l : RL, (rlC l).length = l.length * 2
  | [] => rfl
  | r :: t => by rw [rlC_cons, List.length_cons, List.length_cons, rlC_len t, List.length_cons]; omega
theorem rlC_app (a b : RL) : rlC (a ++ b) = rlC a ++ rlC b := by unfold rlC; exact List.flatMap_append
theorem rlC_get : ∀ (l : RL) (i : Nat) (r : Int × Int), l[i]? = some r → (rlC l)[i * 2]? = some (.int .u64 r.1) ∧ (rlC l)[i * 2 + 1]? = some (.int .u64 r.2)
  | [], i, r, h => by simp at h
  | x :: t, 0, r, h => by
    simp at h
    subst h
    exact ⟨rfl, rfl⟩
  | x :: t, i + 1, r, h => by
    have := rlC_get t i r (by simpa using h)
    rw [rlC_cons, show (i + 1) * 2 = i * 2 + 1 + 1 by omega, List.getElem?_cons_succ, List.getElem?_cons_succ, List.getElem?_cons_succ, List.getElem?_cons_succ]
    exact this
theorem rlC_one (l : RL) : ∀ u ∈ rlC l, u.oneCell' = true := fun u hu => by
  unfold rlC at hu
  rw [List.mem_flatMap] at hu
  obtain ⟨r, _, h⟩ := hu
  simp at h
  rcases h with rfl | rfl <;> rfl
theorem rlC_take : ∀ (l : RL) (k : Nat), rlC (l.take k) = (rlC l).take (k * 2)
  | [], k => by simp [rlC]
  | r :: t, 0 => by simp [rlC]
  | r :: t, k + 1 => by
    rw [List.take_succ_cons, rlC_cons, rlC_cons, rlC_take t k, show (k + 1) * 2 = k * 2 + 1 + 1 by omega, List.take_succ_cons, List.take_succ_cons]
theorem rlC_drop : ∀ (l : RL) (k : Nat), rlC (l.drop k) = (rlC l).drop (k * 2)
  | [], k => by simp [rlC]
  | r :: t, 0 => by simp
  | r :: t, k + 1 => by
    rw [List.drop_succ_cons, rlC_cons, rlC_drop t k, show (k + 1) * 2 = k * 2 + 1 + 1 by omega, List.drop_succ_cons, List.drop_succ_cons]
/-- Each bound is a number of 64 bits. -/
def WdL (l : RL) : Prop := ∀ r ∈ l, 0 ≤ r.1 ∧ r.1 < 18446744073709551616 ∧ 0 ≤ r.2 ∧ r.2 < 18446744073709551616
theorem WdL.app {a b : RL} (ha : WdL a) (hb : WdL b) : WdL (a ++ b) := fun r hr => by
  rcases List.mem_append.1 hr with h | h
  · exact ha r h
  · exact hb r h
theorem WdL.take {a : RL} (ha : WdL a) (k : Nat) : WdL (a.take k) := fun r hr => ha r (List.mem_of_mem_take hr)
theorem WdL.drop {a : RL} (ha : WdL a) (k : Nat) : WdL (a.drop k) := fun r hr => ha r (List.mem_of_mem_drop hr)
theorem WdL.nil_ : WdL [] := fun r h => by cases h
theorem WdL.one {a b : Int} (h0 : 0 ≤ a) (h1 : a < 18446744073709551616) (h2 : 0 ≤ b) (h3 : b < 18446744073709551616) : WdL [(a, b)] := fun r hr => by
  rw [List.mem_singleton] at hr
  subst hr
  exact ⟨h0, h1, h2, h3⟩
/-- A slice that the call made itself (no block below base), n elements of two cells. -/
abbrev OwnF (w : World) (base : Nat) (v : Value) (n : Nat) (xs : List Value) : Prop := w.ownsRow base 105 2 v n xs
structure OwnL (w : World) (base : Nat) (v : Value) (l : RL) : Prop where
  own : OwnF w base v l.length (rlC l)
  wd : WdL l
section
variable {w w' : World} {base : Nat} {v : Value} {n : Nat} {xs : List Value} {l : RL}
theorem ownF_open (h : OwnF w base v n xs) : ∃ A c, v = .slice A n c ∧ n ≤ c ∧ c ≤ maxLen ∧ xs.length = n * 2 ∧
    ((A = none ∧ n = 0 ∧ c = 0 ∧ xs = []) ∨ ∃ g cur, A = some ⟨g, 0, none⟩ ∧ base ≤ g ∧ g < w.heap.size ∧ At w g 105 cur ∧ cur.length = c * 2 ∧ cur.take (n * 2) = xs) := by
  rcases h.2 with ⟨rfl, rfl⟩ | ⟨g, cap, cur, rfl, hb, hg, hn, hm, hs, ht⟩
  · exact ⟨none, 0, rfl, Nat.le_refl _, by unfold maxLen; omega, h.1, .inl ⟨rfl, rfl, rfl, List.eq_nil_of_length_eq_zero (by simpa using h.1)⟩⟩
  · have hA : At w g 105 cur.toList := hg
    exact ⟨_, cap, rfl, hn, hm, h.1, .inr ⟨g, cur.toList, rfl, hb, hA.lt, hA, by simpa using hs, ht⟩⟩
theorem ownF_mk {g c : Nat} {cur : List Value} (hx : xs.length = n * 2) (hb : base ≤ g) (hA : At w g 105 cur) (hn : n ≤ c) (hc : c ≤ maxLen) (hl : cur.length = c * 2) (ht : cur.take (n * 2) = xs) : OwnF w base (.slice (some ⟨g, 0, none⟩) n c) n xs :=
  ⟨hx, .inr ⟨g, c, cur.toArray, rfl, hb, hA, hn, hc, by simpa using hl, by simpa using ht⟩⟩
theorem ownF_lt (h : OwnF w base v n xs) : ∀ k, v.ownBlock = some k → base ≤ k ∧ k < w.heap.size := by
  obtain ⟨A, c, rfl, _, _, _, h⟩ := ownF_open h
  intro k hk
  rcases h with ⟨rfl, _⟩ | ⟨g, cur, rfl, hb, hlt, _⟩
  · cases hk
  · injection hk with hk
    subst hk
    exact ⟨hb, hlt⟩
theorem ownF_keep (h : OwnF w base v n xs) (hk : ∀ k, v.ownBlock = some k → w'.heap[k]? = w.heap[k]?) : OwnF w' base v n xs := by
  refine ⟨h.1, ?_⟩
  rcases h.2 with h0 | ⟨g, cap, cur, rfl, hb, hg, hr⟩
  · exact .inl h0
  · exact .inr ⟨g, cap, cur, rfl, hb, (hk g rfl).trans hg, hr⟩
theorem OwnL.lt (h : OwnL w base v l) : ∀ k, v.ownBlock = some k → base ≤ k ∧ k < w.heap.size := ownF_lt h.own
theorem OwnL.keep (h : OwnL w base v l) (hk : ∀ k, v.ownBlock = some k → w'.heap[k]? = w.heap[k]?) : OwnL w' base v l := ⟨ownF_keep h.own hk, h.wd⟩
theorem OwnL.kept {S : Nat → Prop} (h : OwnL w base v l) (k : Kept S w w') (hs : ∀ j, v.ownBlock = some j → ¬ S j) : OwnL w' base v l := h.keep fun j hj => k.block j (h.lt j hj).2 (hs j hj)
theorem OwnL.below (h : OwnL w base v l) (k : Below w.heap.size w w') : OwnL w' base v l := h.kept (Kept.of_below k (fun _ => False)) (fun _ _ h => h)
theorem OwnL.base_ {base' : Nat} (h : OwnL w base v l) (hb : base' ≤ base) : OwnL w base' v l := by
  refine ⟨⟨h.own.1, ?_⟩, h.wd⟩
  rcases h.own.2 with h0 | ⟨g, cap, cur, e, hb', hr⟩
  · exact .inl h0
  · exact .inr ⟨g, cap, cur, e, Nat.le_trans hb hb', hr⟩
theorem OwnL.shape (h : OwnL w base v l) : ∃ A c, v = .slice A l.length c ∧ l.length ≤ c ∧ c ≤ maxLen := by
  obtain ⟨A, c, e, h1, h2, _⟩ := ownF_open h.own
  exact ⟨A, c, e, h1, h2⟩
theorem OwnL.nil_ (w : World) (base : Nat) : OwnL w base (.slice none 0 0) [] := ⟨⟨rfl, .inl ⟨rfl, rfl⟩⟩, WdL.nil_⟩
theorem OwnL.one (w : World) (base g : Nat) (a b : Int) (hg : g = w.heap.size) (hb : base ≤ g) (hw : WdL [(a, b)]) : OwnL (w.alloc (.cells #[.int .u64 a, .int .u64 b] 105)) base (.slice (some ⟨g, 0, none⟩) 1 1) [(a, b)] := by
  subst hg
  exact ⟨⟨rfl, .inr ⟨_, 1, _, rfl, hb, heap_alloc_new w _, Nat.le_refl _, by unfold maxLen; omega, rfl, rfl⟩⟩, hw⟩
/-- The cells of an element. -/
theorem OwnL.cell (h : OwnL w base v l) {i : Nat} {r : Int × Int} (hi : l[i]? = some r) : ∃ g c, v = .slice (some ⟨g, 0, none⟩) l.length c ∧ base ≤ g ∧ g < w.heap.size ∧ w.cell? ⟨g, i * 2, none⟩ = some (.int .u64 r.1) ∧ w.cell? ⟨g, i * 2 + 1, none⟩ = some (.int .u64 r.2) := by
  obtain ⟨A, c, rfl, h1, h2, h3, h4⟩ := ownF_open h.own
  have hlt := (List.getElem?_eq_some_iff.1 hi).1
  rcases h4 with ⟨rfl, h0, _⟩ | ⟨g, cur, rfl, hb, hg, hA, hl, ht⟩
  · omega
  · have hr := rlC_get l i r hi
    refine ⟨g, c, rfl, hb, hg, ?_, ?_⟩
    · rw [hA.cell]
      have := hr.1
      rw [← ht, List.getElem?_take] at this
      split at this
      · exact this
      · cases this
    · rw [hA.cell]
      have := hr.2
      rw [← ht, List.getElem?_take] at this
      split at this
      · exact this
      · cases this
end
theorem rl_info : (Try.prog.info? 105).map (fun i => (i.zero, i.size, i.bytes)) = some (some (.agg #[.int .u64 0, .int .u64 0]), 2, 16) := by kernel_rfl
theorem rl_parts : ∃ i, Try.prog.info? 105 = some i ∧ i.zero = some (.agg #[.int .u64 0, .int .u64 0]) ∧ i.size = 2 ∧ i.bytes = 16 := by
  have hI := rl_info
  cases hq : Try.prog.info? 105 with
  | none => rw [hq] at hI; cases hI
  | some i =>
    rw [hq] at hI
    simp only [Option.map_some, Option.some.injEq, Prod.mk.injEq] at hI
    exact ⟨i, rfl, hI⟩
theorem splice_nil (l : List Value) (o : Nat) : splice l o [] = l := by simp [splice]
theorem splice_take (l cs : List Value) (o k : Nat) (hk : k ≤ o) (ho : o ≤ l.length) : (splice l o cs).take k = l.take k := by
  unfold splice
  rw [List.take_append_of_le_length (by simp; omega), List.take_take, Nat.min_eq_left hk]
section
variable {w : World} {ops : Array Oper} {rest : List Oper} {o : Oper} {a : Act} {Q : Exit → Act → World → Prop}
set_option maxRecDepth 100000 in
/-- copy onto a block of the call's own. -/
theorem run_copy2 (w : World) (ty : TypeId) (dp sp : Option Addr) (dLen dCap sLen sCap g off : Nat) (cur : List Value) (T : TypeId) (cs : List Value)
    (hA : At w g T cur) (hn : cs.length = Nat.min sLen dLen * 2) (hd : 0 < cs.length → dp = some ⟨g, off, none⟩) (hs : 0 < cs.length → ∃ ad, sp = some ad ∧ ∀ j v, cs[j]? = some v → w.cell? (ad.add j) = some v)
    (hfit : off + cs.length ≤ cur.length) (h1 : ∀ v ∈ cs, v.oneCell' = true) :
    ∃ w', (Builtin.copy_ #[32, 32] ty #[.slice dp dLen dCap, .slice sp sLen sCap]).run Try.prog w = .ok (goInt (Nat.min sLen dLen)) w' ∧ At w' g T (splice cur off cs) ∧ Kept (· = g) w w' := by
  obtain ⟨i, hi, hz, hsz, hby⟩ := rl_parts
  have hu := Try.underlying32
  by_cases h0 : cs.length = 0
  · obtain rfl : cs = [] := List.eq_nil_of_length_eq_zero h0
    have hm : Nat.min sLen dLen = 0 := by
      have : 0 = Nat.min sLen dLen * 2 := hn
      omega
    refine ⟨w, ?_, by rw [splice_nil]; exact hA, Kept.refl _ _⟩
    cases dp <;> cases sp <;> simp [Builtin.copy_, run_underlying hu, Builtin.lenOf, Builtin.firstCells, sizeOf, typeInfo, hi, hsz, hm, loadCells, loadCellsFrom, storeCells]
  · obtain ⟨ad, rfl, hc⟩ := hs (by omega)
    obtain rfl := hd (by omega)
    have hl := run_loadCells_list (P := Try.prog) w ad cs hc
    have hst := run_storeCells_at Try.prog g off T cs 0 cur.toArray w hA (by simpa using hfit) h1
    refine ⟨w.setRow g (splice cur off cs).toArray, ?_, ?_, ?_⟩
    · simp only [Nat.add_zero, List.append_assoc] at hst
      have hn2 : Nat.min sLen dLen * 2 = cs.length := hn.symm
      simp [Builtin.copy_, run_underlying hu, Builtin.lenOf, Builtin.firstCells, sizeOf, typeInfo, hi, hsz, hn2, hl, hst, splice]
    · exact setRow_heap w g _ _ T _ hA
    · exact ⟨rfl, rfl, rfl, by simp [World.setRow], fun k hk hne => setRow_other w g k _ hne⟩
theorem step_copy2 {E : Prop} {K : Act → World → Prop} (hgd : o.guard = none) (d x : Operand) (hop : o.op = Op.call { callee := Callee.builtin Builtin.copy, args := #[d, x], argTypes := #[32, 32] })
    (dp sp : Option Addr) (dLen dCap sLen sCap g off : Nat) (cur : List Value) (T : TypeId) (cs : List Value) (hd : a.eval d = .slice dp dLen dCap) (hx : a.eval x = .slice sp sLen sCap)
    (hA : At w g T cur) (hn : cs.length = Nat.min sLen dLen * 2) (hdp : 0 < cs.length → dp = some ⟨g, off, none⟩) (hs : 0 < cs.length → ∃ ad, sp = some ad ∧ ∀ j v, cs[j]? = some v → w.cell? (ad.add j) = some v)
    (hfit : off + cs.length ≤ cur.length) (h1 : ∀ v ∈ cs, v.oneCell' = true)
    (hK : ∀ w', At w' g T (splice cur off cs) → Kept (· = g) w w' → K (a.put o.dst (goInt (Nat.min sLen dLen))) w') :
    if Region.wanted o (yielded ops a.tmps) = true then Oper.wp Try.prog o a w K Q else E := by
  obtain ⟨w', hr, h2, h3⟩ := run_copy2 w o.type dp sp dLen dCap sLen sCap g off cur T cs hA hn hdp hs hfit h1
  have hw : Region.wanted o (yielded ops a.tmps) = true := by simp [Region.wanted, hgd]
  rw [if_pos hw]
  unfold Oper.wp
  simp [execOp, hop, resolve, invoke, builtin, hd, hx, hr, Result.andThen]
  exact hK w' h2 h3
theorem wpList_copy2 (hgd : o.guard = none) (d x : Operand) (hop : o.op = Op.call { callee := Callee.builtin Builtin.copy, args := #[d, x], argTypes := #[32, 32] })
    (dp sp : Option Addr) (dLen dCap sLen sCap g off : Nat) (cur : List Value) (T : TypeId) (cs : List Value) (hd : a.eval d = .slice dp dLen dCap) (hx : a.eval x = .slice sp sLen sCap)
    (hA : At w g T cur) (hn : cs.length = Nat.min sLen dLen * 2) (hdp : 0 < cs.length → dp = some ⟨g, off, none⟩) (hs : 0 < cs.length → ∃ ad, sp = some ad ∧ ∀ j v, cs[j]? = some v → w.cell? (ad.add j) = some v)
    (hfit : off + cs.length ≤ cur.length) (h1 : ∀ v ∈ cs, v.oneCell' = true)
    (h : ∀ w', At w' g T (splice cur off cs) → Kept (· = g) w w' → wpList Try.prog ops Q rest (a.put o.dst (goInt (Nat.min sLen dLen))) w') : wpList Try.prog ops Q (o :: rest) a w := by
  obtain ⟨w', hr, h2, h3⟩ := run_copy2 w o.type dp sp dLen dCap sLen sCap g off cur T cs hA hn hdp hs hfit h1
  refine wpList_plain hgd fun K hK => ?_
  unfold Oper.wp
  simp [execOp, hop, resolve, invoke, builtin, hd, hx, hr, Result.andThen]
  exact hK _ _ (h w' h2 h3)
theorem zero2 (n : Nat) : ∃ zs : List Value, (Builtin.zeroCells (Value.agg #[.int .u64 0, .int .u64 0]).cells n).toList = zs ∧ zs.length = n * 2 ∧ ∀ v ∈ zs, v.oneCell' = true := by
  refine ⟨_, rfl, by simp [Builtin.zeroCells, Value.cells], ?_⟩
  intro v hv
  simp [Builtin.zeroCells, Value.cells] at hv
  obtain ⟨j, hj, rfl⟩ := hv
  rcases Nat.mod_two_eq_zero_or_one j with h | h <;> simp [h] <;> rfl
set_option maxRecDepth 100000 in
theorem run_clear2 (w : World) (ty : TypeId) (A : Option Addr) (n c g off : Nat) (cur : List Value) (T : TypeId) (hA : At w g T cur) (hd : 0 < n → A = some ⟨g, off, none⟩) (hfit : off + n * 2 ≤ cur.length) :
    ∃ w' zs, (Builtin.clear_ #[32] ty #[.slice A n c]).run Try.prog w = .ok (.tuple #[]) w' ∧ zs.length = n * 2 ∧ At w' g T (splice cur off zs) ∧ Kept (· = g) w w' := by
  obtain ⟨i, hi, hz, hsz, hby⟩ := rl_parts
  have hu := Try.underlying32
  obtain ⟨zs, hzs, hzl, hz1⟩ := zero2 n
  by_cases h0 : n = 0
  · subst h0
    obtain rfl : zs = [] := List.eq_nil_of_length_eq_zero (by simpa using hzl)
    refine ⟨w, [], ?_, rfl, by rw [splice_nil]; exact hA, Kept.refl _ _⟩
    cases A <;> simp [Builtin.clear_, run_underlying hu, zeroValue, typeInfo, hi, hz, storeCells, Builtin.zeroCells]
  · obtain rfl := hd (by omega)
    have hst := run_storeCells_at Try.prog g off T zs 0 cur.toArray w hA (by simpa [hzl] using hfit) hz1
    refine ⟨w.setRow g (splice cur off zs).toArray, zs, ?_, hzl, setRow_heap w g _ _ T _ hA, ⟨rfl, rfl, rfl, by simp [World.setRow], fun k hk hne => setRow_other w g k _ hne⟩⟩
    simp only [Nat.add_zero, List.append_assoc] at hst
    obtain ⟨m, rfl⟩ : ∃ m, n = m + 1 := ⟨n - 1, by omega⟩
    simp [Builtin.clear_, run_underlying hu, zeroValue, typeInfo, hi, hz, hzs, hst, splice]
theorem wpList_clear2 (hgd : o.guard = none) (d : Operand) (hop : o.op = Op.call { callee := Callee.builtin Builtin.clear, args := #[d], argTypes := #[32] })
    (A : Option Addr) (n c g off : Nat) (cur : List Value) (T : TypeId) (hd : a.eval d = .slice A n c) (hA : At w g T cur) (hdp : 0 < n → A = some ⟨g, off, none⟩) (hfit : off + n * 2 ≤ cur.length)
    (h : ∀ w' zs, zs.length = n * 2 → At w' g T (splice cur off zs) → Kept (· = g) w w' → wpList Try.prog ops Q rest (a.put o.dst (.tuple #[])) w') : wpList Try.prog ops Q (o :: rest) a w := by
  obtain ⟨w', zs, hr, h1, h2, h3⟩ := run_clear2 w o.type A n c g off cur T hA hdp hfit
  refine wpList_plain hgd fun K hK => ?_
  unfold Oper.wp
  simp [execOp, hop, resolve, invoke, builtin, hd, hr, Result.andThen]
  exact hK _ _ (h w' zs h1 h2 h3)
set_option maxRecDepth 100000 in
/-- append of elements that stand anywhere. -/
theorem run_append2 (w : World) (ty : TypeId) (base : Nat) (v : Value) (n : Nat) (xs : List Value) (hown : OwnF w base v n xs) (A : Option Addr) (m c : Nat) (news : List Value) (hl : news.length = m * 2)
    (hnews : 0 < m → ∃ ad, A = some ad ∧ ∀ j u, news[j]? = some u → w.cell? (ad.add j) = some u) (h1 : ∀ u ∈ news, u.oneCell' = true) (hN : n + m ≤ 4000000) (hbase : base ≤ w.heap.size) :
    ∃ v' w', (Builtin.append_ #[32, 32] ty #[v, .slice A m c]).run Try.prog w = .ok v' w' ∧ OwnF w' base v' (n + m) (xs ++ news) ∧ w.grownBy w' v.ownBlock ∧ (v'.ownBlock = v.ownBlock ∨ v'.ownBlock = some w.heap.size) ∧
      (∀ g c, v = .slice (some ⟨g, 0, none⟩) n c → n + m ≤ c → v' = .slice (some ⟨g, 0, none⟩) (n + m) c) := by
  obtain ⟨i, hi, hz, hsz, hby⟩ := rl_parts
  have hu := Try.underlying32
  by_cases h0 : m = 0
  · subst h0
    obtain rfl : news = [] := List.eq_nil_of_length_eq_zero (by simpa using hl)
    obtain ⟨A', c', rfl, hn, hc, hx, ho⟩ := ownF_open hown
    refine ⟨_, w, ?_, by rw [List.append_nil]; exact hown, ⟨rfl, rfl, rfl, Nat.le_refl _, fun _ _ _ => rfl⟩, .inl rfl, fun g c e _ => e⟩
    cases A <;> cases A' <;> simp [Builtin.append_, run_underlying hu, sizeOf, typeInfo, hi, hsz, Builtin.lenOf, Builtin.firstCells, loadCells, loadCellsFrom, hn, storeCells]
  · obtain ⟨ad, rfl, hc⟩ := hnews (by omega)
    obtain ⟨v', w', k1, k2, k3, _, k5⟩ := run_append_own_at (P := Try.prog) (w := w) base 32 ty 105 i _ 2 16 hu hi hz hsz hby rfl (by omega) v n xs hown ad m c news hl hc h1 (by unfold maxLen; omega) (by omega) hbase
    refine ⟨v', w', k1, k2, k3, k5, ?_⟩
    rintro g c' rfl hfit
    have hl2 := run_loadCells_list (P := Try.prog) w ad news hc
    rcases hown.2 with ⟨h0, _⟩ | ⟨g1, cap, cur, hv, hbg, hg, hnc, hcm, hcs, htake⟩
    · cases h0
    · injection hv with e1 e2 e3
      injection e1 with e1
      injection e1 with e1
      subst e1; subst e3
      have hst := run_storeCells_at Try.prog g (n * 2) _ news 0 cur w hg (by rw [hcs, hl]; omega) h1
      have had : (⟨g, 0, none⟩ : Addr).add (n * 2) = ⟨g, n * 2, none⟩ := by rw [Addr.add_lit, Nat.zero_add]
      have hl' : m * 2 = news.length := hl.symm
      have hrun : (Builtin.append_ #[32, 32] ty #[.slice (some ⟨g, 0, none⟩) n c', .slice (some ad) m c]).run Try.prog w = .ok (.slice (some ⟨g, 0, none⟩) (n + m) c') (w.setRow g (cur.toList.take (n * 2 + 0) ++ news ++ cur.toList.drop (n * 2 + 0 + news.length)).toArray) := by
        simp only [Builtin.append_, run_underlying hu, sizeOf, typeInfo, hi, hsz, Builtin.lenOf, Builtin.firstCells, hl', hl2, had, hst, Sem.run_bind, Sem.run_pure, Result.andThen_ok]
        simp [Builtin.append_, run_underlying hu, sizeOf, typeInfo, hi, hsz, Builtin.lenOf, Builtin.firstCells, hfit, hl', hl2, had, hst]
      rw [hrun] at k1
      injection k1 with k1 _
      exact k1.symm
theorem wpList_append2 (hgd : o.guard = none) (s x : Operand) (ho : o.op = .call { callee := .builtin .append, args := #[s, x], argTypes := #[32, 32] }) (base : Nat) (v : Value) (n : Nat) (xs : List Value) (hs : a.eval s = v) (hown : OwnF w base v n xs)
    (A : Option Addr) (m c : Nat) (hx : a.eval x = .slice A m c) (news : List Value) (hl : news.length = m * 2)
    (hnews : 0 < m → ∃ ad, A = some ad ∧ ∀ j u, news[j]? = some u → w.cell? (ad.add j) = some u) (h1 : ∀ u ∈ news, u.oneCell' = true) (hN : n + m ≤ 4000000) (hbase : base ≤ w.heap.size)
    (h : ∀ v' w', OwnF w' base v' (n + m) (xs ++ news) → w.grownBy w' v.ownBlock → (v'.ownBlock = v.ownBlock ∨ v'.ownBlock = some w.heap.size) → (∀ g c, v = .slice (some ⟨g, 0, none⟩) n c → n + m ≤ c → v' = .slice (some ⟨g, 0, none⟩) (n + m) c) → wpList Try.prog ops Q rest (a.put o.dst v') w') :
    wpList Try.prog ops Q (o :: rest) a w := by
  obtain ⟨v', w', k1, k2, k3, k4, k5⟩ := run_append2 w o.type base v n xs hown A m c news hl hnews h1 hN hbase
  refine wpList_plain hgd fun K hK => ?_
  unfold Oper.wp
  simp [execOp, ho, resolve, invoke, builtin, hs, hx, k1, Result.andThen]
  exact hK _ _ (h v' w' k2 k3 k4 k5)
theorem step_append2 {E : Prop} {K : Act → World → Prop} (hgd : o.guard = none) (s x : Operand) (ho : o.op = .call { callee := .builtin .append, args := #[s, x], argTypes := #[32, 32] }) (base : Nat) (v : Value) (n : Nat) (xs : List Value) (hs : a.eval s = v) (hown : OwnF w base v n xs)
    (A : Option Addr) (m c : Nat) (hx : a.eval x = .slice A m c) (news : List Value) (hl : news.length = m * 2)
    (hnews : 0 < m → ∃ ad, A = some ad ∧ ∀ j u, news[j]? = some u → w.cell? (ad.add j) = some u) (h1 : ∀ u ∈ news, u.oneCell' = true) (hN : n + m ≤ 4000000) (hbase : base ≤ w.heap.size)
    (h : ∀ v' w', OwnF w' base v' (n + m) (xs ++ news) → w.grownBy w' v.ownBlock → (v'.ownBlock = v.ownBlock ∨ v'.ownBlock = some w.heap.size) → (∀ g c, v = .slice (some ⟨g, 0, none⟩) n c → n + m ≤ c → v' = .slice (some ⟨g, 0, none⟩) (n + m) c) → K (a.put o.dst v') w') :
    if Region.wanted o (yielded ops a.tmps) = true then Oper.wp Try.prog o a w K Q else E := by
  obtain ⟨v', w', k1, k2, k3, k4, k5⟩ := run_append2 w o.type base v n xs hown A m c news hl hnews h1 hN hbase
  have hw : Region.wanted o (yielded ops a.tmps) = true := by simp [Region.wanted, hgd]
  rw [if_pos hw]
  unfold Oper.wp
  simp [execOp, ho, resolve, invoke, builtin, hs, hx, k1, Result.andThen]
  exact h v' w' k2 k3 k4 k5
set_option maxRecDepth 100000 in
/-- append(s, make([]T, k)...) where there is no room. -/
theorem wpList_zeros2 (hgd : o.guard = none) (s x : Operand) (ho : o.op = .call { callee := .builtin .append, args := #[s, x], argTypes := #[32, 3] }) (base : Nat) (n c : Nat) (A : Option Addr) (xs : List Value) (hs : a.eval s = .slice A n c)
    (hown : OwnF w base (.slice A n c) n xs) (k N : Nat) (hNk : n + k = N) (z : Int) (hx : a.eval x = .int .i64 z) (hzk : z = (k : Int)) (h0 : 0 < k) (hg : c < n + k) (hN : n + k ≤ 4000000)
    (h : ∀ w' g cur c', g = w.heap.size → At w' g 105 cur → cur.length = c' * 2 → N ≤ c' → c' ≤ maxLen → cur.take (n * 2) = xs → Below w.heap.size w w' → wpList Try.prog ops Q rest (a.put o.dst (.slice (some ⟨g, 0, none⟩) N c')) w') :
    wpList Try.prog ops Q (o :: rest) a w := by
  subst hNk
  subst hzk
  obtain ⟨i, hi, hz, hsz, hby⟩ := rl_parts
  have hu := Try.underlying32
  have hold : (Builtin.firstCells i.size n (.slice A n c)).run Try.prog w.drew = .ok xs.toArray w.drew := by
    obtain ⟨A', c1, e, hn, hc, hxl, ho⟩ := ownF_open hown
    injection e with e1 e2 e3
    subst e1; subst e3
    rcases ho with ⟨rfl, rfl, rfl, rfl⟩ | ⟨g, cur, rfl, hb, hlt, hA, hl, ht⟩
    · simp [Builtin.firstCells]
    · have hh : ∀ j v, xs[j]? = some v → w.drew.cell? ((⟨g, 0, none⟩ : Addr).add j) = some v := fun j v hj => by
        rw [Addr.add_lit, Nat.zero_add]
        show w.cell? ⟨g, j, none⟩ = some v
        rw [hA.cell]
        rw [← ht, List.getElem?_take] at hj
        split at hj
        · exact hj
        · cases hj
      have := run_loadCells_list (P := Try.prog) w.drew ⟨g, 0, none⟩ xs hh
      rw [hxl] at this
      simp [Builtin.firstCells, hsz, this]
  have hnx : Builtin.nextslicecap (n + k) c ≤ 8 * (n + k) + 8000 := by
    have : Builtin.nextslicecap (n + k) c = n + k ∨ Builtin.nextslicecap (n + k) c ≤ 2 * c ∨ 256 ≤ c := by
      unfold Builtin.nextslicecap
      split
      · exact .inl rfl
      · split
        · exact .inr (.inl (Nat.le_refl _))
        · exact .inr (.inr (by omega))
    rcases this with h | h | h
    · omega
    · omega
    · unfold Builtin.nextslicecap
      split
      · omega
      · split
        · omega
        · simp only [Builtin.growBy]
          repeat' split
          all_goals omega
  have hrun := Lib.run_append_grow_zeros (P := Try.prog) w 32 3 o.type 105 i _ .i64 .i64 hu Try.underlying3 hi hz A n c xs hold k h0 (by omega) hg (by omega) (by rw [hby]; omega) (by rw [hby]; omega)
  refine Lib.wpList_append_run w hgd s x _ _ ho _ _ hs hx _ _ hrun ?_
  have hge := grownCap_ge w (n + k) c 105
  have hcm : grownCap w (n + k) c 105 ≤ maxLen := grownCap_le_maxLen w (n + k) c 105 (by unfold maxLen; omega)
  obtain ⟨z1, hz1, hl1, _⟩ := zero2 k
  obtain ⟨z2, hz2, hl2, _⟩ := zero2 (grownCap w (n + k) c 105 - (n + k))
  refine h _ _ (xs ++ z1 ++ z2) _ rfl ?_ ?_ hge hcm ?_ ?_
  · have : (xs.toArray ++ Builtin.zeroCells (Value.agg #[.int .u64 0, .int .u64 0]).cells k ++ Builtin.zeroCells (Value.agg #[.int .u64 0, .int .u64 0]).cells (grownCap w (n + k) c 105 - (n + k))) = (xs ++ z1 ++ z2).toArray := by
      apply Array.toList_inj.1
      simp only [Array.toList_append, hz1, hz2]
    rw [this]
    exact At.new w.drew _ _
  · simp only [List.length_append, hown.1, hl1, hl2]
    omega
  · rw [List.append_assoc]
    exact List.take_left' hown.1
  · exact ⟨rfl, rfl, rfl, by simp, fun j hj => Below.heap_alloc w.drew _ j hj⟩
end
end Go.Proofs.Ytndaikeeikimeaa
