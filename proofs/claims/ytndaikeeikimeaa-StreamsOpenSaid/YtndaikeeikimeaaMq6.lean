/-
  Rows of elements of one cell, of any such type (bytes, bools): copy, clear, append, append of zeros, as laws of a list of operations and as steps of a region that draws.
-/
import Derived.Test.YtndaikeeikimeaaMq0
import Derived.Laws.CopyOwn
import Derived.Lib.AppendZerosOnto
import Derived.Laws.IdiomCopy
import Derived.Deep.RegionHeld
import Derived.WalkKit
import Derived.Test.YtndaikeeikimeaaProg
import Derived.Lib.Overlaps
import Derived.Lib.SliceRun
import Derived.BigQuiet
import Derived.Deep.RegionLaw
import Derived.Shelf.RegionOpenPlain
namespace Go.Proofs.Ytndaikeeikimeaa
section
set_option linter.unusedVariables false
set_option linter.unusedSimpArgs false
open Go.RowKit
/-- t is a slice of T, an element of one cell and one byte whose zero is z. -/
structure OneT (P : Program) (t T : TypeId) (z : Value) : Prop where
  ht : P.underlying t = some (.slice T)
  hi : ∃ i, P.info? T = some i ∧ i.zero = some z ∧ i.size = 1 ∧ i.bytes = 1
  hz : z.cells = #[z]
  h1 : z.oneCell' = true
section
variable {P : Program} {w w' : World} {ops : Array Oper} {rest : List Oper} {o : Oper} {a : Act} {Q : Exit → Act → World → Prop} {t T : TypeId} {z : Value}
abbrev Ow (w : World) (base : Nat) (T : TypeId) (v : Value) (xs : List Value) : Prop := w.ownsRow base T 1 v xs.length xs
theorem ow_open {base : Nat} {v : Value} {xs : List Value} (h : Ow w base T v xs) : ∃ A c, v = .slice A xs.length c ∧ xs.length ≤ c ∧ c ≤ maxLen ∧
    ((A = none ∧ c = 0 ∧ xs = []) ∨ ∃ g cur, A = some ⟨g, 0, none⟩ ∧ base ≤ g ∧ g < w.heap.size ∧ At w g T cur ∧ cur.length = c ∧ cur.take xs.length = xs) := by
  rcases h.2 with ⟨rfl, h0⟩ | ⟨g, cap, cur, rfl, hb, hg, hn, hm, hs, ht⟩
  · exact ⟨none, 0, by rw [h0], by omega, by unfold maxLen; omega, .inl ⟨rfl, rfl, List.eq_nil_of_length_eq_zero h0⟩⟩
  · have hA : At w g T cur.toList := hg
    exact ⟨_, cap, rfl, hn, hm, .inr ⟨g, cur.toList, rfl, hb, hA.lt, hA, by simpa using hs, by simpa using ht⟩⟩
theorem ow_mk {base g c : Nat} {cur xs : List Value} (hb : base ≤ g) (hA : At w g T cur) (hn : xs.length ≤ c) (hc : c ≤ maxLen) (hl : cur.length = c) (ht : cur.take xs.length = xs) : Ow w base T (.slice (some ⟨g, 0, none⟩) xs.length c) xs :=
  ⟨by simp, .inr ⟨g, c, cur.toArray, rfl, hb, hA, hn, hc, by simpa using hl, by simpa using ht⟩⟩
theorem ow_nil (w : World) (base : Nat) (T : TypeId) : Ow w base T (.slice none 0 0) [] := ⟨rfl, .inl ⟨rfl, rfl⟩⟩
theorem ow_lt {base : Nat} {v : Value} {xs : List Value} (h : Ow w base T v xs) : ∀ k, v.ownBlock = some k → base ≤ k ∧ k < w.heap.size := by
  obtain ⟨A, c, rfl, _, _, h⟩ := ow_open h
  intro k hk
  rcases h with ⟨rfl, _⟩ | ⟨g, cur, rfl, hb, hlt, _⟩
  · cases hk
  · injection hk with hk
    subst hk
    exact ⟨hb, hlt⟩
theorem ow_keep {base : Nat} {v : Value} {xs : List Value} (h : Ow w base T v xs) (hk : ∀ k, v.ownBlock = some k → w'.heap[k]? = w.heap[k]?) : Ow w' base T v xs := by
  refine ⟨h.1, ?_⟩
  rcases h.2 with h0 | ⟨g, cap, cur, rfl, hb, hg, hr⟩
  · exact .inl h0
  · exact .inr ⟨g, cap, cur, rfl, hb, (hk g rfl).trans hg, hr⟩
theorem ow_kept {S : Nat → Prop} {base : Nat} {v : Value} {xs : List Value} (h : Ow w base T v xs) (k : Kept S w w') (hs : ∀ j, v.ownBlock = some j → ¬ S j) : Ow w' base T v xs := ow_keep h fun j hj => k.block j (ow_lt h j hj).2 (hs j hj)
theorem ow_cut {base n c i : Nat} {A : Option Addr} {xs : List Value} (h : Ow w base T (.slice A n c) xs) (hn : xs.length = n) (hi : i ≤ n) : Ow w base T (.slice A i c) (xs.take i) := by
  obtain ⟨A', c', e, hnc, hcm, ho⟩ := ow_open h
  injection e with e1 e2 e3
  subst e1; subst e3
  have hl : (xs.take i).length = i := by simp; omega
  rcases ho with ⟨rfl, rfl, rfl⟩ | ⟨g, cur, rfl, hb, hlt, hA, hcl, ht⟩
  · obtain rfl : i = 0 := by simp at hn; omega
    exact ow_nil _ _ _
  · have := ow_mk (base := base) (xs := xs.take i) (c := c) hb hA (by omega) hcm hcl (by rw [hl]; rw [← ht, List.take_take]; congr 1; omega)
    rw [hl] at this
    exact this
theorem grown_kept {v : Value} (h : w.grownBy w' v.ownBlock) : Kept (fun b => v.ownBlock = some b) w w' := Kept.of_grown h fun k hk => .inl hk
theorem splice1_nil (l : List Value) (o : Nat) : splice l o [] = l := by simp [splice]
theorem run_copy1 (O : OneT P t T z) (w : World) (ty : TypeId) (dp sp : Option Addr) (dLen dCap sLen sCap g off : Nat) (cur : List Value) (T' : TypeId) (cs : List Value)
    (hA : At w g T' cur) (hn : cs.length = Nat.min sLen dLen) (hd : 0 < cs.length → dp = some ⟨g, off, none⟩) (hs : 0 < cs.length → ∃ ad, sp = some ad ∧ ∀ j v, cs[j]? = some v → w.cell? (ad.add j) = some v)
    (hfit : off + cs.length ≤ cur.length) (h1 : ∀ v ∈ cs, v.oneCell' = true) :
    ∃ w', (Builtin.copy_ #[t, t] ty #[.slice dp dLen dCap, .slice sp sLen sCap]).run P w = .ok (goInt (Nat.min sLen dLen)) w' ∧ At w' g T' (splice cur off cs) ∧ Kept (· = g) w w' := by
  obtain ⟨i, hi, hz, hsz, hby⟩ := O.hi
  have hu := O.ht
  by_cases h0 : cs.length = 0
  · obtain rfl : cs = [] := List.eq_nil_of_length_eq_zero h0
    have hm : Nat.min sLen dLen = 0 := by
      have : 0 = Nat.min sLen dLen := hn
      omega
    refine ⟨w, ?_, by rw [splice1_nil]; exact hA, Kept.refl _ _⟩
    cases dp <;> cases sp <;> simp [Builtin.copy_, run_underlying hu, Builtin.lenOf, Builtin.firstCells, sizeOf, typeInfo, hi, hsz, hm, loadCells, loadCellsFrom, storeCells]
  · obtain ⟨ad, rfl, hc⟩ := hs (by omega)
    obtain rfl := hd (by omega)
    have hl := run_loadCells_list (P := P) w ad cs hc
    have hst := run_storeCells_at P g off T' cs 0 cur.toArray w hA (by simpa using hfit) h1
    refine ⟨w.setRow g (splice cur off cs).toArray, ?_, ?_, ?_⟩
    · simp only [Nat.add_zero, List.append_assoc] at hst
      have hn2 : Nat.min sLen dLen = cs.length := hn.symm
      simp [Builtin.copy_, run_underlying hu, Builtin.lenOf, Builtin.firstCells, sizeOf, typeInfo, hi, hsz, hn2, hl, hst, splice]
    · exact setRow_heap w g _ _ T' _ hA
    · exact ⟨rfl, rfl, rfl, by simp [World.setRow], fun k hk hne => setRow_other w g k _ hne⟩
theorem step_copy1 (O : OneT P t T z) {E : Prop} {K : Act → World → Prop} (hgd : o.guard = none) (d x : Operand) (hop : o.op = Op.call { callee := Callee.builtin Builtin.copy, args := #[d, x], argTypes := #[t, t] })
    (dp sp : Option Addr) (dLen dCap sLen sCap g off : Nat) (cur : List Value) (T' : TypeId) (cs : List Value) (hd : a.eval d = .slice dp dLen dCap) (hx : a.eval x = .slice sp sLen sCap)
    (hA : At w g T' cur) (hn : cs.length = Nat.min sLen dLen) (hdp : 0 < cs.length → dp = some ⟨g, off, none⟩) (hs : 0 < cs.length → ∃ ad, sp = some ad ∧ ∀ j v, cs[j]? = some v → w.cell? (ad.add j) = some v)
    (hfit : off + cs.length ≤ cur.length) (h1 : ∀ v ∈ cs, v.oneCell' = true)
    (hK : ∀ w', At w' g T' (splice cur off cs) → Kept (· = g) w w' → K (a.put o.dst (goInt (Nat.min sLen dLen))) w') :
    if Region.wanted o (yielded ops a.tmps) = true then Oper.wp P o a w K Q else E := by
  obtain ⟨w', hr, h2, h3⟩ := run_copy1 O w o.type dp sp dLen dCap sLen sCap g off cur T' cs hA hn hdp hs hfit h1
  have hw : Region.wanted o (yielded ops a.tmps) = true := by simp [Region.wanted, hgd]
  rw [if_pos hw]
  unfold Oper.wp
  simp [execOp, hop, resolve, invoke, builtin, hd, hx, hr, Result.andThen]
  exact hK w' h2 h3
theorem zeros1 (O : OneT P t T z) (n : Nat) : (Builtin.zeroCells z.cells n).toList = List.replicate n z := by
  rw [O.hz]
  apply List.ext_getElem?
  intro j
  rw [Array.getElem?_toList]
  unfold Builtin.zeroCells
  rcases Nat.lt_or_ge j n with h | h
  · simp [h, Nat.mod_one]
  · simp [Nat.not_lt.2 h]
theorem run_clear1 (O : OneT P t T z) (w : World) (ty : TypeId) (A : Option Addr) (n c g off : Nat) (cur : List Value) (T' : TypeId) (hA : At w g T' cur) (hd : 0 < n → A = some ⟨g, off, none⟩) (hfit : off + n ≤ cur.length) :
    ∃ w', (Builtin.clear_ #[t] ty #[.slice A n c]).run P w = .ok (.tuple #[]) w' ∧ At w' g T' (splice cur off (List.replicate n z)) ∧ Kept (· = g) w w' := by
  obtain ⟨i, hi, hz, hsz, hby⟩ := O.hi
  have hu := O.ht
  have hzs := zeros1 O n
  by_cases h0 : n = 0
  · subst h0
    refine ⟨w, ?_, by rw [List.replicate_zero, splice1_nil]; exact hA, Kept.refl _ _⟩
    cases A <;> simp [Builtin.clear_, run_underlying hu, zeroValue, typeInfo, hi, hz, storeCells, Builtin.zeroCells]
  · obtain rfl := hd (by omega)
    have hst := run_storeCells_at P g off T' (List.replicate n z) 0 cur.toArray w hA (by simpa using hfit) (fun v hv => by rw [List.eq_of_mem_replicate hv]; exact O.h1)
    refine ⟨w.setRow g (splice cur off (List.replicate n z)).toArray, ?_, setRow_heap w g _ _ T' _ hA, ⟨rfl, rfl, rfl, by simp [World.setRow], fun k hk hne => setRow_other w g k _ hne⟩⟩
    simp only [Nat.add_zero, List.append_assoc] at hst
    obtain ⟨m, rfl⟩ : ∃ m, n = m + 1 := ⟨n - 1, by omega⟩
    simp only [Builtin.clear_, run_underlying hu, zeroValue, typeInfo, hi, hz, hzs, Sem.run_bind, Sem.run_pure, Result.andThen_ok]
    simp [Builtin.clear_, run_underlying hu, zeroValue, typeInfo, hi, hz, hzs, hst, splice]
theorem wpList_clear1 (O : OneT P t T z) (hgd : o.guard = none) (d : Operand) (hop : o.op = Op.call { callee := Callee.builtin Builtin.clear, args := #[d], argTypes := #[t] })
    (A : Option Addr) (n c g off : Nat) (cur : List Value) (T' : TypeId) (hd : a.eval d = .slice A n c) (hA : At w g T' cur) (hdp : 0 < n → A = some ⟨g, off, none⟩) (hfit : off + n ≤ cur.length)
    (h : ∀ w', At w' g T' (splice cur off (List.replicate n z)) → Kept (· = g) w w' → wpList P ops Q rest (a.put o.dst (.tuple #[])) w') : wpList P ops Q (o :: rest) a w := by
  obtain ⟨w', hr, h2, h3⟩ := run_clear1 O w o.type A n c g off cur T' hA hdp hfit
  refine wpList_plain hgd fun K hK => ?_
  unfold Oper.wp
  simp [execOp, hop, resolve, invoke, builtin, hd, hr, Result.andThen]
  exact hK _ _ (h w' h2 h3)
/-- append of elements that stand anywhere. -/
theorem run_app1 (O : OneT P t T z) (w : World) (ty : TypeId) (base : Nat) (v : Value) (xs : List Value) (hown : Ow w base T v xs) (A : Option Addr) (m c : Nat) (news : List Value) (hl : news.length = m)
    (hnews : 0 < m → ∃ ad, A = some ad ∧ ∀ j u, news[j]? = some u → w.cell? (ad.add j) = some u) (h1 : ∀ u ∈ news, u.oneCell' = true) (hN : xs.length + m ≤ 70368744177664) (hbase : base ≤ w.heap.size) :
    ∃ v' w', (Builtin.append_ #[t, t] ty #[v, .slice A m c]).run P w = .ok v' w' ∧ Ow w' base T v' (xs ++ news) ∧ w.grownBy w' v.ownBlock ∧ (v'.ownBlock = v.ownBlock ∨ v'.ownBlock = some w.heap.size) ∧
      (∀ g n c, v = .slice (some ⟨g, 0, none⟩) n c → n + m ≤ c → v' = .slice (some ⟨g, 0, none⟩) (n + m) c) := by
  obtain ⟨i, hi, hz, hsz, hby⟩ := O.hi
  have hu := O.ht
  by_cases h0 : m = 0
  · subst h0
    obtain rfl : news = [] := List.eq_nil_of_length_eq_zero hl
    have hown0 := hown
    obtain ⟨A', c', rfl, hn, hc, ho⟩ := ow_open hown
    refine ⟨_, w, ?_, by rw [List.append_nil]; exact hown0, ⟨rfl, rfl, rfl, Nat.le_refl _, fun _ _ _ => rfl⟩, .inl rfl, fun g n c e _ => e⟩
    cases A <;> cases A' <;> simp [Builtin.append_, run_underlying hu, sizeOf, typeInfo, hi, hsz, Builtin.lenOf, Builtin.firstCells, loadCells, loadCellsFrom, hn, storeCells]
  · obtain ⟨ad, rfl, hc⟩ := hnews (by omega)
    have hz1 : z.cells.size = 1 := by rw [O.hz]; rfl
    obtain ⟨v', w', k1, k2, k3, _, k5⟩ := run_append_own_at (P := P) (w := w) base t ty T i _ 1 1 hu hi hz hsz hby hz1 (by omega) v xs.length xs hown ad m c news (by omega) hc h1 (by unfold maxLen; omega) (by omega) hbase
    refine ⟨v', w', k1, by show w'.ownsRow base T 1 v' (xs ++ news).length _; rw [show (xs ++ news).length = xs.length + m by rw [List.length_append, hl]]; exact k2, k3, k5, ?_⟩
    rintro g n c' rfl hfit
    have hl2 := run_loadCells_list (P := P) w ad news hc
    rcases hown.2 with ⟨h0, _⟩ | ⟨g1, cap, cur, hv, hbg, hg, hnc, hcm, hcs, htake⟩
    · cases h0
    · injection hv with e1 e2 e3
      injection e1 with e1
      injection e1 with e1
      subst e1; subst e3; subst e2
      have hst := run_storeCells_at P g xs.length _ news 0 cur w hg (by rw [hcs, hl]; omega) h1
      have had : (⟨g, 0, none⟩ : Addr).add xs.length = ⟨g, xs.length, none⟩ := by rw [Addr.add_lit, Nat.zero_add]
      have hrun : (Builtin.append_ #[t, t] ty #[.slice (some ⟨g, 0, none⟩) xs.length c', .slice (some ad) m c]).run P w = .ok (.slice (some ⟨g, 0, none⟩) (xs.length + m) c') (w.setRow g (cur.toList.take (xs.length + 0) ++ news ++ cur.toList.drop (xs.length + 0 + news.length)).toArray) := by
        subst hl
        simp only [Builtin.append_, run_underlying hu, sizeOf, typeInfo, hi, hsz, Builtin.lenOf, Builtin.firstCells, Nat.mul_one, hl2, had, hst, Sem.run_bind, Sem.run_pure, Result.andThen_ok]
        simp [Builtin.append_, run_underlying hu, sizeOf, typeInfo, hi, hsz, Builtin.lenOf, Builtin.firstCells, hfit, hl2, had, hst]
      rw [hrun] at k1
      injection k1 with k1 _
      exact k1.symm
theorem step_app1 (O : OneT P t T z) {E : Prop} {K : Act → World → Prop} (hgd : o.guard = none) (s x : Operand) (ho : o.op = .call { callee := .builtin .append, args := #[s, x], argTypes := #[t, t] }) (base : Nat) (v : Value) (xs : List Value) (hs : a.eval s = v) (hown : Ow w base T v xs)
    (A : Option Addr) (m c : Nat) (hx : a.eval x = .slice A m c) (news : List Value) (hl : news.length = m)
    (hnews : 0 < m → ∃ ad, A = some ad ∧ ∀ j u, news[j]? = some u → w.cell? (ad.add j) = some u) (h1 : ∀ u ∈ news, u.oneCell' = true) (hN : xs.length + m ≤ 70368744177664) (hbase : base ≤ w.heap.size)
    (h : ∀ v' w', Ow w' base T v' (xs ++ news) → w.grownBy w' v.ownBlock → (v'.ownBlock = v.ownBlock ∨ v'.ownBlock = some w.heap.size) → (∀ g n c, v = .slice (some ⟨g, 0, none⟩) n c → n + m ≤ c → v' = .slice (some ⟨g, 0, none⟩) (n + m) c) → K (a.put o.dst v') w') :
    if Region.wanted o (yielded ops a.tmps) = true then Oper.wp P o a w K Q else E := by
  obtain ⟨v', w', k1, k2, k3, k4, k5⟩ := run_app1 O w o.type base v xs hown A m c news hl hnews h1 hN hbase
  have hw : Region.wanted o (yielded ops a.tmps) = true := by simp [Region.wanted, hgd]
  rw [if_pos hw]
  unfold Oper.wp
  simp [execOp, ho, resolve, invoke, builtin, hs, hx, k1, Result.andThen]
  exact h v' w' k2 k3 k4 k5
/-- append(s, make([]T, k)...), whether there is room or not. -/
theorem wpList_zeros1 (O : OneT P t T z) (ti : TypeId) (hti : P.underlying ti = some (.int .i64)) (hgd : o.guard = none) (s x : Operand) (ho : o.op = .call { callee := .builtin .append, args := #[s, x], argTypes := #[t, ti] }) (base n c : Nat) (A : Option Addr) (xs : List Value) (hs : a.eval s = .slice A n c)
    (hown : Ow w base T (.slice A n c) xs) (hn : xs.length = n) (k : Nat) (hx : a.eval x = .int .i64 (k : Int)) (h0 : 0 < k) (hN : n + k ≤ 70368744177664) (hbase : base ≤ w.heap.size)
    (h : ∀ w' g c', Ow w' base T (.slice (some ⟨g, 0, none⟩) (n + k) c') (xs ++ List.replicate k z) → n + k ≤ c' → c' ≤ maxLen → base ≤ g → g < w'.heap.size → w.grownBy w' (Value.slice A n c).ownBlock → (A = some ⟨g, 0, none⟩ ∨ g = w.heap.size) → wpList P ops Q rest (a.put o.dst (.slice (some ⟨g, 0, none⟩) (n + k) c')) w') :
    wpList P ops Q (o :: rest) a w := by
  subst hn
  obtain ⟨i, hi, hz, hsz, hby⟩ := O.hi
  have hu := O.ht
  have hz1 : ∀ v ∈ List.replicate k z, v.oneCell' = true := fun v hv => by rw [List.eq_of_mem_replicate hv]; exact O.h1
  have hown0 := hown
  obtain ⟨A', c', e, hnc, hcm, hoo⟩ := ow_open hown
  injection e with e1 _ e3
  subst e1; subst e3
  by_cases hr : xs.length + k ≤ c
  · rcases hoo with ⟨_, h2, _⟩ | ⟨g, cur, rfl, hbg, hlt, hA, hl, ht⟩
    · omega
    · have hst := run_storeCells_at P g xs.length T (List.replicate k z) 0 cur.toArray w hA (by simp; omega) hz1
      have had : (⟨g, 0, none⟩ : Addr).add xs.length = ⟨g, xs.length, none⟩ := by rw [Addr.add_lit, Nat.zero_add]
      have hzc := zeros1 O k
      have hw : IntKind.i64.wrap (k : Int) = k := by rw [IntKind.wrap_i64]; omega
      have hneg : ¬ ((k : Int) < 0) := by omega
      have h48i : ¬ (281474976710656 < (k : Int)) := by omega
      have hns : ¬ k = 0 := by omega
      have hrun : (Builtin.append_ #[t, ti] o.type #[.slice (some ⟨g, 0, none⟩) xs.length c, .int .i64 k]).run P w = .ok (.slice (some ⟨g, 0, none⟩) (xs.length + k) c) (w.setRow g (cur.take (xs.length + 0) ++ List.replicate k z ++ cur.drop (xs.length + 0 + (List.replicate k z).length)).toArray) := by
        simp [Builtin.append_, run_underlying hu, run_underlying hti, sizeOf, typeInfo, zeroValue, hi, hz, asInt, asIntOf, hw, hneg, hsz, hby, h48i, hns, hr, hzc, had]
        simp at hst
        rw [hst]
        rfl
      have hX : ∀ W : List Value, At (w.setRow g W.toArray) g T W := fun W => setRow_heap w g _ _ T _ hA
      refine Lib.wpList_append_run w hgd s x t ti ho _ _ hs hx _ _ hrun (h _ _ _ ?_ hr hcm hbg (by simpa [World.setRow] using hlt) ⟨rfl, rfl, rfl, by simp [World.setRow], fun q hq hne => setRow_other w g q _ (fun e => hne (by rw [e]; rfl))⟩ (.inl rfl))
      have hle : (xs ++ List.replicate k z).length = xs.length + k := by simp
      have := ow_mk (base := base) (xs := xs ++ List.replicate k z) (c := c) hbg (hX (cur.take (xs.length + 0) ++ List.replicate k z ++ cur.drop (xs.length + 0 + (List.replicate k z).length))) (by omega) hcm (by simp; omega) (by
        rw [hle, Nat.add_zero, ht]
        rw [List.take_append_of_le_length (by simp), List.take_of_length_le (by simp)])
      rw [hle] at this
      exact this
  · have hold : (Builtin.firstCells i.size xs.length (.slice A xs.length c)).run P w.drew = .ok xs.toArray w.drew := by
      rcases hoo with ⟨rfl, rfl, rfl⟩ | ⟨g, cur, rfl, hbg, hlt, hA, hl, ht⟩
      · simp [Builtin.firstCells]
      · have hh : ∀ j v, xs[j]? = some v → w.drew.cell? ((⟨g, 0, none⟩ : Addr).add j) = some v := fun j v hj => by
          rw [Addr.add_lit, Nat.zero_add]
          show w.cell? ⟨g, j, none⟩ = some v
          rw [hA.cell]
          rw [← ht, List.getElem?_take] at hj
          split at hj
          · exact hj
          · cases hj
        have := run_loadCells_list (P := P) w.drew ⟨g, 0, none⟩ xs hh
        simp [Builtin.firstCells, hsz, this]
    have hrun := Lib.run_append_grow_zeros (P := P) w t ti o.type T i z .i64 .i64 hu hti hi hz A xs.length c xs hold k h0 (by omega) (by omega) (by omega) (by rw [hby]; omega) (growslice_fits (by omega) (by rw [hby]; omega))
    refine Lib.wpList_append_run w hgd s x _ _ ho _ _ hs hx _ _ hrun ?_
    have hge := grownCap_ge w (xs.length + k) c T
    have hcm2 : grownCap w (xs.length + k) c T ≤ maxLen := grownCap_le_maxLen w (xs.length + k) c T (by unfold maxLen; omega)
    have hcells : (xs.toArray ++ Builtin.zeroCells z.cells k ++ Builtin.zeroCells z.cells (grownCap w (xs.length + k) c T - (xs.length + k))) = (xs ++ List.replicate k z ++ List.replicate (grownCap w (xs.length + k) c T - (xs.length + k)) z).toArray := by
      apply Array.toList_inj.1
      simp only [Array.toList_append, zeros1 O]
    refine h _ _ _ ?_ hge hcm2 hbase (by simp) ⟨rfl, rfl, rfl, by simp, fun q hq _ => Below.heap_alloc w.drew _ q hq⟩ (.inr rfl)
    rw [hcells]
    have hle : (xs ++ List.replicate k z).length = xs.length + k := by simp
    have := ow_mk (w := w.drew.alloc (.cells (xs ++ List.replicate k z ++ List.replicate (grownCap w (xs.length + k) c T - (xs.length + k)) z).toArray T)) (base := base) (g := w.heap.size) (xs := xs ++ List.replicate k z) (c := grownCap w (xs.length + k) c T) hbase (At.new w.drew _ _) (by omega) hcm2 (by simp; omega) (by
      rw [hle, List.take_append_of_le_length (by simp), List.take_of_length_le (by simp)])
    rw [hle] at this
    exact this
end
theorem own_ow {w : World} {base : Nat} {T : TypeId} {v : Value} {bs : List Int} (h : Own w base T v bs) : Ow w base T v (bs.map (Value.int .u8)) := by
  unfold Ow
  rw [List.length_map]
  exact h.1
theorem ow_own {w : World} {base : Nat} {T : TypeId} {v : Value} {bs : List Int} (h : Ow w base T v (bs.map (Value.int .u8))) (hb : Byt bs) : Own w base T v bs := by
  unfold Ow at h
  rw [List.length_map] at h
  exact ⟨h, hb⟩
end
section
set_option linter.unusedVariables false
set_option linter.unusedSimpArgs false
open Go.RowKit
theorem i8_info : (Try.prog.info? 5).map (fun i => (i.zero, i.size, i.bytes)) = some (some (.int .u8 0), 1, 1) := by kernel_rfl
theorem o8 : OneT Try.prog 31 5 (.int .u8 0) := by
  obtain ⟨i, hi, h⟩ : ∃ i, Try.prog.info? 5 = some i ∧ i.zero = some (.int .u8 0) ∧ i.size = 1 ∧ i.bytes = 1 := by
    have hI := i8_info
    cases hq : Try.prog.info? 5 with
    | none => rw [hq] at hI; cases hI
    | some i =>
      rw [hq] at hI
      simp only [Option.map_some, Option.some.injEq, Prod.mk.injEq] at hI
      exact ⟨i, rfl, hI⟩
  exact ⟨Try.underlying31, ⟨i, hi, h⟩, rfl, rfl⟩
theorem rd_src {w : World} {B n : Nat} {A : Option Addr} {bs : List Int} (h : Rd w B A n bs) : 0 < n → ∃ ad, A = some ad ∧ ∀ j u, (bs.map (Value.int .u8))[j]? = some u → w.cell? (ad.add j) = some u := fun h0 => h.cells h0
end
end Go.Proofs.Ytndaikeeikimeaa
