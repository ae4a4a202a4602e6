/-
  Rows of elements of one cell, of any such type (bytes, bools): copy, clear, append, append of zeros, as laws of a list of operations and as steps of a region that draws.
-/
import Derived.Test.YtbejpafephofaaaGreatMq0
import Derived.Laws.CopyOwn
import Derived.Lib.AppendZerosOnto
import Derived.Laws.IdiomCopy
import Derived.Deep.RegionHeld
import Derived.WalkKit
import Derived.Test.YtbejpafephofaaaGreatProg
import Derived.Lib.Overlaps
import Derived.Lib.SliceRun
import Derived.BigQuiet
import Derived.Deep.RegionLaw
import Derived.Shelf.RegionOpenPlain
namespace Go.Proofs.YtbejpafephofaaaGreat
section
set_option linter.unusedVariables false
set_option linter.unusedSimpArgs false
open Go.RowKit
/-- t is a slice of T, an element of one cell and one byte whose zero is z. -/
structure OneT (P : Program) (t T : TypeId) (z : Value) : Prop where
  ht : P.underlying t = some (.slice T)
  hi : ∃ i, P.info? T = some i ∧ i.zero = some z ∧ i.size = 1 ∧ i.bytes = 1
  hz : z.cells = #[z]
  h1 : z.oneCell' = true
section
variable {P : Program} {w w' : World} {ops : Array Oper} {rest : List Oper} {o : Oper} {a : Act} {Q : Exit → Act → World → Prop} {t T : TypeId} {z : Value}
abbrev Ow (w : World) (base : Nat) (T : TypeId) (v : Value) (xs : List Value) : Prop := w.ownsRow base T 1 v xs.length xs
theorem ow_open {base : Nat} {v : Value} {xs : List Value} (h : Ow w base T v xs) : ∃ A c, v = .slice A xs.length c ∧ xs.length ≤ c ∧ c ≤ maxLen ∧
    ((A = none ∧ c = 0 ∧ xs = []) ∨ ∃ g cur, A = some ⟨g, 0, none⟩ ∧ base ≤ g ∧ g < w.heap.size ∧ At w g T cur ∧ cur.length = c ∧ cur.take xs.length = xs) := by
  rcases h.2 with ⟨rfl, h0⟩ | ⟨g, cap, cur, rfl, hb, hg, hn, hm, hs, ht⟩
  · exact ⟨none, 0, by rw [h0], by omega, by unfold maxLen; omega, .inl ⟨rfl, rfl, List.eq_nil_of_length_eq_zero h0⟩⟩
  · have hA : At w g T cur.toList := hg
    exact ⟨_, cap, rfl, hn, hm, .inr ⟨g, cur.toList, rfl, hb, hA.lt, hA, by simpa using hs, by simpa using ht⟩⟩
theorem ow_mk {base g c : Nat} {cur xs : List Value} (hb : base ≤ g) (hA : At w g T cur) (hn : xs.length ≤ c) (hc : c ≤ maxLen) (hl : cur.length = c) (ht : cur.take xs.length = xs) : Ow w base T (.slice (some ⟨g, 0, none⟩) xs.length c) xs :=
  ⟨by simp, .inr ⟨g, c, cur.toArray, rfl, hb, hA, hn, hc, by simpa using hl, by simpa using ht⟩⟩
theorem ow_nil (w : World) (base : Nat) (T : TypeId) : Ow w base T (.slice none 0 0) [] := ⟨rfl, .inl ⟨rfl, rfl⟩⟩
theorem ow_lt {base : Nat} {v : Value} {xs : List Value} (h : Ow w base T v xs) : ∀ k, v.ownBlock = some k → base ≤ k ∧ k < w.heap.size := by
  obtain ⟨A, c, rfl, _, _, h⟩ := ow_open h
  intro k hk
  rcases h with ⟨rfl, _⟩ | ⟨g, cur, rfl, hb, hlt, _⟩
  · cases hk
  · injection hk with hk
    subst hk
    exact ⟨hb, hlt⟩
theorem ow_keep {base : Nat} {v : Value} {xs : List Value} (h : Ow w base T v xs) (hk : ∀ k, v.ownBlock = some k → w'.heap[k]? = w.heap[k]?) : Ow w' base T v xs := by
  refine ⟨h.1, ?_⟩
  rcases h.2 with h0 | ⟨g, cap, cur, rfl, hb, hg, hr⟩
  · exact .inl h0
  · exact .inr ⟨g, cap, cur, rfl, hb, (hk g rfl).trans hg, hr⟩
theorem ow_kept {S : Nat → Prop} {base : Nat} {v : Value} {xs : List Value} (h : Ow w base T v xs) (k : Kept S w w') (hs : ∀ j, v.ownBlock = some j → ¬ S j) : Ow w' base T v xs := ow_keep h fun j hj => k.block j (ow_lt h j hj).2 (hs j hj)
theorem ow_cut {base n c i : Nat} {A : Option Addr} {xs : List Value} (h : Ow w base T (.slice A n c) xs) (hn : xs.length = n) (hi : i ≤ n) : Ow w base T (.slice A i c) (xs.take i) := by
  obtain ⟨A', c', e, hnc, hcm, ho⟩ := ow_open h
  injection e with e1 e2 e3
  subst e1; subst e3
  have hl : (xs.take i).length = i := by simp; omega
  rcases ho with ⟨rfl, rfl, rfl⟩ | ⟨g, cur, rfl, hb, hlt, hA, hcl, ht⟩
  · obtain rfl : i = 0 := by simp at hn; omega
    exact ow_nil _ _ _
  · have := ow_mk (base := base) (xs := xs.take i) (c := c) hb hA (by omega) hcm hcl (by rw [hl]; rw [← ht, List.take_take]; congr 1; omega)
    rw [hl] at this
    exact this
theorem grown_kept {v : Value} (h : w.grownBy w' v.ownBlock) : Kept (fun b => v.ownBlock = some b) w w' := Kept.of_grown h fun k hk => .inl hk
theorem splice1_nil (l : List Value) (o : Nat) : splice l o [] = l := by simp [splice]
theorem zeros1 (O : OneT P t T z) (n : Nat) : (Builtin.zeroCells z.cells n).toList = List.replicate n z := by
  rw [O.hz]
  apply List.ext_getElem?
  intro j
  rw [Array.getElem?_toList]
  unfold Builtin.zeroCells
  rcases Nat.lt_or_ge j n with h | h
  · simp [h, Nat.mod_one]
  · simp [Nat.not_lt.2 h]
theorem run_clear1 (O : OneT P t T z) (w : World) (ty : TypeId) (A : Option Addr) (n c g off : Nat) (cur : List Value) (T' : TypeId) (hA : At w g T' cur) (hd : 0 < n → A = some ⟨g, off, none⟩) (hfit : off + n ≤ cur.length) :
    ∃ w', (Builtin.clear_ #[t] ty #[.slice A n c]).run P w = .ok (.tuple #[]) w' ∧ At w' g T' (splice cur off (List.replicate n z)) ∧ Kept (· = g) w w' := by
  obtain ⟨i, hi, hz, hsz, hby⟩ := O.hi
  have hu := O.ht
  have hzs := zeros1 O n
  by_cases h0 : n = 0
  · subst h0
    refine ⟨w, ?_, by rw [List.replicate_zero, splice1_nil]; exact hA, Kept.refl _ _⟩
    cases A <;> simp [Builtin.clear_, run_underlying hu, zeroValue, typeInfo, hi, hz, storeCells, Builtin.zeroCells]
  · obtain rfl := hd (by omega)
    have hst := run_storeCells_at P g off T' (List.replicate n z) 0 cur.toArray w hA (by simpa using hfit) (fun v hv => by rw [List.eq_of_mem_replicate hv]; exact O.h1)
    refine ⟨w.setRow g (splice cur off (List.replicate n z)).toArray, ?_, setRow_heap w g _ _ T' _ hA, ⟨rfl, rfl, rfl, by simp [World.setRow], fun k hk hne => setRow_other w g k _ hne⟩⟩
    simp only [Nat.add_zero, List.append_assoc] at hst
    obtain ⟨m, rfl⟩ : ∃ m, n = m + 1 := ⟨n - 1, by omega⟩
    simp only [Builtin.clear_, run_underlying hu, zeroValue, typeInfo, hi, hz, hzs, Sem.run_bind, Sem.run_pure, Result.andThen_ok]
    simp [Builtin.clear_, run_underlying hu, zeroValue, typeInfo, hi, hz, hzs, hst, splice]
theorem wpList_clear1 (O : OneT P t T z) (hgd : o.guard = none) (d : Operand) (hop : o.op = Op.call { callee := Callee.builtin Builtin.clear, args := #[d], argTypes := #[t] })
    (A : Option Addr) (n c g off : Nat) (cur : List Value) (T' : TypeId) (hd : a.eval d = .slice A n c) (hA : At w g T' cur) (hdp : 0 < n → A = some ⟨g, off, none⟩) (hfit : off + n ≤ cur.length)
    (h : ∀ w', At w' g T' (splice cur off (List.replicate n z)) → Kept (· = g) w w' → wpList P ops Q rest (a.put o.dst (.tuple #[])) w') : wpList P ops Q (o :: rest) a w := by
  obtain ⟨w', hr, h2, h3⟩ := run_clear1 O w o.type A n c g off cur T' hA hdp hfit
  refine wpList_plain hgd fun K hK => ?_
  unfold Oper.wp
  simp [execOp, hop, resolve, invoke, builtin, hd, hr, Result.andThen]
  exact hK _ _ (h w' h2 h3)
/-- append of elements that stand anywhere. -/
theorem run_app1 (O : OneT P t T z) (w : World) (ty : TypeId) (base : Nat) (v : Value) (xs : List Value) (hown : Ow w base T v xs) (A : Option Addr) (m c : Nat) (news : List Value) (hl : news.length = m)
    (hnews : 0 < m → ∃ ad, A = some ad ∧ ∀ j u, news[j]? = some u → w.cell? (ad.add j) = some u) (h1 : ∀ u ∈ news, u.oneCell' = true) (hN : xs.length + m ≤ 70368744177664) (hbase : base ≤ w.heap.size) :
    ∃ v' w', (Builtin.append_ #[t, t] ty #[v, .slice A m c]).run P w = .ok v' w' ∧ Ow w' base T v' (xs ++ news) ∧ w.grownBy w' v.ownBlock ∧ (v'.ownBlock = v.ownBlock ∨ v'.ownBlock = some w.heap.size) ∧
      (∀ g n c, v = .slice (some ⟨g, 0, none⟩) n c → n + m ≤ c → v' = .slice (some ⟨g, 0, none⟩) (n + m) c) := by
  obtain ⟨i, hi, hz, hsz, hby⟩ := O.hi
  have hu := O.ht
  by_cases h0 : m = 0
  · subst h0
    obtain rfl : news = [] := List.eq_nil_of_length_eq_zero hl
    have hown0 := hown
    obtain ⟨A', c', rfl, hn, hc, ho⟩ := ow_open hown
    refine ⟨_, w, ?_, by rw [List.append_nil]; exact hown0, ⟨rfl, rfl, rfl, Nat.le_refl _, fun _ _ _ => rfl⟩, .inl rfl, fun g n c e _ => e⟩
    cases A <;> cases A' <;> simp [Builtin.append_, run_underlying hu, sizeOf, typeInfo, hi, hsz, Builtin.lenOf, Builtin.firstCells, loadCells, loadCellsFrom, hn, storeCells]
  · obtain ⟨ad, rfl, hc⟩ := hnews (by omega)
    have hz1 : z.cells.size = 1 := by rw [O.hz]; rfl
    obtain ⟨v', w', k1, k2, k3, _, k5⟩ := run_append_own_at (P := P) (w := w) base t ty T i _ 1 1 hu hi hz hsz hby hz1 (by omega) v xs.length xs hown ad m c news (by omega) hc h1 (by unfold maxLen; omega) (by omega) hbase
    refine ⟨v', w', k1, by show w'.ownsRow base T 1 v' (xs ++ news).length _; rw [show (xs ++ news).length = xs.length + m by rw [List.length_append, hl]]; exact k2, k3, k5, ?_⟩
    rintro g n c' rfl hfit
    have hl2 := run_loadCells_list (P := P) w ad news hc
    rcases hown.2 with ⟨h0, _⟩ | ⟨g1, cap, cur, hv, hbg, hg, hnc, hcm, hcs, htake⟩
    · cases h0
    · injection hv with e1 e2 e3
      injection e1 with e1
      injection e1 with e1
      subst e1; subst e3; subst e2
      have hst := run_storeCells_at P g xs.length _ news 0 cur w hg (by rw [hcs, hl]; omega) h1
      have had : (⟨g, 0, none⟩ : Addr).add xs.length = ⟨g, xs.length, none⟩ := by rw [Addr.add_lit, Nat.zero_add]
      have hrun : (Builtin.append_ #[t, t] ty #[.slice (some ⟨g, 0, none⟩) xs.length c', .slice (some ad) m c]).run P w = .ok (.slice (some ⟨g, 0, none⟩) (xs.length + m) c') (w.setRow g (cur.toList.take (xs.length + 0) ++ news ++ cur.toList.drop (xs.length + 0 + news.length)).toArray) := by
        subst hl
        simp only [Builtin.append_, run_underlying hu, sizeOf, typeInfo, hi, hsz, Builtin.lenOf, Builtin.firstCells, Nat.mul_one, hl2, had, hst, Sem.run_bind, Sem.run_pure, Result.andThen_ok]
        simp [Builtin.append_, run_underlying hu, sizeOf, typeInfo, hi, hsz, Builtin.lenOf, Builtin.firstCells, hfit, hl2, had, hst]
      rw [hrun] at k1
      injection k1 with k1 _
      exact k1.symm
theorem wpList_app1 (O : OneT P t T z) (hgd : o.guard = none) (s x : Operand) (ho : o.op = .call { callee := .builtin .append, args := #[s, x], argTypes := #[t, t] }) (base : Nat) (v : Value) (xs : List Value) (hs : a.eval s = v) (hown : Ow w base T v xs)
    (A : Option Addr) (m c : Nat) (hx : a.eval x = .slice A m c) (news : List Value) (hl : news.length = m)
    (hnews : 0 < m → ∃ ad, A = some ad ∧ ∀ j u, news[j]? = some u → w.cell? (ad.add j) = some u) (h1 : ∀ u ∈ news, u.oneCell' = true) (hN : xs.length + m ≤ 70368744177664) (hbase : base ≤ w.heap.size)
    (h : ∀ v' w', Ow w' base T v' (xs ++ news) → w.grownBy w' v.ownBlock → (v'.ownBlock = v.ownBlock ∨ v'.ownBlock = some w.heap.size) → (∀ g n c, v = .slice (some ⟨g, 0, none⟩) n c → n + m ≤ c → v' = .slice (some ⟨g, 0, none⟩) (n + m) c) → wpList P ops Q rest (a.put o.dst v') w') :
    wpList P ops Q (o :: rest) a w := by
  obtain ⟨v', w', k1, k2, k3, k4, k5⟩ := run_app1 O w o.type base v xs hown A m c news hl hnews h1 hN hbase
  refine wpList_plain hgd fun K hK => ?_
  unfold Oper.wp
  simp [execOp, ho, resolve, invoke, builtin, hs, hx, k1, Result.andThen]
  exact hK _ _ (h v' w' k2 k3 k4 k5)
theorem step_app1 (O : OneT P t T z) {E : Prop} {K : Act → World → Prop} (hgd : o.guard = none) (s x : Operand) (ho : o.op = .call { callee := .builtin .append, args := #[s, x], argTypes := #[t, t] }) (base : Nat) (v : Value) (xs : List Value) (hs : a.eval s = v) (hown : Ow w base T v xs)
    (A : Option Addr) (m c : Nat) (hx : a.eval x = .slice A m c) (news : List Value) (hl : news.length = m)
    (hnews : 0 < m → ∃ ad, A = some ad ∧ ∀ j u, news[j]? = some u → w.cell? (ad.add j) = some u) (h1 : ∀ u ∈ news, u.oneCell' = true) (hN : xs.length + m ≤ 70368744177664) (hbase : base ≤ w.heap.size)
    (h : ∀ v' w', Ow w' base T v' (xs ++ news) → w.grownBy w' v.ownBlock → (v'.ownBlock = v.ownBlock ∨ v'.ownBlock = some w.heap.size) → (∀ g n c, v = .slice (some ⟨g, 0, none⟩) n c → n + m ≤ c → v' = .slice (some ⟨g, 0, none⟩) (n + m) c) → K (a.put o.dst v') w') :
    if Region.wanted o (yielded ops a.tmps) = true then Oper.wp P o a w K Q else E := by
  obtain ⟨v', w', k1, k2, k3, k4, k5⟩ := run_app1 O w o.type base v xs hown A m c news hl hnews h1 hN hbase
  have hw : Region.wanted o (yielded ops a.tmps) = true := by simp [Region.wanted, hgd]
  rw [if_pos hw]
  unfold Oper.wp
  simp [execOp, ho, resolve, invoke, builtin, hs, hx, k1, Result.andThen]
  exact h v' w' k2 k3 k4 k5
end
theorem own_ow {w : World} {base : Nat} {T : TypeId} {v : Value} {bs : List Int} (h : Own w base T v bs) : Ow w base T v (bs.map (Value.int .u8)) := by
  unfold Ow
  rw [List.length_map]
  exact h.1
theorem ow_own {w : World} {base : Nat} {T : TypeId} {v : Value} {bs : List Int} (h : Ow w base T v (bs.map (Value.int .u8))) (hb : Byt bs) : Own w base T v bs := by
  unfold Ow at h
  rw [List.length_map] at h
  exact ⟨h, hb⟩
end
section
set_option linter.unusedVariables false
set_option linter.unusedSimpArgs false
open Go.RowKit
theorem i8_info : (Tryz.prog.info? 5).map (fun i => (i.zero, i.size, i.bytes)) = some (some (.int .u8 0), 1, 1) := by kernel_rfl
theorem o8 : OneT Tryz.prog 22 5 (.int .u8 0) := by
  obtain ⟨i, hi, h⟩ : ∃ i, Tryz.prog.info? 5 = some i ∧ i.zero = some (.int .u8 0) ∧ i.size = 1 ∧ i.bytes = 1 := by
    have hI := i8_info
    cases hq : Tryz.prog.info? 5 with
    | none => rw [hq] at hI; cases hI
    | some i =>
      rw [hq] at hI
      simp only [Option.map_some, Option.some.injEq, Prod.mk.injEq] at hI
      exact ⟨i, rfl, hI⟩
  exact ⟨Tryz.underlying22, ⟨i, hi, h⟩, rfl, rfl⟩
theorem rd_src {w : World} {B n : Nat} {A : Option Addr} {bs : List Int} (h : Rd w B A n bs) : 0 < n → ∃ ad, A = some ad ∧ ∀ j u, (bs.map (Value.int .u8))[j]? = some u → w.cell? (ad.add j) = some u := fun h0 => h.cells h0
set_option maxRecDepth 100000 in
theorem clone8 (A : Option Addr) (n c : Nat) (bs : List Int) (w : World) (hr : Rd w w.heap.size A n bs) (hn : n ≤ 2000000) (hA : A = none → c = 0) :
    Calls Tryz.prog 72 #[.slice A n c] w fun e w' => ∃ v, e = .returned v ∧ Own w' w.heap.size 5 v bs ∧ Below w.heap.size w w' := by
  cases A with
  | none =>
    have h0 : n = 0 := by
      rcases Nat.eq_zero_or_pos n with h | h
      · exact h
      · obtain ⟨b, off, e, _⟩ := hr.2.2 h
        cases e
    subst h0
    obtain rfl := hA rfl
    obtain rfl := hr.zero
    clear hA
    have he := fun W : World => Lib.run_eql_slice_nil (P := Tryz.prog) W 22 5 none 0 0 0 0 Tryz.underlying22
    go_enter Tryz.func72, Tryz.ntmps72
    go_wp2
    go_ret
    exact ⟨_, rfl, Own.none_ _ _ _, Below.refl _ _⟩
  | some ad =>
    clear hA
    have he := fun W : World => Lib.run_eql_slice_nil (P := Tryz.prog) W 22 5 (some ad) n c 0 0 Tryz.underlying22
    have hb1 : Below w.heap.size w (w.alloc (.cells #[] 5)) := (Below.refl _ _).alloc (Nat.le_refl _) _
    have hr1 := hr.below hb1
    have hown : Ow (w.alloc (.cells #[] 5)) w.heap.size 5 (.slice (some ⟨w.heap.size, 0, none⟩) 0 0) [] := ⟨rfl, .inr ⟨_, 0, _, rfl, Nat.le_refl _, heap_alloc_new w _, Nat.le_refl _, by unfold maxLen; omega, rfl, rfl⟩⟩
    have hs1 : w.heap.size ≤ (w.alloc (.cells #[] 5)).heap.size := by simp
    have hsrc := rd_src hr1
    have hlen : (bs.map (Value.int .u8)).length = n := by rw [List.length_map]; exact hr.1
    have hone := oneCell_u8 bs
    have HB := Lib.hid hr.2.1
    clear hr hr1
    generalize hxs : bs.map (Value.int .u8) = xs at *
    have HX := Lib.hid hxs
    clear hxs
    go_enter Tryz.func72, Tryz.ntmps72
    go_wp2_with (at_builtin; refine wpList_app1 o8 rfl (.tmp 5) (.tmp 6) rfl w.heap.size _ [] rfl hown (some ad) n c rfl xs hlen hsrc hone (by simp; omega) hs1 ?_; intro v2 w2 hown2 hg2 hv2 _; have hb2 := hb1.grown hg2 hs1 (fun k hk => (ow_lt hown k hk).1); clear hown)
    go_ret
    exact ⟨_, rfl, ow_own (by rw [HX.out]; simpa using hown2) HB.out, hb2⟩
set_option maxHeartbeats 1000000 in
set_option maxRecDepth 100000 in
theorem del8 (base : Nat) (v : Value) (W : List Int) (k : Nat) (w : World) (hl : Own w base 5 v W) (hkn : k ≤ W.length) (hN : W.length ≤ 2000000) (hb : base ≤ w.heap.size) :
    Calls Tryz.prog 70 #[v, .int .i64 0, .int .i64 k] w fun e w' => ∃ v', e = .returned v' ∧ Own w' base 5 v' (W.drop k) ∧ Kept (fun b => v.ownBlock = some b) w w' ∧ ∀ j, v'.ownBlock = some j → v.ownBlock = some j := by
  have how := own_ow hl
  have HB := Lib.hid (hl.2.drop k)
  have hOL := Lib.hid hl
  obtain ⟨A, c, rfl, hnc, hcm, ho⟩ := ow_open how
  have hml : (W.map (Value.int .u8)).length = W.length := List.length_map ..
  rcases Nat.eq_zero_or_pos k with rfl | hk0
  · have hres : Own w base 5 (.slice A (W.map (Value.int .u8)).length c) (W.drop 0) := by rw [List.drop_zero]; exact hl
    have HR := Lib.hid hres
    clear hres hl
    have hcz : ((W.map (Value.int .u8)).length : Int) ≤ (c : Int) := by omega
    have hcm' : c ≤ 9223372036854775807 := by unfold maxLen at hcm; omega
    have hA : A = none → c = 0 := by
      rintro rfl
      rcases ho with ⟨_, h, _⟩ | ⟨g, cur, h, _⟩
      · exact h
      · cases h
    clear ho how hkn hOL HB
    generalize (W.map (Value.int .u8)).length = n at *
    clear hml
    cases A with
    | none =>
      obtain rfl := hA rfl
      obtain rfl : n = 0 := by omega
      go_enter Tryz.func70, Tryz.ntmps70
      go_wp2
      go_ret
      exact ⟨_, rfl, HR.out, Kept.refl _ _, fun j hj => hj⟩
    | some ad =>
      go_enter Tryz.func70, Tryz.ntmps70
      go_wp2
      go_ret
      exact ⟨_, rfl, HR.out, Kept.refl _ _, fun j hj => hj⟩
  · rcases ho with ⟨_, _, h⟩ | ⟨g, cur, rfl, hbg, hg, hA, hcl, hct⟩
    · simp at h; subst h; simp at hkn; omega
    have HL := Lib.hid (show (W.drop k).length = W.length - k from List.length_drop)
    have hown : Ow w base 5 (.slice (some ⟨g, 0, none⟩) 0 c) [] := by simpa using ow_cut how rfl (i := 0) (by omega)
    obtain ⟨X, hX⟩ : ∃ X, (W.drop k).map (Value.int .u8) = X := ⟨_, rfl⟩
    have hsrc : ∀ j u, X[j]? = some u → w.cell? ((⟨g, k, none⟩ : Addr).add j) = some u := fun j u hj => by
      rw [Addr.add_lit, hA.cell]
      rw [← hX, List.map_drop, List.getElem?_drop, ← hct, List.getElem?_take] at hj
      split at hj
      · exact hj
      · cases hj
    have hsl : X.length = W.length - k := by rw [← hX, List.length_map]; exact HL.out
    have hs1 : ∀ u ∈ X, u.oneCell' = true := fun u hu => by rw [← hX] at hu; exact oneCell_u8 _ u hu
    have HX := Lib.hid hX
    have hcm' : c ≤ 9223372036854775807 := by unfold maxLen at hcm; omega
    clear hl hct hX hOL how
    rw [hml] at hnc ⊢
    clear hml
    generalize W.length = n at *
    have hc0 : ¬ c = 0 := by omega
    have hcz : (k : Int) ≤ (c : Int) := by omega
    have hnz : (n : Int) ≤ (c : Int) := by omega
    have hkz : (k : Int) ≤ (n : Int) := by omega
    have hk1 : ¬ (0 : Int) = (k : Int) := by omega
    have hcq : ¬ c = n - k := by omega
    have mixed : Tryz.prog.follows .mixedOrders = true := by kernel_rfl
    have hown' : Ow w.drew base 5 (.slice (some ⟨g, 0, none⟩) 0 c) [] := ow_keep hown fun _ _ => rfl
    have hb' : base ≤ w.drew.heap.size := hb
    have hsrc' : ∀ j u, X[j]? = some u → w.drew.cell? ((⟨g, k, none⟩ : Addr).add j) = some u := hsrc
    clear hown hsrc
    have HT : Hid (∀ (v2 : Value) (w2 : World), Ow w2 base 5 v2 ([] ++ X) → (∀ g' n' c', Value.slice (some ⟨g, 0, none⟩) 0 c = .slice (some ⟨g', 0, none⟩) n' c' → n' + (n - k) ≤ c' → v2 = .slice (some ⟨g', 0, none⟩) (n' + (n - k)) c') → ∃ cur3, v2 = .slice (some ⟨g, 0, none⟩) (n - k) c ∧ At w2 g 5 cur3 ∧ Hid (cur3.length = c) ∧ Hid (cur3.take (n - k) = X)) := Lib.hid (by
      intro v2 w2 h1 h2
      have e := h2 g 0 c rfl (by omega)
      rw [Nat.zero_add] at e
      subst e
      obtain ⟨A3, c3, e, _, _, h3⟩ := ow_open h1
      rw [List.nil_append] at *
      injection e with e1 e2 e3
      subst e1; subst e3
      rcases h3 with ⟨h, _⟩ | ⟨g3, cur3, h, _, _, hA3, hl3, ht3⟩
      · cases h
      · injection h with h
        injection h with h
        subst h
        exact ⟨cur3, rfl, hA3, Lib.hid hl3, Lib.hid (by rw [← hsl]; exact ht3)⟩)
    have HF : Hid (∀ (w3 w4 : World) (cur3 : List Value) (N : Nat), At w3 g 5 (splice cur3 (n - k) (List.replicate N (Value.int .u8 0))) → N = n - (n - k) → cur3.length = c → cur3.take (n - k) = X → Own w3 base 5 (.slice (some ⟨g, 0, none⟩) (n - k) c) (W.drop k)) := Lib.hid (by
      intro w3 w4 cur3 N h1 hN h2 h3
      refine Own.of_block HB.out (by rw [HL.out]) h1 hbg (by omega) hcm (by simp only [List.size_toArray]; rw [length_splice _ _ _ (by simp; omega)]; exact h2) ?_
      rw [HX.out, ← h3]
      simp only [List.toList_toArray]
      unfold splice
      rw [List.take_append_of_le_length (by simp; omega), List.take_take]
      congr 1
      omega)
    by_cases hck : c = k
    · subst hck
      obtain rfl : n = c := by omega
      obtain rfl : X = [] := List.eq_nil_of_length_eq_zero (by omega)
      rw [Nat.sub_self] at HT HF hsl
      have hcn : ¬ n = 0 := by omega
      clear hcq hsrc'
      go_enter Tryz.func70, Tryz.ntmps70
      go_wp2_with fail
      go_region_law_o (refine step_app1 o8 rfl (.tmp 22) (.tmp 25) rfl base (.slice (some ⟨g, 0, none⟩) 0 n) [] (by simp [Act.eval, Act.put]) hown' (some ⟨g, 0, none⟩) 0 0 (by simp [Act.eval, Act.put]) [] rfl (fun h => absurd h (by omega)) hs1 (by simp) hb' ?_; intro v2 w2 hown2 hg2 hv2 hin2; obtain ⟨cur3, rfl, hA3, HL3, HT3⟩ := HT.out v2 w2 hown2 hin2; clear hown2 hin2 hv2)
      go_wp2_with (refine wpList_clear1 o8 rfl (.tmp 31) rfl (some ⟨g, 0, none⟩) n n g 0 cur3 _ rfl hA3 (fun _ => rfl) (by have := HL3.out; omega) ?_; intro w3 hA4 hk4)
      go_ret
      exact ⟨_, rfl, HF.out w3 w3 cur3 _ hA4 rfl HL3.out HT3.out, (Kept.from_drew (grown_kept hg2)).trans (hk4.mono fun j hj => .inl (by subst hj; rfl)), fun k hk => hk⟩
    · go_enter Tryz.func70, Tryz.ntmps70
      go_wp2_with fail
      go_region_law_o (refine step_app1 o8 rfl (.tmp 22) (.tmp 25) rfl base (.slice (some ⟨g, 0, none⟩) 0 c) [] (by simp [Act.eval, Act.put]) hown' (some ⟨g, k, none⟩) (n - k) (c - k) (by simp [Act.eval, Act.put]) X hsl (fun _ => ⟨_, rfl, hsrc'⟩) hs1 (by simp; omega) hb' ?_; intro v2 w2 hown2 hg2 hv2 hin2; obtain ⟨cur3, rfl, hA3, HL3, HT3⟩ := HT.out v2 w2 hown2 hin2; clear hown2 hin2 hv2)
      have hnkz : ((n - k : Nat) : Int) ≤ (n : Int) := by omega
      go_wp2_with (refine wpList_clear1 o8 rfl (.tmp 31) rfl (some ⟨g, n - k, none⟩) (n - (n - k)) (c - (n - k)) g (n - k) cur3 _ rfl hA3 (fun _ => rfl) (by have := HL3.out; omega) ?_; intro w3 hA4 hk4)
      go_ret
      exact ⟨_, rfl, HF.out w3 w3 cur3 _ hA4 rfl HL3.out HT3.out, (Kept.from_drew (grown_kept hg2)).trans (hk4.mono fun j hj => .inl (by subst hj; rfl)), fun k hk => hk⟩
end
end Go.Proofs.YtbejpafephofaaaGreat
