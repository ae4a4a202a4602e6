/-
  A row of calls (Kind, Size, Time, Now) that came in, or that the call made, in the words of the walks.
-/
import Derived.Test.YtppgffphlmempaaProg
import Derived.Test.YtppgffphlmempaaObj
import Derived.Test.YtppgffphlmempaaOpenRow
import Derived.Deep.Slices
import Derived.ChangeSlices
import Derived.Laws.CopyOwn
import Derived.Maps.AppendAt
import Derived.WalkKit
import Derived.Deep.LoopGhost
import Derived.Deep.RegionLaw
import Derived.Shelf.RegionOpenPlain
import Derived.BigRegion
namespace Go.Proofs.Ytppgffphlmempaa
set_option linter.unusedVariables false
set_option linter.unusedSimpArgs false
open Go.RowKit Go.ChangeShapes Go.WideShapes Go.Deep
structure AskD where
  k : Int
  sz : Int
  t : Int
  nw : Int
def I64 (x : Int) : Prop := -9223372036854775808 ≤ x ∧ x < 9223372036854775808
def AskD.wf (d : AskD) : Prop := I64 d.k ∧ I64 d.sz ∧ I64 d.t ∧ I64 d.nw
/-- A call stands at place o of block b. -/
structure AskAt (w : World) (b o : Nat) (d : AskD) : Prop where
  ck : w.cell? ⟨b, o, none⟩ = some (.int .i64 d.k)
  cs : w.cell? ⟨b, o + 1, none⟩ = some (.int .i64 d.sz)
  ct : w.cell? ⟨b, o + 2, none⟩ = some (.int .i64 d.t)
  cn : w.cell? ⟨b, o + 3, none⟩ = some (.int .i64 d.nw)
  wf : d.wf
theorem AskAt.below {w w' : World} {B b o : Nat} {d : AskD} (h : AskAt w b o d) (hb : Below B w w') (hlt : b < B) : AskAt w' b o d :=
  { h with
    ck := (hb.cell (p := ⟨b, _, none⟩) hlt).trans h.ck
    cs := (hb.cell (p := ⟨b, _, none⟩) hlt).trans h.cs
    ct := (hb.cell (p := ⟨b, _, none⟩) hlt).trans h.ct
    cn := (hb.cell (p := ⟨b, _, none⟩) hlt).trans h.cn }
/-- A row of calls, all of it below block B. -/
def Asks (w : World) (B : Nat) (A : Option Addr) (n c : Nat) (L : List AskD) : Prop :=
  L.length = n ∧ n ≤ c ∧ c ≤ maxLen ∧ (A = none → c = 0) ∧ (0 < n → ∃ b off, A = some ⟨b, off, none⟩ ∧ b < B ∧ ∀ i d, L[i]? = some d → AskAt w b (off + i * 4) d)
theorem Asks.below {w w' : World} {B : Nat} {A : Option Addr} {n c : Nat} {L : List AskD} (h : Asks w B A n c L) (hb : Below B w w') : Asks w' B A n c L :=
  ⟨h.1, h.2.1, h.2.2.1, h.2.2.2.1, fun hn => by
    obtain ⟨b, off, e, hlt, hc⟩ := h.2.2.2.2 hn
    exact ⟨b, off, e, hlt, fun i d hd => (hc i d hd).below hb hlt⟩⟩
section
variable {H : Type} {enc : TypeId × Value → H} {w : World}
theorem asks_of_trodS {fuel : Nat} {cs : List Value} {x : DataW H × List MemPlace} (h : DataW.trod enc Try.prog w 0 (fun _ => true) true fuel 22 cs = some x) :
    ∃ A n c L, cs = [.slice A n c] ∧ Asks w w.heap.size A n c L ∧ ((x.1 = .nil ∧ c = 0) ∨ ∃ es sp, x.1 = .slice es sp ∧ es.length + sp.length = c) := by
  rcases open_slice Try.underlying22 h with ⟨rfl, hx⟩ | ⟨a, len, cap, m, n, D, Pl, rfl, _, hl, hm, hmm, hx, hi⟩
  · exact ⟨none, 0, 0, [], rfl, ⟨rfl, Nat.le_refl _, by unfold maxLen; omega, fun _ => rfl, fun h => absurd h (by omega)⟩, .inl ⟨by rw [hx], rfl⟩⟩
  · obtain rfl : m = cap := by simpa using hmm
    have hC : Try.prog.cellsOf 25 = 4 := by kernel_rfl
    have c3 : Try.prog.cellsOf 3 = 1 := by kernel_rfl
    have c22 : Try.prog.cellsOf 2 = 1 := by kernel_rfl
    rw [hC] at hi
    obtain ⟨b, off, spot⟩ := a
    have hspot : 0 < len → spot = none := by
      intro hp
      obtain ⟨cs', hc, _⟩ := hi 0 (by omega)
      obtain ⟨_, hcl, hat⟩ := World.cells?_some hc
      have h0 := hat 0 (by omega)
      rw [List.getElem?_eq_getElem (by omega)] at h0
      simpa [Addr.add] using World.cell?_spot h0
    have each : ∀ i, i < len → ∃ d, spot = none ∧ b < w.heap.size ∧ AskAt w b (off + i * 4) d := by
      intro i hil
      obtain ⟨cs', hc, ht⟩ := hi i (by omega)
      obtain ⟨ys, n', _, _, hlen, hyl, hf⟩ := DataW.trod_struct Try.underlying25 ht
      obtain ⟨_, hcl, hat⟩ := World.cells?_some hc
      match cs', hcl with
      | [u0, u1, u2, u3], _ =>
        match ys, hyl with
        | [y0, y1, y2, y3], _ =>
          have h0 : DataW.trod enc Try.prog w 0 (fun _ => true) true n' 3 (([u0, u1, u2, u3].drop 0).take (Try.prog.cellsOf 3)) = some y0 := hf 0 _ rfl
          have h1 : DataW.trod enc Try.prog w 0 (fun _ => true) true n' 3 (([u0, u1, u2, u3].drop 1).take (Try.prog.cellsOf 3)) = some y1 := hf 1 _ rfl
          have h2 : DataW.trod enc Try.prog w 0 (fun _ => true) true n' 2 (([u0, u1, u2, u3].drop 2).take (Try.prog.cellsOf 2)) = some y2 := hf 2 _ rfl
          have h3 : DataW.trod enc Try.prog w 0 (fun _ => true) true n' 2 (([u0, u1, u2, u3].drop 3).take (Try.prog.cellsOf 2)) = some y3 := hf 3 _ rfl
          rw [c3] at h0 h1
          rw [c22] at h2 h3
          obtain ⟨k, hk, _, wk⟩ := DataW.trod_int Try.underlying3 h0
          obtain ⟨nn, hn, _, wn⟩ := DataW.trod_int Try.underlying3 h1
          obtain ⟨xx, hx, _, wx⟩ := DataW.trod_int Try.underlying2 h2
          obtain ⟨zz, hz, _, wz⟩ := DataW.trod_int Try.underlying2 h3
          obtain rfl : u0 = .int .i64 k := by simpa using hk
          obtain rfl : u1 = .int .i64 nn := by simpa using hn
          obtain rfl : u2 = .int .i64 xx := by simpa using hx
          obtain rfl : u3 = .int .i64 zz := by simpa using hz
          have a0 := hat 0 (by omega)
          have a1 := hat 1 (by omega)
          have a2 := hat 2 (by omega)
          have a3 := hat 3 (by omega)
          have hs : spot = none := hspot (by omega)
          subst hs
          rw [addr_add] at a0 a1 a2 a3
          rw [addr_add] at a0 a1 a2 a3
          have b1 := bounds_i64 wk
          have b2 := bounds_i64 wn
          have b3 := bounds_i64 wx
          have b4 := bounds_i64 wz
          exact ⟨⟨k, nn, xx, zz⟩, rfl, cell_lt a0, a0, a1, a2, a3, by unfold AskD.wf I64; simp only; omega⟩
    obtain ⟨L, hL, hp⟩ := choose_list len each
    refine ⟨_, len, m, L, rfl, ⟨hL, hl, hm, fun h => (by cases h), fun hpos => ?_⟩, .inr ⟨_, _, by rw [hx], by simp; omega⟩⟩
    obtain ⟨d, hd⟩ : ∃ d, L[0]? = some d := ⟨_, List.getElem?_eq_getElem (by omega)⟩
    obtain ⟨hs, hb, _⟩ := hp 0 d hd
    subst hs
    exact ⟨b, off, rfl, hb, fun i d hd => (hp i d hd).2.2⟩
theorem asks_of_trod {fuel : Nat} {cs : List Value} {x : DataW H × List MemPlace} (h : DataW.trod enc Try.prog w 0 (fun _ => true) true fuel 22 cs = some x) :
    ∃ A n c L, cs = [.slice A n c] ∧ Asks w w.heap.size A n c L := by
  obtain ⟨A, n, c, L, h1, h2, _⟩ := asks_of_trodS h
  exact ⟨A, n, c, L, h1, h2⟩
end
def acC (d : AskD) : List Value := [.int .i64 d.k, .int .i64 d.sz, .int .i64 d.t, .int .i64 d.nw]
def askC (L : List AskD) : List Value := L.flatMap acC
theorem askC_len : ∀ L : List AskD, (askC L).length = L.length * 4
  | [] => rfl
  | d :: t => by
    have := askC_len t
    unfold askC at *
    rw [List.flatMap_cons, List.length_append, this, List.length_cons]
    simp [acC]
    omega
theorem askC_app (a b : List AskD) : askC (a ++ b) = askC a ++ askC b := by unfold askC; exact List.flatMap_append
theorem askC_get : ∀ (L : List AskD) (i : Nat) (d : AskD), L[i]? = some d → (askC L)[i * 4]? = some (.int .i64 d.k) ∧ (askC L)[i * 4 + 1]? = some (.int .i64 d.sz) ∧ (askC L)[i * 4 + 2]? = some (.int .i64 d.t) ∧ (askC L)[i * 4 + 3]? = some (.int .i64 d.nw)
  | [], i, d, h => by simp at h
  | x :: t, 0, d, h => by
    simp at h
    subst h
    exact ⟨rfl, rfl, rfl, rfl⟩
  | x :: t, i + 1, d, h => by
    have := askC_get t i d (by simpa using h)
    have e : askC (x :: t) = .int .i64 x.k :: .int .i64 x.sz :: .int .i64 x.t :: .int .i64 x.nw :: askC t := rfl
    rw [e, show (i + 1) * 4 = i * 4 + 1 + 1 + 1 + 1 by omega]
    simpa using this
/-- A row of calls that the call made itself. -/
structure OwnA (w : World) (base : Nat) (v : Value) (L : List AskD) : Prop where
  own : w.ownsRow base 25 4 v L.length (askC L)
  wf : ∀ d ∈ L, d.wf
section
variable {w w' : World} {base : Nat} {v : Value} {L : List AskD}
theorem OwnA.nil_ (w : World) (base : Nat) : OwnA w base (.slice none 0 0) [] := ⟨⟨rfl, .inl ⟨rfl, rfl⟩⟩, fun d h => by cases h⟩
theorem OwnA.keep (h : OwnA w base v L) (hk : ∀ k, v.ownBlock = some k → w'.heap[k]? = w.heap[k]?) : OwnA w' base v L := by
  refine ⟨⟨h.own.1, ?_⟩, h.wf⟩
  rcases h.own.2 with h0 | ⟨g, cap, cur, rfl, hb, hg, hr⟩
  · exact .inl h0
  · exact .inr ⟨g, cap, cur, rfl, hb, (hk g rfl).trans hg, hr⟩
theorem OwnA.lt (h : OwnA w base v L) : ∀ k, v.ownBlock = some k → base ≤ k ∧ k < w.heap.size := by
  intro k hk
  rcases h.own.2 with ⟨rfl, _⟩ | ⟨g, cap, cur, rfl, hb, hg, _⟩
  · cases hk
  · have : g = k := Option.some.inj hk
    subst this
    refine ⟨hb, ?_⟩
    rcases Nat.lt_or_ge g w.heap.size with h | h
    · exact h
    · rw [Array.getElem?_eq_none h] at hg; cases hg
theorem OwnA.asks (h : OwnA w base v L) : ∃ A c, v = .slice A L.length c ∧ Asks w w.heap.size A L.length c L := by
  have hlt := h.lt
  obtain ⟨hlen, hr⟩ := h.own
  rcases hr with ⟨rfl, h0⟩ | ⟨g, cap, cur, rfl, hb, hg, hn, hm, hs, ht⟩
  · obtain rfl : L = [] := by
      have h1 := askC_len L
      rw [h0] at h1
      exact List.eq_nil_of_length_eq_zero (by simp at h1; omega)
    exact ⟨none, 0, rfl, rfl, Nat.le_refl _, by unfold maxLen; omega, fun _ => rfl, fun h => absurd h (by simp)⟩
  · refine ⟨_, cap, rfl, rfl, hn, hm, fun h => (by cases h), fun _ => ⟨g, 0, rfl, (hlt g rfl).2, fun i d hd => ?_⟩⟩
    have hc := askC_get L i d hd
    have hA : At w g 25 cur.toList := hg
    have cell : ∀ j u, (askC L)[j]? = some u → w.cell? ⟨g, j, none⟩ = some u := fun j u hj => by
      rw [hA.cell]
      rw [← ht, List.getElem?_take] at hj
      split at hj
      · exact hj
      · cases hj
    rw [Nat.zero_add]
    exact ⟨cell _ _ hc.1, cell _ _ hc.2.1, cell _ _ hc.2.2.1, cell _ _ hc.2.2.2, h.wf d (List.mem_of_getElem? hd)⟩
end
theorem ask_info : (Try.prog.info? 25).map (fun i => (i.zero, i.size, i.bytes)) = some (some (.agg #[.int .i64 0, .int .i64 0, .int .i64 0, .int .i64 0]), 4, 32) := by kernel_rfl
/-- append of calls that stand in a block. -/
theorem run_append3 (w : World) (ty : TypeId) (base : Nat) (v : Value) (L M : List AskD) (hown : OwnA w base v L) (ad : Addr) (c : Nat) (hM : 0 < M.length) (hnews : ∀ j u, (askC M)[j]? = some u → w.cell? (ad.add j) = some u) (hwf : ∀ d ∈ M, d.wf) (hN : (L.length + M.length) * 32 ≤ 140737488355328) (hbase : base ≤ w.heap.size) :
    ∃ v' w', (Builtin.append_ #[22, 22] ty #[v, .slice (some ad) M.length c]).run Try.prog w = .ok v' w' ∧ OwnA w' base v' (L ++ M) ∧ w.grownBy w' v.ownBlock := by
  have hI := ask_info
  obtain ⟨i, hi, hz, hsz, hby⟩ : ∃ i, Try.prog.info? 25 = some i ∧ i.zero = some (.agg #[.int .i64 0, .int .i64 0, .int .i64 0, .int .i64 0]) ∧ i.size = 4 ∧ i.bytes = 32 := by
    cases hq : Try.prog.info? 25 with
    | none => rw [hq] at hI; cases hI
    | some i =>
      rw [hq] at hI
      simp only [Option.map_some, Option.some.injEq, Prod.mk.injEq] at hI
      exact ⟨i, rfl, hI⟩
  have h1 : ∀ u ∈ askC M, u.oneCell' = true := fun u hu => by
    unfold askC at hu
    rw [List.mem_flatMap] at hu
    obtain ⟨d, _, h⟩ := hu
    simp [acC] at h
    rcases h with rfl | rfl | rfl | rfl <;> rfl
  obtain ⟨v', w', k1, k2, k3, _, _⟩ := run_append_own_at (P := Try.prog) (w := w) base 22 ty 25 i _ 4 32 Try.underlying22 hi hz hsz hby rfl (by omega) v L.length (askC L) hown.own ad M.length c (askC M) (askC_len M) hnews h1 (by unfold maxLen; omega) hN hbase
  refine ⟨v', w', k1, ⟨?_, fun d hd => (List.mem_append.1 hd).elim (hown.wf d) (hwf d)⟩, k3⟩
  rw [List.length_append, askC_app]
  exact k2
section
variable {w : World} {ops : Array Oper} {rest : List Oper} {o : Oper} {a : Act} {Q : Exit → Act → World → Prop}
theorem step_append3 {E : Prop} {K : Act → World → Prop} (hgd : o.guard = none) (s x : Operand) (ho : o.op = .call { callee := .builtin .append, args := #[s, x], argTypes := #[22, 22] }) (base : Nat) (v : Value) (L M : List AskD) (hs : a.eval s = v) (hown : OwnA w base v L)
    (ad : Addr) (m c : Nat) (hx : a.eval x = .slice (some ad) m c) (hm : m = M.length) (hM : 0 < M.length) (hnews : ∀ j u, (askC M)[j]? = some u → w.cell? (ad.add j) = some u) (hwf : ∀ d ∈ M, d.wf) (hN : (L.length + M.length) * 32 ≤ 140737488355328) (hbase : base ≤ w.heap.size)
    (h : ∀ v' w', OwnA w' base v' (L ++ M) → w.grownBy w' v.ownBlock → K (a.put o.dst v') w') :
    if Region.wanted o (yielded ops a.tmps) = true then Oper.wp Try.prog o a w K Q else E := by
  subst hm
  obtain ⟨v', w', k1, k2, k3⟩ := run_append3 w o.type base v L M hown ad c hM hnews hwf hN hbase
  have hw : Region.wanted o (yielded ops a.tmps) = true := by simp [Region.wanted, hgd]
  rw [if_pos hw]
  unfold Oper.wp
  simp [execOp, ho, resolve, invoke, builtin, hs, hx, k1, Result.andThen]
  exact h v' w' k2 k3
theorem wpList_append3 (hgd : o.guard = none) (s x : Operand) (ho : o.op = .call { callee := .builtin .append, args := #[s, x], argTypes := #[22, 22] }) (base : Nat) (v : Value) (L M : List AskD) (hs : a.eval s = v) (hown : OwnA w base v L)
    (ad : Addr) (m c : Nat) (hx : a.eval x = .slice (some ad) m c) (hm : m = M.length) (hM : 0 < M.length) (hnews : ∀ j u, (askC M)[j]? = some u → w.cell? (ad.add j) = some u) (hwf : ∀ d ∈ M, d.wf) (hN : (L.length + M.length) * 32 ≤ 140737488355328) (hbase : base ≤ w.heap.size)
    (h : ∀ v' w', OwnA w' base v' (L ++ M) → w.grownBy w' v.ownBlock → wpList Try.prog ops Q rest (a.put o.dst v') w') :
    wpList Try.prog ops Q (o :: rest) a w := by
  subst hm
  obtain ⟨v', w', k1, k2, k3⟩ := run_append3 w o.type base v L M hown ad c hM hnews hwf hN hbase
  refine wpList_plain hgd fun K hK => ?_
  unfold Oper.wp
  simp [execOp, ho, resolve, invoke, builtin, hs, hx, k1, Result.andThen]
  exact hK _ _ (h v' w' k2 k3)
end
end Go.Proofs.Ytppgffphlmempaa
