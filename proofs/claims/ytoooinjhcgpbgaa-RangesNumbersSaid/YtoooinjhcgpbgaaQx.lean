/-
  Chapter 10's law: Within, near; rows of calls of the call's own.
-/
import Derived.Test.YtoooinjhcgpbgaaQv
import Derived.Laws.CopyOwn
import Derived.Maps.AppendAt
import Derived.WalkKit
import Derived.Deep.LoopGhost
import Derived.Deep.RegionLaw
import Derived.Shelf.RegionOpenPlain
import Derived.BigRegion
namespace Go.Proofs.Ytoooinjhcgpbgaa
set_option linter.unusedVariables false
set_option linter.unusedSimpArgs false
open Go.RowKit
def acC (d : AskD) : List Value := [.int .i64 d.k, .int .u64 d.lo, .int .u64 d.hi]
def askC (L : List AskD) : List Value := L.flatMap acC
theorem askC_len : ∀ L : List AskD, (askC L).length = L.length * 3
  | [] => rfl
  | d :: t => by
    have := askC_len t
    unfold askC at *
    rw [List.flatMap_cons, List.length_append, this, List.length_cons]
    simp [acC]
    omega
theorem askC_app (a b : List AskD) : askC (a ++ b) = askC a ++ askC b := by unfold askC; exact List.flatMap_append
theorem askC_get : ∀ (L : List AskD) (i : Nat) (d : AskD), L[i]? = some d → (askC L)[i * 3]? = some (.int .i64 d.k) ∧ (askC L)[i * 3 + 1]? = some (.int .u64 d.lo) ∧ (askC L)[i * 3 + 2]? = some (.int .u64 d.hi)
  | [], i, d, h => by simp at h
  | x :: t, 0, d, h => by
    simp at h
    subst h
    exact ⟨rfl, rfl, rfl⟩
  | x :: t, i + 1, d, h => by
    have := askC_get t i d (by simpa using h)
    have e : askC (x :: t) = .int .i64 x.k :: .int .u64 x.lo :: .int .u64 x.hi :: askC t := rfl
    rw [e, show (i + 1) * 3 = i * 3 + 1 + 1 + 1 by omega]
    simpa using this
/-- A row of calls that the call made itself. -/
structure OwnA (w : World) (base : Nat) (v : Value) (L : List AskD) : Prop where
  own : w.ownsRow base 25 3 v L.length (askC L)
  wf : ∀ d ∈ L, d.wf
section
variable {w w' : World} {base : Nat} {v : Value} {L : List AskD}
theorem OwnA.nil_ (w : World) (base : Nat) : OwnA w base (.slice none 0 0) [] := ⟨⟨rfl, .inl ⟨rfl, rfl⟩⟩, fun d h => by cases h⟩
theorem OwnA.keep (h : OwnA w base v L) (hk : ∀ k, v.ownBlock = some k → w'.heap[k]? = w.heap[k]?) : OwnA w' base v L := by
  refine ⟨⟨h.own.1, ?_⟩, h.wf⟩
  rcases h.own.2 with h0 | ⟨g, cap, cur, rfl, hb, hg, hr⟩
  · exact .inl h0
  · exact .inr ⟨g, cap, cur, rfl, hb, (hk g rfl).trans hg, hr⟩
theorem OwnA.lt (h : OwnA w base v L) : ∀ k, v.ownBlock = some k → base ≤ k ∧ k < w.heap.size := by
  intro k hk
  rcases h.own.2 with ⟨rfl, _⟩ | ⟨g, cap, cur, rfl, hb, hg, _⟩
  · cases hk
  · have : g = k := Option.some.inj hk
    subst this
    refine ⟨hb, ?_⟩
    rcases Nat.lt_or_ge g w.heap.size with h | h
    · exact h
    · rw [Array.getElem?_eq_none h] at hg; cases hg
theorem OwnA.asks (h : OwnA w base v L) : ∃ A c, v = .slice A L.length c ∧ Asks w w.heap.size A L.length c L := by
  have hlt := h.lt
  obtain ⟨hlen, hr⟩ := h.own
  rcases hr with ⟨rfl, h0⟩ | ⟨g, cap, cur, rfl, hb, hg, hn, hm, hs, ht⟩
  · obtain rfl : L = [] := by
      have h1 := askC_len L
      rw [h0] at h1
      exact List.eq_nil_of_length_eq_zero (by simp at h1; omega)
    exact ⟨none, 0, rfl, rfl, Nat.le_refl _, by unfold maxLen; omega, fun _ => rfl, fun h => absurd h (by simp)⟩
  · refine ⟨_, cap, rfl, rfl, hn, hm, fun h => (by cases h), fun _ => ⟨g, 0, rfl, (hlt g rfl).2, fun i d hd => ?_⟩⟩
    have hc := askC_get L i d hd
    have hA : At w g 25 cur.toList := hg
    have cell : ∀ j u, (askC L)[j]? = some u → w.cell? ⟨g, j, none⟩ = some u := fun j u hj => by
      rw [hA.cell]
      rw [← ht, List.getElem?_take] at hj
      split at hj
      · exact hj
      · cases hj
    rw [Nat.zero_add]
    exact ⟨cell _ _ hc.1, cell _ _ hc.2.1, cell _ _ hc.2.2, h.wf d (List.mem_of_getElem? hd)⟩
end
theorem ask_info : (Try.prog.info? 25).map (fun i => (i.zero, i.size, i.bytes)) = some (some (.agg #[.int .i64 0, .int .u64 0, .int .u64 0]), 3, 24) := by kernel_rfl
/-- append of calls that stand in a block. -/
theorem run_append3 (w : World) (ty : TypeId) (base : Nat) (v : Value) (L M : List AskD) (hown : OwnA w base v L) (ad : Addr) (c : Nat) (hM : 0 < M.length) (hnews : ∀ j u, (askC M)[j]? = some u → w.cell? (ad.add j) = some u) (hwf : ∀ d ∈ M, d.wf) (hN : (L.length + M.length) * 24 ≤ 140737488355328) (hbase : base ≤ w.heap.size) :
    ∃ v' w', (Builtin.append_ #[22, 22] ty #[v, .slice (some ad) M.length c]).run Try.prog w = .ok v' w' ∧ OwnA w' base v' (L ++ M) ∧ w.grownBy w' v.ownBlock := by
  have hI := ask_info
  obtain ⟨i, hi, hz, hsz, hby⟩ : ∃ i, Try.prog.info? 25 = some i ∧ i.zero = some (.agg #[.int .i64 0, .int .u64 0, .int .u64 0]) ∧ i.size = 3 ∧ i.bytes = 24 := by
    cases hq : Try.prog.info? 25 with
    | none => rw [hq] at hI; cases hI
    | some i =>
      rw [hq] at hI
      simp only [Option.map_some, Option.some.injEq, Prod.mk.injEq] at hI
      exact ⟨i, rfl, hI⟩
  have h1 : ∀ u ∈ askC M, u.oneCell' = true := fun u hu => by
    unfold askC at hu
    rw [List.mem_flatMap] at hu
    obtain ⟨d, _, h⟩ := hu
    simp [acC] at h
    rcases h with rfl | rfl | rfl <;> rfl
  obtain ⟨v', w', k1, k2, k3, _, _⟩ := run_append_own_at (P := Try.prog) (w := w) base 22 ty 25 i _ 3 24 Try.underlying22 hi hz hsz hby rfl (by omega) v L.length (askC L) hown.own ad M.length c (askC M) (askC_len M) hnews h1 (by unfold maxLen; omega) hN hbase
  refine ⟨v', w', k1, ⟨?_, fun d hd => (List.mem_append.1 hd).elim (hown.wf d) (hwf d)⟩, k3⟩
  rw [List.length_append, askC_app]
  exact k2
section
variable {w : World} {ops : Array Oper} {rest : List Oper} {o : Oper} {a : Act} {Q : Exit → Act → World → Prop}
theorem step_append3 {E : Prop} {K : Act → World → Prop} (hgd : o.guard = none) (s x : Operand) (ho : o.op = .call { callee := .builtin .append, args := #[s, x], argTypes := #[22, 22] }) (base : Nat) (v : Value) (L M : List AskD) (hs : a.eval s = v) (hown : OwnA w base v L)
    (ad : Addr) (m c : Nat) (hx : a.eval x = .slice (some ad) m c) (hm : m = M.length) (hM : 0 < M.length) (hnews : ∀ j u, (askC M)[j]? = some u → w.cell? (ad.add j) = some u) (hwf : ∀ d ∈ M, d.wf) (hN : (L.length + M.length) * 24 ≤ 140737488355328) (hbase : base ≤ w.heap.size)
    (h : ∀ v' w', OwnA w' base v' (L ++ M) → w.grownBy w' v.ownBlock → K (a.put o.dst v') w') :
    if Region.wanted o (yielded ops a.tmps) = true then Oper.wp Try.prog o a w K Q else E := by
  subst hm
  obtain ⟨v', w', k1, k2, k3⟩ := run_append3 w o.type base v L M hown ad c hM hnews hwf hN hbase
  have hw : Region.wanted o (yielded ops a.tmps) = true := by simp [Region.wanted, hgd]
  rw [if_pos hw]
  unfold Oper.wp
  simp [execOp, ho, resolve, invoke, builtin, hs, hx, k1, Result.andThen]
  exact h v' w' k2 k3
theorem wpList_append3 (hgd : o.guard = none) (s x : Operand) (ho : o.op = .call { callee := .builtin .append, args := #[s, x], argTypes := #[22, 22] }) (base : Nat) (v : Value) (L M : List AskD) (hs : a.eval s = v) (hown : OwnA w base v L)
    (ad : Addr) (m c : Nat) (hx : a.eval x = .slice (some ad) m c) (hm : m = M.length) (hM : 0 < M.length) (hnews : ∀ j u, (askC M)[j]? = some u → w.cell? (ad.add j) = some u) (hwf : ∀ d ∈ M, d.wf) (hN : (L.length + M.length) * 24 ≤ 140737488355328) (hbase : base ≤ w.heap.size)
    (h : ∀ v' w', OwnA w' base v' (L ++ M) → w.grownBy w' v.ownBlock → wpList Try.prog ops Q rest (a.put o.dst v') w') :
    wpList Try.prog ops Q (o :: rest) a w := by
  subst hm
  obtain ⟨v', w', k1, k2, k3⟩ := run_append3 w o.type base v L M hown ad c hM hnews hwf hN hbase
  refine wpList_plain hgd fun K hK => ?_
  unfold Oper.wp
  simp [execOp, ho, resolve, invoke, builtin, hs, hx, k1, Result.andThen]
  exact hK _ _ (h v' w' k2 k3)
end
theorem within_any (n hi : Int) (hh : hi = 20 ∨ hi = 6) (w : World) (hn : -9223372036854775808 ≤ n ∧ n < 9223372036854775808) :
    Calls Try.prog 9 #[.int .i64 n, .int .i64 1, .int .i64 hi] w fun e w' => (∃ r, e = .returned (.int .i64 r) ∧ -9223372036854775808 ≤ r ∧ r < 9223372036854775808) ∧ w' = w := by
  have ht1 : -hi < n.tmod hi := Int.lt_tmod_of_pos n (by omega)
  have ht2 : n.tmod hi < hi := Int.tmod_lt_of_pos n (by omega)
  rcases hh with rfl | rfl
  · go_enter Try.func9, Try.ntmps9
    go_wp2
    all_goals go_ret
    all_goals exact ⟨⟨_, rfl, by omega, by omega⟩, rfl⟩
  · go_enter Try.func9, Try.ntmps9
    go_wp2
    all_goals go_ret
    all_goals exact ⟨⟨_, rfl, by omega, by omega⟩, rfl⟩
set_option maxHeartbeats 1000000 in
set_option maxRecDepth 100000 in
theorem near_any (by_ : Int) (hby : by_ = 100 ∨ by_ = 17) (A : Option Addr) (n c : Nat) (L : List AskD) (w : World) (hl : Asks w w.heap.size A n c L) (hs : n * 24 ≤ 140737488351232) :
    Calls Try.prog 10 #[.slice A n c, .int .u64 by_] w fun e w' => ∃ A' n' c' L', e = .returned (.slice A' n' c') ∧ Asks w' w'.heap.size A' n' c' L' ∧ Below w.heap.size w w' := by
  have HL := Lib.hid hl
  have hnc := hl.2.1
  have hcm := hl.2.2.1
  have HLN := Lib.hid hl.1
  have hcm' : c ≤ 9223372036854775807 := by unfold maxLen at hcm; omega
  clear hl
  rcases hby with rfl | rfl
  · go_enter Try.func10, Try.ntmps10
    go_wp2
    go_loopg [5, 6] n (fun kx s5 s6 wr => ∃ (i : Nat) (v : Value) (M : List AskD), v = s5 ∧ s6 = .int .i64 i ∧ i ≤ n ∧ n - i ≤ kx ∧ Below w.heap.size w wr ∧ OwnA wr w.heap.size v M ∧ M.length = i)
    case atStart => exact ⟨0, _, [], rfl, rfl, Nat.zero_le _, by omega, Below.refl _ _, OwnA.nil_ _ _, rfl⟩
    case round =>
      obtain ⟨i, v, M, rfl, rfl, hin, hk, hB, hO, hM⟩ := hrel
      by_cases hlt : i < n
      · obtain ⟨d, hi⟩ : ∃ d, L[i]? = some d := ⟨_, List.getElem?_eq_getElem (by rw [HLN.out]; exact hlt)⟩
        have hak := HL.out.below hB
        obtain ⟨b, off, rfl, hblt, hcell⟩ := hak.2.2.2.2 (by omega)
        have ha := hcell i d hi
        have ck := ha.ck
        have cl := ha.cl
        have ch := ha.ch
        have hwf := ha.wf
        unfold AskD.wf at hwf
        clear ha hcell hak hi
        obtain ⟨kk, lo, hi⟩ := d
        simp only at ck cl ch hwf
        have hiz : (i : Int) < (n : Int) := by omega
        have mixed : Try.prog.follows .mixedOrders = true := by kernel_rfl
        have hq1 : IntKind.u64.wrap 12 = 12 := by rw [IntKind.wrap_u64]; omega
        have hq2 : IntKind.u64.wrap (12 + 2) = 14 := by rw [IntKind.wrap_u64]; omega
        have hq3 : IntKind.u64.wrap 14 = 14 := by rw [IntKind.wrap_u64]; omega
        have htm : hi.tmod 14 = hi % 14 := Int.tmod_eq_emod_of_nonneg (by omega)
        have hsm : IntKind.u64.wrap (lo % 100 + hi % 14) = lo % 100 + hi % 14 := by rw [IntKind.wrap_u64]; omega
        have ho2 : OwnA (wr.drew.alloc (.cells #[.int .i64 kk, .int .u64 (lo % 100), .int .u64 (lo % 100 + hi % 14)] 25)) w.heap.size v M := hO.keep fun k hk => Below.heap_alloc wr.drew _ k (hO.lt k hk).2
        have hnew : ∀ j u, (askC [⟨kk, lo % 100, lo % 100 + hi % 14⟩])[j]? = some u → (wr.drew.alloc (.cells #[.int .i64 kk, .int .u64 (lo % 100), .int .u64 (lo % 100 + hi % 14)] 25)).cell? ((⟨wr.heap.size, 0, none⟩ : Addr).add j) = some u := fun j u hj => by
          rw [Addr.add_lit, show wr.heap.size = wr.drew.heap.size from rfl, cell_of_row _ _ _ _ _ _ (heap_alloc_new wr.drew _), Nat.zero_add]
          simpa [askC, acC] using hj
        have hwd : ∀ d ∈ ([⟨kk, lo % 100, lo % 100 + hi % 14⟩] : List AskD), d.wf := fun d hd => by
          rw [List.mem_singleton] at hd
          subst hd
          unfold AskD.wf
          simp only
          omega
        have HW := Lib.hid hwd
        have HNEW := Lib.hid hnew
        have HO2 := Lib.hid ho2
        have HB := Lib.hid hB
        have HM := Lib.hid hM
        clear hwd hnew ho2 hB hM hO
        have hbs : w.heap.size ≤ wr.heap.size := HB.out.size
        go_wp2_with fail
        go_region_law_o (refine step_append3 rfl (.tmp 21) (.tmp 40) rfl w.heap.size v M [⟨kk, lo % 100, lo % 100 + hi % 14⟩] (by simp [Act.eval, Act.put]) HO2.out ⟨wr.heap.size, 0, none⟩ 1 1 (by simp [Act.eval, Act.put]) rfl (by simp) HNEW.out HW.out (by have := HM.out; simp; omega) (by simp; omega) ?_; intro v2 w2 hown2 hg2)
        all_goals have hb2 : Below w.heap.size w w2 := (HB.out.drew.alloc (by simpa using hbs) _).grown hg2 (by simp; omega) (fun k hk => (HO2.out.lt k hk).1)
        all_goals have HOW := Lib.hid hown2
        all_goals have HB2 := Lib.hid hb2
        all_goals clear hown2 hg2 hb2
        all_goals go_wp2
        all_goals go_roundg (n - (i + 1))
        all_goals first
          | omega
          | exact ⟨i + 1, v2, _, rfl, by simp, by omega, by omega, HB2.out, HOW.out, by have := HM.out; simp; omega⟩
      · have hiz : ¬ (i : Int) < (n : Int) := by omega
        obtain ⟨A2, c2, rfl, ha2⟩ := hO.asks
        have HA2 := Lib.hid ha2
        have HB := Lib.hid hB
        clear ha2 hB hO hM
        go_wp2
        go_ret
        exact ⟨_, _, _, rfl, ⟨_, HA2.out⟩, HB.out⟩
  · go_enter Try.func10, Try.ntmps10
    go_wp2
    go_loopg [5, 6] n (fun kx s5 s6 wr => ∃ (i : Nat) (v : Value) (M : List AskD), v = s5 ∧ s6 = .int .i64 i ∧ i ≤ n ∧ n - i ≤ kx ∧ Below w.heap.size w wr ∧ OwnA wr w.heap.size v M ∧ M.length = i)
    case atStart => exact ⟨0, _, [], rfl, rfl, Nat.zero_le _, by omega, Below.refl _ _, OwnA.nil_ _ _, rfl⟩
    case round =>
      obtain ⟨i, v, M, rfl, rfl, hin, hk, hB, hO, hM⟩ := hrel
      by_cases hlt : i < n
      · obtain ⟨d, hi⟩ : ∃ d, L[i]? = some d := ⟨_, List.getElem?_eq_getElem (by rw [HLN.out]; exact hlt)⟩
        have hak := HL.out.below hB
        obtain ⟨b, off, rfl, hblt, hcell⟩ := hak.2.2.2.2 (by omega)
        have ha := hcell i d hi
        have ck := ha.ck
        have cl := ha.cl
        have ch := ha.ch
        have hwf := ha.wf
        unfold AskD.wf at hwf
        clear ha hcell hak hi
        obtain ⟨kk, lo, hi⟩ := d
        simp only at ck cl ch hwf
        have hiz : (i : Int) < (n : Int) := by omega
        have mixed : Try.prog.follows .mixedOrders = true := by kernel_rfl
        have hq1 : IntKind.u64.wrap 2 = 2 := by rw [IntKind.wrap_u64]; omega
        have hq2 : IntKind.u64.wrap (2 + 2) = 4 := by rw [IntKind.wrap_u64]; omega
        have hq3 : IntKind.u64.wrap 4 = 4 := by rw [IntKind.wrap_u64]; omega
        have htm : hi.tmod 4 = hi % 4 := Int.tmod_eq_emod_of_nonneg (by omega)
        have hsm : IntKind.u64.wrap (lo % 17 + hi % 4) = lo % 17 + hi % 4 := by rw [IntKind.wrap_u64]; omega
        have ho2 : OwnA (wr.drew.alloc (.cells #[.int .i64 kk, .int .u64 (lo % 17), .int .u64 (lo % 17 + hi % 4)] 25)) w.heap.size v M := hO.keep fun k hk => Below.heap_alloc wr.drew _ k (hO.lt k hk).2
        have hnew : ∀ j u, (askC [⟨kk, lo % 17, lo % 17 + hi % 4⟩])[j]? = some u → (wr.drew.alloc (.cells #[.int .i64 kk, .int .u64 (lo % 17), .int .u64 (lo % 17 + hi % 4)] 25)).cell? ((⟨wr.heap.size, 0, none⟩ : Addr).add j) = some u := fun j u hj => by
          rw [Addr.add_lit, show wr.heap.size = wr.drew.heap.size from rfl, cell_of_row _ _ _ _ _ _ (heap_alloc_new wr.drew _), Nat.zero_add]
          simpa [askC, acC] using hj
        have hwd : ∀ d ∈ ([⟨kk, lo % 17, lo % 17 + hi % 4⟩] : List AskD), d.wf := fun d hd => by
          rw [List.mem_singleton] at hd
          subst hd
          unfold AskD.wf
          simp only
          omega
        have HW := Lib.hid hwd
        have HNEW := Lib.hid hnew
        have HO2 := Lib.hid ho2
        have HB := Lib.hid hB
        have HM := Lib.hid hM
        clear hwd hnew ho2 hB hM hO
        have hbs : w.heap.size ≤ wr.heap.size := HB.out.size
        go_wp2_with fail
        go_region_law_o (refine step_append3 rfl (.tmp 21) (.tmp 40) rfl w.heap.size v M [⟨kk, lo % 17, lo % 17 + hi % 4⟩] (by simp [Act.eval, Act.put]) HO2.out ⟨wr.heap.size, 0, none⟩ 1 1 (by simp [Act.eval, Act.put]) rfl (by simp) HNEW.out HW.out (by have := HM.out; simp; omega) (by simp; omega) ?_; intro v2 w2 hown2 hg2)
        all_goals have hb2 : Below w.heap.size w w2 := (HB.out.drew.alloc (by simpa using hbs) _).grown hg2 (by simp; omega) (fun k hk => (HO2.out.lt k hk).1)
        all_goals have HOW := Lib.hid hown2
        all_goals have HB2 := Lib.hid hb2
        all_goals clear hown2 hg2 hb2
        all_goals go_wp2
        all_goals go_roundg (n - (i + 1))
        all_goals first
          | omega
          | exact ⟨i + 1, v2, _, rfl, by simp, by omega, by omega, HB2.out, HOW.out, by have := HM.out; simp; omega⟩
      · have hiz : ¬ (i : Int) < (n : Int) := by omega
        obtain ⟨A2, c2, rfl, ha2⟩ := hO.asks
        have HA2 := Lib.hid ha2
        have HB := Lib.hid hB
        clear ha2 hB hO hM
        go_wp2
        go_ret
        exact ⟨_, _, _, rfl, ⟨_, HA2.out⟩, HB.out⟩
end Go.Proofs.Ytoooinjhcgpbgaa
