/-
  The document's ledger: Add.
-/
import Derived.Test.YtpihgikcgkipaaaUm
namespace Go.Proofs.Ytpihgikcgkipaaa
set_option linter.unusedVariables false
set_option linter.unusedSimpArgs false
open Go.RowKit
/-- What the document's Add leaves. -/
def RAddPost (base q : Nat) (nx ak : Int) (hd : Bool) (v : Value) (l : PL) (r : PK) (w : World) (e : Ending) (w' : World) : Prop :=
  (addBad nx r = true ∧ e = .returned (.int .i64 1) ∧ Below w.heap.size w w') ∨
  (addBad nx r = false ∧ r.a = true ∧ 64 ≤ l.length ∧ e = .returned (.int .i64 13) ∧ Below w.heap.size w w') ∨
  (addBad nx r = false ∧ (r.a = true → l.length < 64) ∧ e = .returned (.int .i64 0) ∧ ∃ v', RV w' base q (r.n + 1) ak hd v' (if r.a then l ++ [r] else l) ∧ Kept (· = q) w w' ∧ ∀ j, v'.ownBlock = some j → v.ownBlock = some j ∨ w.heap.size ≤ j)
theorem ownG_src {w : World} {base n c : Nat} {A : Option Addr} {xs : List Value} (h : OwnG w base (.slice A n c) n xs) : 0 < n → ∃ ad, A = some ad ∧ ∀ j u, xs[j]? = some u → w.cell? (ad.add j) = some u := fun h0 => by
  obtain ⟨A', c', e, _, _, _, h4⟩ := ownG_open h
  injection e with e1 e2 e3
  subst e1
  rcases h4 with ⟨_, h5, _⟩ | ⟨g, cur, rfl, _, _, hA, _, ht⟩
  · omega
  · refine ⟨_, rfl, fun j u hj => ?_⟩
    rw [Addr.add_lit, Nat.zero_add, hA.cell]
    rw [← ht, List.getElem?_take] at hj
    split at hj
    · exact hj
    · cases hj
theorem ownG_empty (w : World) (base g : Nat) (hg : g = w.heap.size) (hb : base ≤ g) : OwnG (w.alloc (.cells #[] 31)) base (.slice (some ⟨g, 0, none⟩) 0 0) 0 [] := by
  subst hg
  exact ownG_mk (cur := []) rfl hb (At.new w _ []) (Nat.le_refl _) (by unfold maxLen; omega) rfl rfl
theorem grown_below {B : Nat} {a w1 w2 : World} {v : Value} (hb : Below B a w1) (hB : B ≤ w1.heap.size) (hg : w1.grownBy w2 v.ownBlock) (hv : ∀ k, v.ownBlock = some k → B ≤ k) : Below B a w2 :=
  (Kept.of_grown (S := fun k => v.ownBlock = some k) hg (fun k hk => .inl hk)).below hb hB (fun j hj => hv j hj)
theorem radd_end {base q : Nat} {ak nx nx' : Int} {hd : Bool} {v v0 : Value} {l : PL} {w : World} {r : PK} (hown : OwnG w base v (l.length + 1) (plC l ++ pkC r)) (hq : At w q 28 [v0, .int .u64 nx, .int .u64 ak, .bool hd]) (hb : base ≤ q) :
    RV ((w.setCell ⟨q, 0, none⟩ v).setCell ⟨q, 1, none⟩ (.int .u64 nx')) base q nx' ak hd v (l ++ [r]) := by
  have hk : Kept (· = q) w ((w.setCell ⟨q, 0, none⟩ v).setCell ⟨q, 1, none⟩ (.int .u64 nx')) := ((Kept.refl _ _).setAt _ _).setAt _ _
  refine ⟨(hq.set 0 v).set 1 (.int .u64 nx'), ownG_kept ?_ hk ?_, hb⟩
  · show OwnG w base v (l ++ [r]).length (plC (l ++ [r]))
    rw [plC_app, plC_one_, List.length_append]
    exact hown
  · intro j hj e
    obtain ⟨cur, hA⟩ := ownG_type hown j hj
    subst e
    exact absurd (hA.type_eq hq) (by decide)
section
variable {base q : Nat} {nx ak : Int} {hd : Bool} {v : Value} {l : PL} {w : World}
set_option maxRecDepth 100000 in
set_option maxHeartbeats 4000000 in
theorem radd_bad (hs : RV w base q nx ak hd v l) (r : PK) (hb : addBad nx r = true) :
    Calls Try.prog 23 #[.pointer (some ⟨q, 0, none⟩), .agg (pkC r).toArray] w (fun e w' => e = .returned (.int .i64 1) ∧ Below w.heap.size w w') := by
  obtain ⟨n, t, s, a, A, k, c⟩ := r
  have hL1 := hs.at_.alloc (.cells #[.int .u64 n, .int .i64 t, .int .i64 s, .bool a, .slice A k c] 31)
  have cn := hL1.cell 1
  have HBZ := Lib.hid ((Below.refl _ w).alloc (Nat.le_refl _) (.cells #[.int .u64 n, .int .i64 t, .int .i64 s, .bool a, .slice A k c] 31))
  unfold addBad at hb
  simp only [Bool.or_eq_true, decide_eq_true_eq] at hb
  clear hs hL1
  rw [show Value.agg (pkC ⟨n, t, s, a, A, k, c⟩).toArray = .agg #[.int .u64 n, .int .i64 t, .int .i64 s, .bool a, .slice A k c] from rfl]
  by_cases c1 : n < nx
  · have H1 := Lib.hid (decide_eq_true c1)
    clear hb c1
    go_enter Try.func23, Try.ntmps23
    go_wp2
    have h1 := H1.out
    go_quiet (fail)
    go_wp2
    go_ret
    exact ⟨rfl, belowN HBZ.out _⟩
  have H1 := Lib.hid (decide_eq_false c1)
  by_cases c2 : 4611686018427387903 ≤ n
  · have H2 := Lib.hid (decide_eq_true c2)
    clear hb c1 c2
    go_enter Try.func23, Try.ntmps23
    go_wp2
    have h1 := H1.out
    have h2 := H2.out
    go_quiet (fail)
    go_wp2
    go_ret
    exact ⟨rfl, belowN HBZ.out _⟩
  have H2 := Lib.hid (decide_eq_false c2)
  by_cases c3 : t < 0
  · have H3 := Lib.hid (decide_eq_true c3)
    clear hb c1 c2 c3
    go_enter Try.func23, Try.ntmps23
    go_wp2
    have h1 := H1.out
    have h2 := H2.out
    have h3 := H3.out
    go_quiet (fail)
    go_wp2
    go_ret
    exact ⟨rfl, belowN HBZ.out _⟩
  have H3 := Lib.hid (decide_eq_false c3)
  by_cases c4 : s < 0
  · have H4 := Lib.hid (decide_eq_true c4)
    clear hb c1 c2 c3 c4
    go_enter Try.func23, Try.ntmps23
    go_wp2
    have h1 := H1.out
    have h2 := H2.out
    have h3 := H3.out
    have h4 := H4.out
    go_quiet (fail)
    go_wp2
    go_ret
    exact ⟨rfl, belowN HBZ.out _⟩
  have H4 := Lib.hid (decide_eq_false c4)
  have H5 := Lib.hid (decide_eq_true (show 512 < s by omega))
  clear hb c1 c2 c3 c4
  go_enter Try.func23, Try.ntmps23
  go_wp2
  have h1 := H1.out
  have h2 := H2.out
  have h3 := H3.out
  have h4 := H4.out
  have h5 := H5.out
  go_quiet (fail)
  go_wp2
  go_ret
  exact ⟨rfl, belowN HBZ.out _⟩
set_option maxRecDepth 100000 in
set_option maxHeartbeats 4000000 in
theorem radd_ok (hs : RV w base q nx ak hd v l) (r : PK) (hn : l.length ≤ 64) (hb : addBad nx r = false) (h0 : 0 ≤ nx) :
    Calls Try.prog 23 #[.pointer (some ⟨q, 0, none⟩), .agg (pkC r).toArray] w (RAddPost base q nx ak hd v l r w) := by
  have hb' := hb
  obtain ⟨n, t, s, a, A, k, c⟩ := r
  have hL1 := hs.below ((Below.refl w.heap.size w).alloc (Nat.le_refl _) (.cells #[.int .u64 n, .int .i64 t, .int .i64 s, .bool a, .slice A k c] 31))
  have hX1 := At.new w 31 [.int .u64 n, .int .i64 t, .int .i64 s, .bool a, .slice A k c]
  have cn := hL1.at_.cell 1
  have hB1 := ((Below.refl _ w).alloc (Nat.le_refl _) (.cells #[.int .u64 n, .int .i64 t, .int .i64 s, .bool a, .slice A k c] 31))
  have hpl := hs.at_.lt
  unfold addBad at hb
  simp only [Bool.or_eq_false_iff, decide_eq_false_iff_not] at hb
  obtain ⟨⟨⟨⟨c1, c2⟩, c3⟩, c4⟩, c5⟩ := hb
  have H1 := Lib.hid (decide_eq_false c1)
  have H2 := Lib.hid (decide_eq_false c2)
  have H3 := Lib.hid (decide_eq_false c3)
  have H4 := Lib.hid (decide_eq_false c4)
  have H5 := Lib.hid (decide_eq_false c5)
  have hw : IntKind.u64.wrap (n + 1) = n + 1 := by rw [IntKind.wrap_u64]; omega
  have HL1 := Lib.hid hL1
  have HX1 := Lib.hid hX1
  have HB1 := Lib.hid hB1
  have HBD := Lib.hid hb'
  clear hs hL1 hX1 hB1 hb' c1 c2 c3 c4 c5
  rw [show Value.agg (pkC ⟨n, t, s, a, A, k, c⟩).toArray = .agg #[.int .u64 n, .int .i64 t, .int .i64 s, .bool a, .slice A k c] from rfl]
  go_enter Try.func23, Try.ntmps23
  go_wp2
  have h1 := H1.out
  have h2 := H2.out
  have h3 := H3.out
  have h4 := H4.out
  have h5 := H5.out
  go_quiet (fail)
  generalize hW : World.drewN _ _ = W
  have hL : RV W base q nx ak hd v l := by subst hW; exact HL1.out.drewN _
  have hX : At W w.heap.size 31 [.int .u64 n, .int .i64 t, .int .i64 s, .bool a, .slice A k c] := by subst hW; exact HX1.out.drewN _
  have hB : Below w.heap.size w W := by subst hW; exact belowN HB1.out _
  clear hW cn h1 h2 h3 h4 h5 HL1 HX1 HB1
  have xa := hX.cell 3
  have xn := hX.cell 0
  cases a
  · have ln := hL.at_.cell 1
    have fn := hL.at_.frozen 1
    have hk : Kept (· = q) W (W.setCell ⟨q, 1, none⟩ (.int .u64 (n + 1))) := (Kept.refl _ _).setAt _ _
    have hL2 : RV (W.setCell ⟨q, 1, none⟩ (.int .u64 (n + 1))) base q (n + 1) ak hd v l := ⟨hL.at_.set 1 _, ownG_kept hL.own hk (fun j hj e => hL.ne (by rw [hj, e])), hL.bq⟩
    have hk2 : Kept (· = q) w (W.setCell ⟨q, 1, none⟩ (.int .u64 (n + 1))) := (Kept.of_below hB _).trans hk
    have HE := Lib.hid (And.intro hL2 hk2)
    clear hL hX hB hk hL2 hk2
    go_wp2
    go_ret
    refine .inr (.inr ⟨HBD.out, (fun h => by cases h), rfl, v, HE.out.1, HE.out.2, fun j hj => .inl hj⟩)
  · by_cases hfull : 64 ≤ l.length
    · obtain ⟨m, hm⟩ : ∃ m, l.length = m := ⟨_, rfl⟩
      obtain ⟨A5, c5, rfl, _, _⟩ := ownG_shape hL.own
      have l3 := hL.at_.cell 0
      rw [hm] at l3
      have hfz : (64 : Int) ≤ (m : Int) := by omega
      have HB := Lib.hid hB
      have HFU := Lib.hid hfull
      clear hL hX hB hfull hm
      go_wp2
      go_ret
      exact .inr (.inl ⟨HBD.out, rfl, HFU.out, rfl, HB.out⟩)
    · obtain ⟨m, hm⟩ : ∃ m, l.length = m := ⟨_, rfl⟩
      have hown0 : OwnG W base v m (plC l) := by have := hL.own; unfold OwnP at this; rw [hm] at this; exact this
      obtain ⟨A5, c5, rfl, hc51, hc52⟩ := ownG_shape hown0
      have l3 : W.cell? ⟨q, 0, none⟩ = some (.slice A5 m c5) := hL.at_.cell 0
      have l1 := hL.at_.cell 1
      have x1 := hX.cell 1
      have x2 := hX.cell 2
      have x4 := hX.cell 4
      have hqW := hL.at_.lt
      have hfz : ¬ (64 : Int) ≤ (m : Int) := by omega
      have HFU := Lib.hid hfull
      have HMM := Lib.hid hm
      have HL := Lib.hid hL
      have HX := Lib.hid hX
      have HB := Lib.hid hB
      have HO0 := Lib.hid hown0
      have HPL := Lib.hid (show (plC l).length = m * 5 by rw [plC_len, hm])
      rw [hm] at hn
      clear hL hX hB hfull hm hown0
      go_wp2_with fail
      clear l1
      have hbW : base ≤ W.heap.size := Nat.le_trans HL.out.bq (Nat.le_of_lt hqW)
      have HBW := Lib.hid hbW
      clear hbW
      have hd0 : Below W.heap.size W W.drew := ⟨rfl, rfl, rfl, Nat.le_refl _, fun _ _ => rfl⟩
      have hwW : w.heap.size < W.heap.size := HX.out.lt
      have HB1k := Lib.hid (hd0.alloc (Nat.le_refl _) (.cells #[] 31))
      have HB2k := Lib.hid ((hd0.alloc (Nat.le_refl _) (.cells #[] 31)).alloc (by simp) (.cells #[.int .u64 n, .int .i64 t, .int .i64 s, .bool true, .slice A k c] 31))
      have HB3k := Lib.hid ((hd0.alloc (Nat.le_refl _) (.cells #[.int .u64 n, .int .i64 t, .int .i64 s, .bool true, .slice A k c] 31)).alloc (by simp) (.cells #[] 31))
      have HW1 := Lib.hid (ownG_empty W.drew base W.heap.size rfl HBW.out)
      have HW2 := Lib.hid (ownG_below HW1.out ((Below.refl _ _).alloc (Nat.le_refl _) (.cells #[.int .u64 n, .int .i64 t, .int .i64 s, .bool true, .slice A k c] 31)))
      have HW3 := Lib.hid (ownG_empty (W.drew.alloc (.cells #[.int .u64 n, .int .i64 t, .int .i64 s, .bool true, .slice A k c] 31)) base (W.heap.size + 1) (by simp) (Nat.le_succ_of_le HBW.out))
      have HX2 := Lib.hid (At.new_ (w := W.drew.alloc (.cells #[] 31)) 31 (pkC ⟨n, t, s, true, A, k, c⟩) (W.heap.size + 1) (by simp))
      have HX3 := Lib.hid ((At.new W.drew 31 (pkC ⟨n, t, s, true, A, k, c⟩)).alloc (.cells #[] 31))
      have HS1 := Lib.hid (ownG_src (ownG_below HO0.out HB1k.out))
      have HZ1 := Lib.hid (Nat.le_trans HBW.out HB1k.out.size)
      have HS2 := Lib.hid (ownG_src (ownG_below HO0.out HB2k.out))
      have HZ2 := Lib.hid (Nat.le_trans HBW.out HB2k.out.size)
      have HS3 := Lib.hid (ownG_src (ownG_below HO0.out HB3k.out))
      have HZ3 := Lib.hid (Nat.le_trans HBW.out HB3k.out.size)
      have mixed : Try.prog.follows .mixedOrders = true := by kernel_rfl
      have HONE := Lib.hid (fun (u : Value) (hu : u ∈ pkC ⟨n, t, s, true, A, k, c⟩) => plC_one [⟨n, t, s, true, A, k, c⟩] u (by rw [plC_one_]; exact hu))
      go_region_law_o (first | (refine step_appendP rfl (.tmp 45) (.tmp 49) rfl base (.slice (some ⟨W.heap.size, 0, none⟩) 0 0) 0 [] (by simp [Act.eval, Act.put]) HW1.out A5 m c5 (by simp [Act.eval, Act.put]) (plC l) HPL.out HS1.out (plC_one l) (by omega) HZ1.out ?_; intro v50 w50 hown50 hgr50 hv50 _; rw [Nat.zero_add, List.nil_append] at hown50; have hb50 := grown_below HB1k.out HB1k.out.size hgr50 (fun j hj => by have e := Option.some.inj (show some W.heap.size = some j from hj); omega); have y0 := (hb50.cell (p := ⟨w.heap.size, 0, none⟩) hwW).trans xn; have y1 := (hb50.cell (p := ⟨w.heap.size, 1, none⟩) hwW).trans x1; have y2 := (hb50.cell (p := ⟨w.heap.size, 2, none⟩) hwW).trans x2; have y3 := (hb50.cell (p := ⟨w.heap.size, 3, none⟩) hwW).trans xa; have y4 := (hb50.cell (p := ⟨w.heap.size, 4, none⟩) hwW).trans x4; obtain ⟨A6, c6, rfl, _, _⟩ := ownG_shape hown50; have HV50 := Lib.hid hown50; have HB50 := Lib.hid hb50; have HZ50 := Lib.hid (Nat.le_trans HBW.out hb50.size); have HP50 := Lib.hid (ownG_lt hown50); have hvb : ∀ j, (Value.slice A6 m c6).ownBlock = some j → W.heap.size ≤ j := fun j hj => hv50.elim (fun h => by have e := Option.some.inj (show some W.heap.size = some j from h.symm.trans hj); omega) (fun h => by have e : (W.drew.alloc (.cells #[] 31)).heap.size = j := Option.some.inj (h.symm.trans hj); have h7 := HB1k.out.size; rw [e] at h7; exact h7); have HVB := Lib.hid hvb; clear hown50 hgr50 hv50 hb50 hvb) | (refine step_appendP rfl (.tmp 45) (.tmp 49) rfl base (.slice (some ⟨W.heap.size, 0, none⟩) 0 0) 0 [] (by simp [Act.eval, Act.put]) HW2.out A5 m c5 (by simp [Act.eval, Act.put]) (plC l) HPL.out HS2.out (plC_one l) (by omega) HZ2.out ?_; intro v50 w50 hown50 hgr50 hv50 _; rw [Nat.zero_add, List.nil_append] at hown50; have hb50 := grown_below HB2k.out HB2k.out.size hgr50 (fun j hj => by have e := Option.some.inj (show some W.heap.size = some j from hj); omega); have y0 := (hb50.cell (p := ⟨w.heap.size, 0, none⟩) hwW).trans xn; have y1 := (hb50.cell (p := ⟨w.heap.size, 1, none⟩) hwW).trans x1; have y2 := (hb50.cell (p := ⟨w.heap.size, 2, none⟩) hwW).trans x2; have y3 := (hb50.cell (p := ⟨w.heap.size, 3, none⟩) hwW).trans xa; have y4 := (hb50.cell (p := ⟨w.heap.size, 4, none⟩) hwW).trans x4; have HX50 := Lib.hid (HX2.out.kept (Kept.of_grown (S := fun j => (Value.slice (some ⟨W.heap.size, 0, none⟩) 0 0).ownBlock = some j) hgr50 (fun k hk => .inl hk)) (fun hj => by have e := Option.some.inj (show some W.heap.size = some (W.heap.size + 1) from hj); omega)); obtain ⟨A6, c6, rfl, _, _⟩ := ownG_shape hown50; have HV50 := Lib.hid hown50; have HB50 := Lib.hid hb50; have HZ50 := Lib.hid (Nat.le_trans HBW.out hb50.size); have HP50 := Lib.hid (ownG_lt hown50); have hvb : ∀ j, (Value.slice A6 m c6).ownBlock = some j → W.heap.size ≤ j := fun j hj => hv50.elim (fun h => by have e := Option.some.inj (show some W.heap.size = some j from h.symm.trans hj); omega) (fun h => by have e : ((W.drew.alloc (.cells #[] 31)).alloc (.cells #[.int .u64 n, .int .i64 t, .int .i64 s, .bool true, .slice A k c] 31)).heap.size = j := Option.some.inj (h.symm.trans hj); have h7 := HB2k.out.size; rw [e] at h7; exact h7); have HVB := Lib.hid hvb; clear hown50 hgr50 hv50 hb50 hvb) | (refine step_appendP rfl (.tmp 45) (.tmp 49) rfl base (.slice (some ⟨(W.heap.size + 1), 0, none⟩) 0 0) 0 [] (by simp [Act.eval, Act.put]) HW3.out A5 m c5 (by simp [Act.eval, Act.put]) (plC l) HPL.out HS3.out (plC_one l) (by omega) HZ3.out ?_; intro v50 w50 hown50 hgr50 hv50 _; rw [Nat.zero_add, List.nil_append] at hown50; have hb50 := grown_below HB3k.out HB3k.out.size hgr50 (fun j hj => by have e := Option.some.inj (show some (W.heap.size + 1) = some j from hj); omega); have y0 := (hb50.cell (p := ⟨w.heap.size, 0, none⟩) hwW).trans xn; have y1 := (hb50.cell (p := ⟨w.heap.size, 1, none⟩) hwW).trans x1; have y2 := (hb50.cell (p := ⟨w.heap.size, 2, none⟩) hwW).trans x2; have y3 := (hb50.cell (p := ⟨w.heap.size, 3, none⟩) hwW).trans xa; have y4 := (hb50.cell (p := ⟨w.heap.size, 4, none⟩) hwW).trans x4; have HX50 := Lib.hid (HX3.out.kept (Kept.of_grown (S := fun j => (Value.slice (some ⟨(W.heap.size + 1), 0, none⟩) 0 0).ownBlock = some j) hgr50 (fun k hk => .inl hk)) (fun hj => by have e := Option.some.inj (show some (W.heap.size + 1) = some W.heap.size from hj); omega)); obtain ⟨A6, c6, rfl, _, _⟩ := ownG_shape hown50; have HV50 := Lib.hid hown50; have HB50 := Lib.hid hb50; have HZ50 := Lib.hid (Nat.le_trans HBW.out hb50.size); have HP50 := Lib.hid (ownG_lt hown50); have hvb : ∀ j, (Value.slice A6 m c6).ownBlock = some j → W.heap.size ≤ j := fun j hj => hv50.elim (fun h => by have e := Option.some.inj (show some (W.heap.size + 1) = some j from h.symm.trans hj); omega) (fun h => by have e : ((W.drew.alloc (.cells #[.int .u64 n, .int .i64 t, .int .i64 s, .bool true, .slice A k c] 31)).alloc (.cells #[] 31)).heap.size = j := Option.some.inj (h.symm.trans hj); have h7 := HB3k.out.size; rw [e] at h7; exact h7); have HVB := Lib.hid hvb; clear hown50 hgr50 hv50 hb50 hvb) | (refine step_appendP rfl (.tmp 50) (.tmp 52) rfl base (.slice A6 m c6) m (plC l) (by simp [Act.eval, Act.put]) (ownG_below HV50.out ((Below.refl w50.heap.size w50).alloc (Nat.le_refl _) (.cells #[.int .u64 n, .int .i64 t, .int .i64 s, .bool true, .slice A k c] 31))) (some ⟨w50.heap.size, 0, none⟩) 1 1 (by simp [Act.eval, Act.put]) (pkC ⟨n, t, s, true, A, k, c⟩) rfl (fun _ => ⟨_, rfl, fun j u hj => by rw [Addr.add_lit, Nat.zero_add]; exact ((At.new w50 31 (pkC ⟨n, t, s, true, A, k, c⟩)).cell j).trans hj⟩) HONE.out (by omega) (Nat.le_trans HZ50.out (((Below.refl w50.heap.size w50).alloc (Nat.le_refl _) (.cells #[.int .u64 n, .int .i64 t, .int .i64 s, .bool true, .slice A k c] 31))).size) ?_; intro v53 w53 hown53 hgr53 hv53 _; have hb53 := grown_below (HB50.out.alloc HB50.out.size (.cells #[.int .u64 n, .int .i64 t, .int .i64 s, .bool true, .slice A k c] 31)) (Nat.le_trans HB50.out.size (((Below.refl w50.heap.size w50).alloc (Nat.le_refl _) (.cells #[.int .u64 n, .int .i64 t, .int .i64 s, .bool true, .slice A k c] 31))).size) hgr53 HVB.out; have z0 := (hb53.cell (p := ⟨w.heap.size, 0, none⟩) hwW).trans xn; have hq53 := HL.out.at_.below hb53 hqW; have l0q := hq53.cell 0; have f0q := hq53.frozen 0; have l1q := hq53.cell 1; have f1q := hq53.frozen 1; obtain ⟨A7, c7, rfl, _, _⟩ := ownG_shape hown53; have hv53b : ∀ j, (Value.slice A7 (m + 1) c7).ownBlock = some j → W.heap.size ≤ j := fun j hj => hv53.elim (fun h => HVB.out j (h.symm.trans hj)) (fun h => by have e := Option.some.inj (h.symm.trans hj); have h8 := Nat.le_trans HB50.out.size (((Below.refl w50.heap.size w50).alloc (Nat.le_refl _) (.cells #[.int .u64 n, .int .i64 t, .int .i64 s, .bool true, .slice A k c] 31))).size; rw [← e]; exact h8); have HF := Lib.hid (And.intro hown53 (And.intro hb53 (And.intro hq53 hv53b))); clear hown53 hgr53 hv53 hb53 hq53 hv53b) | (refine step_appendP rfl (.tmp 50) (.tmp 52) rfl base (.slice A6 m c6) m (plC l) (by simp [Act.eval, Act.put]) HV50.out (some ⟨(W.heap.size + 1), 0, none⟩) 1 1 (by simp [Act.eval, Act.put]) (pkC ⟨n, t, s, true, A, k, c⟩) rfl (fun _ => ⟨_, rfl, fun j u hj => by rw [Addr.add_lit, Nat.zero_add]; exact (HX50.out.cell j).trans hj⟩) HONE.out (by omega) HZ50.out ?_; intro v53 w53 hown53 hgr53 hv53 _; have hb53 := grown_below HB50.out (Nat.le_trans HB50.out.size (Nat.le_refl _)) hgr53 HVB.out; have z0 := (hb53.cell (p := ⟨w.heap.size, 0, none⟩) hwW).trans xn; have hq53 := HL.out.at_.below hb53 hqW; have l0q := hq53.cell 0; have f0q := hq53.frozen 0; have l1q := hq53.cell 1; have f1q := hq53.frozen 1; obtain ⟨A7, c7, rfl, _, _⟩ := ownG_shape hown53; have hv53b : ∀ j, (Value.slice A7 (m + 1) c7).ownBlock = some j → W.heap.size ≤ j := fun j hj => hv53.elim (fun h => HVB.out j (h.symm.trans hj)) (fun h => by have e := Option.some.inj (h.symm.trans hj); have h8 := Nat.le_trans HB50.out.size (Nat.le_refl _); rw [← e]; exact h8); have HF := Lib.hid (And.intro hown53 (And.intro hb53 (And.intro hq53 hv53b))); clear hown53 hgr53 hv53 hb53 hq53 hv53b) | (refine step_appendP rfl (.tmp 50) (.tmp 52) rfl base (.slice A6 m c6) m (plC l) (by simp [Act.eval, Act.put]) HV50.out (some ⟨W.heap.size, 0, none⟩) 1 1 (by simp [Act.eval, Act.put]) (pkC ⟨n, t, s, true, A, k, c⟩) rfl (fun _ => ⟨_, rfl, fun j u hj => by rw [Addr.add_lit, Nat.zero_add]; exact (HX50.out.cell j).trans hj⟩) HONE.out (by omega) HZ50.out ?_; intro v53 w53 hown53 hgr53 hv53 _; have hb53 := grown_below HB50.out (Nat.le_trans HB50.out.size (Nat.le_refl _)) hgr53 HVB.out; have z0 := (hb53.cell (p := ⟨w.heap.size, 0, none⟩) hwW).trans xn; have hq53 := HL.out.at_.below hb53 hqW; have l0q := hq53.cell 0; have f0q := hq53.frozen 0; have l1q := hq53.cell 1; have f1q := hq53.frozen 1; obtain ⟨A7, c7, rfl, _, _⟩ := ownG_shape hown53; have hv53b : ∀ j, (Value.slice A7 (m + 1) c7).ownBlock = some j → W.heap.size ≤ j := fun j hj => hv53.elim (fun h => HVB.out j (h.symm.trans hj)) (fun h => by have e := Option.some.inj (h.symm.trans hj); have h8 := Nat.le_trans HB50.out.size (Nat.le_refl _); rw [← e]; exact h8); have HF := Lib.hid (And.intro hown53 (And.intro hb53 (And.intro hq53 hv53b))); clear hown53 hgr53 hv53 hb53 hq53 hv53b))
      all_goals go_wp2
      all_goals go_ret
      all_goals exact .inr (.inr ⟨HBD.out, fun _ => by have := HFU.out; omega, rfl, _, radd_end (by rw [HMM.out]; exact HF.out.1) HF.out.2.2.1 HL.out.bq, (Kept.of_below (HB.out.trans (HF.out.2.1.mono HB.out.size)) _).trans (((Kept.refl _ _).setAt _ _).setAt _ _), fun j hj => .inr (Nat.le_trans HB.out.size (HF.out.2.2.2 j hj))⟩)
/-- The document's Add, whatever is handed in. -/
theorem radd_any (hs : RV w base q nx ak hd v l) (r : PK) (hn : l.length ≤ 64) (h0 : 0 ≤ nx) :
    Calls Try.prog 23 #[.pointer (some ⟨q, 0, none⟩), .agg (pkC r).toArray] w (RAddPost base q nx ak hd v l r w) := by
  cases hb : addBad nx r
  · exact radd_ok hs r hn hb h0
  · exact (radd_bad hs r hb).mono fun e w' h => .inl ⟨hb, h⟩
end
end Go.Proofs.Ytpihgikcgkipaaa
