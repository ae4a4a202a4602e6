/-
  sent: Add.
-/
import Derived.Test.YtpihgikcgkipaaaUg
namespace Go.Proofs.Ytpihgikcgkipaaa
set_option linter.unusedVariables false
set_option linter.unusedSimpArgs false
open Go.RowKit
section
variable {w : World} {ops : Array Oper} {o : Oper} {a : Act} {Q : Exit → Act → World → Prop} {dst : Option Tmp} {x y : Operand} {t : TypeId} {pos : String} {after : Array Edge}
theorem step_bsp {E : Prop} {K : Act → World → Prop} (r : PK) (g : Nat) (hg : g = w.heap.size) (hx : a.eval x = .agg (pkC r).toArray) (h : K (a.put dst (.slice (some ⟨g, 0, none⟩) 1 1)) (w.alloc (.cells (pkC r).toArray 31))) :
    if Region.wanted ⟨dst, .buildSlice 25 1 #[(0, x)], t, pos, after, none⟩ (yielded ops a.tmps) = true then Oper.wp Try.prog ⟨dst, .buildSlice 25 1 #[(0, x)], t, pos, after, none⟩ a w K Q else E := by
  subst hg
  rw [if_pos (by rfl)]
  unfold Oper.wp
  simp [execOp, hx, run_bsp w r, Result.andThen]
  exact h
end
def addBad (nx : Int) (r : PK) : Bool := decide (r.n < nx) || decide (4611686018427387903 ≤ r.n) || decide (r.t < 0) || decide (r.s < 0) || decide (512 < r.s)
/-- What Add leaves. -/
def AddPost (base p : Nat) (nx ak : Int) (hd : Bool) (v : Value) (l : PL) (r : PK) (w : World) (e : Ending) (w' : World) : Prop :=
  (addBad nx r = true ∧ e = .returned (.int .i64 1) ∧ Below w.heap.size w w') ∨
  (addBad nx r = false ∧ r.a = true ∧ 64 ≤ l.length ∧ e = .returned (.int .i64 13) ∧ Below w.heap.size w w') ∨
  (addBad nx r = false ∧ (r.a = true → l.length < 64) ∧ e = .returned (.int .i64 0) ∧ ∃ v' A c, LV w' base p (r.n + 1) ak hd v' (if r.a then l ++ [r.put A c] else l) ∧ Kept (fun j => j = p ∨ v.ownBlock = some j) w w' ∧ ∀ j, v'.ownBlock = some j → v.ownBlock = some j ∨ w.heap.size ≤ j)
section
variable {base p : Nat} {nx ak : Int} {hd : Bool} {v : Value} {l : PL} {w : World}
set_option maxRecDepth 100000 in
set_option maxHeartbeats 4000000 in
theorem sadd_bad (hs : LV w base p nx ak hd v l) (r : PK) (hb : addBad nx r = true) :
    Calls Try.prog 10 #[.pointer (some ⟨p, 0, none⟩), .agg (pkC r).toArray] w (fun e w' => e = .returned (.int .i64 1) ∧ Below w.heap.size w w') := by
  obtain ⟨n, t, s, a, A, k, c⟩ := r
  have hL1 := hs.at_.alloc (.cells #[.int .u64 n, .int .i64 t, .int .i64 s, .bool a, .slice A k c] 31)
  have cn := hL1.cell 0
  have HBZ := Lib.hid ((Below.refl _ w).alloc (Nat.le_refl _) (.cells #[.int .u64 n, .int .i64 t, .int .i64 s, .bool a, .slice A k c] 31))
  unfold addBad at hb
  simp only [Bool.or_eq_true, decide_eq_true_eq] at hb
  clear hs hL1
  rw [show Value.agg (pkC ⟨n, t, s, a, A, k, c⟩).toArray = .agg #[.int .u64 n, .int .i64 t, .int .i64 s, .bool a, .slice A k c] from rfl]
  by_cases c1 : n < nx
  · have H1 := Lib.hid (decide_eq_true c1)
    clear hb c1
    go_enter Try.func10, Try.ntmps10
    go_wp2
    have h1 := H1.out
    go_quiet (fail)
    go_wp2
    go_ret
    exact ⟨rfl, belowN HBZ.out _⟩
  have H1 := Lib.hid (decide_eq_false c1)
  by_cases c2 : 4611686018427387903 ≤ n
  · have H2 := Lib.hid (decide_eq_true c2)
    clear hb c1 c2
    go_enter Try.func10, Try.ntmps10
    go_wp2
    have h1 := H1.out
    have h2 := H2.out
    go_quiet (fail)
    go_wp2
    go_ret
    exact ⟨rfl, belowN HBZ.out _⟩
  have H2 := Lib.hid (decide_eq_false c2)
  by_cases c3 : t < 0
  · have H3 := Lib.hid (decide_eq_true c3)
    clear hb c1 c2 c3
    go_enter Try.func10, Try.ntmps10
    go_wp2
    have h1 := H1.out
    have h2 := H2.out
    have h3 := H3.out
    go_quiet (fail)
    go_wp2
    go_ret
    exact ⟨rfl, belowN HBZ.out _⟩
  have H3 := Lib.hid (decide_eq_false c3)
  by_cases c4 : s < 0
  · have H4 := Lib.hid (decide_eq_true c4)
    clear hb c1 c2 c3 c4
    go_enter Try.func10, Try.ntmps10
    go_wp2
    have h1 := H1.out
    have h2 := H2.out
    have h3 := H3.out
    have h4 := H4.out
    go_quiet (fail)
    go_wp2
    go_ret
    exact ⟨rfl, belowN HBZ.out _⟩
  have H4 := Lib.hid (decide_eq_false c4)
  have H5 := Lib.hid (decide_eq_true (show 512 < s by omega))
  clear hb c1 c2 c3 c4
  go_enter Try.func10, Try.ntmps10
  go_wp2
  have h1 := H1.out
  have h2 := H2.out
  have h3 := H3.out
  have h4 := H4.out
  have h5 := H5.out
  go_quiet (fail)
  go_wp2
  go_ret
  exact ⟨rfl, belowN HBZ.out _⟩
theorem add_end {w1 w2 : World} {v' : Value} {r : PK} (h : LV w1 base p nx ak hd v l) (hf : FrOk w1 base r) (hown : OwnG w2 base v' (l.length + 1) (plC l ++ pkC r)) (hg : w1.grownBy w2 v.ownBlock) :
    LV (w2.setCell ⟨p, 3, none⟩ v') base p nx ak hd v' (l ++ [r]) ∧ Kept (fun j => j = p ∨ v.ownBlock = some j) w1 (w2.setCell ⟨p, 3, none⟩ v') := by
  have hk2 := Kept.of_grown (S := fun j => v.ownBlock = some j) hg (fun k hk => .inl hk)
  have hp3 := h.at_.kept hk2 h.ne
  have hk3 : Kept (· = p) w2 (w2.setCell ⟨p, 3, none⟩ v') := (Kept.refl _ _).setAt _ _
  have hn2 : NoFr w1 (fun j => v.ownBlock = some j) := fun j hj => h.noFr2 j (.inr hj)
  have hn3 : NoFr w2 (· = p) := NoFr.of_type fun j hj => by subst hj; exact ⟨_, _, hp3, by decide⟩
  have hne : ∀ j, v'.ownBlock = some j → ¬ j = p := fun j hj e => by
    obtain ⟨cur, hA⟩ := ownG_type hown j hj
    subst e
    exact absurd (hA.type_eq hp3) (by decide)
  refine ⟨⟨hp3.set 3 v', ?_, fun x hx => ?_, h.bp⟩, (hk2.mono fun j hj => .inl (.inr hj)).trans (hk3.mono fun j hj => .inl (.inl hj))⟩
  · refine ownG_kept ?_ hk3 hne
    show OwnG w2 base v' (l ++ [r]).length (plC (l ++ [r]))
    rw [plC_app, plC_one_, List.length_append]
    exact hown
  · rcases List.mem_append.1 hx with hx | hx
    · exact ((h.fr x hx).kept hk2 hn2).kept hk3 hn3
    · rw [List.mem_singleton] at hx
      subst hx
      exact (hf.kept hk2 hn2).kept hk3 hn3
set_option maxRecDepth 100000 in
set_option maxHeartbeats 4000000 in
theorem sadd_ok (hs : LV w base p nx ak hd v l) (r : PK) (hf : FrOk w base r) (hn : l.length ≤ 64) (hb : addBad nx r = false) (h0 : 0 ≤ nx) :
    Calls Try.prog 10 #[.pointer (some ⟨p, 0, none⟩), .agg (pkC r).toArray] w (AddPost base p nx ak hd v l r w) := by
  have hb' := hb
  obtain ⟨n, t, s, a, A, k, c⟩ := r
  have hL1 := hs.below ((Below.refl w.heap.size w).alloc (Nat.le_refl _) (.cells #[.int .u64 n, .int .i64 t, .int .i64 s, .bool a, .slice A k c] 31))
  have hF1 := hf.below ((Below.refl w.heap.size w).alloc (Nat.le_refl _) (.cells #[.int .u64 n, .int .i64 t, .int .i64 s, .bool a, .slice A k c] 31))
  have hX1 := At.new w 31 [.int .u64 n, .int .i64 t, .int .i64 s, .bool a, .slice A k c]
  have cn := hL1.at_.cell 0
  have hB1 := ((Below.refl _ w).alloc (Nat.le_refl _) (.cells #[.int .u64 n, .int .i64 t, .int .i64 s, .bool a, .slice A k c] 31))
  have hpl := hs.at_.lt
  unfold addBad at hb
  simp only [Bool.or_eq_false_iff, decide_eq_false_iff_not] at hb
  obtain ⟨⟨⟨⟨c1, c2⟩, c3⟩, c4⟩, c5⟩ := hb
  have H1 := Lib.hid (decide_eq_false c1)
  have H2 := Lib.hid (decide_eq_false c2)
  have H3 := Lib.hid (decide_eq_false c3)
  have H4 := Lib.hid (decide_eq_false c4)
  have H5 := Lib.hid (decide_eq_false c5)
  have hw : IntKind.u64.wrap (n + 1) = n + 1 := by rw [IntKind.wrap_u64]; omega
  have HL1 := Lib.hid hL1
  have HF1 := Lib.hid hF1
  have HX1 := Lib.hid hX1
  have HB1 := Lib.hid hB1
  have HBD := Lib.hid hb'
  clear hs hf hL1 hF1 hX1 hB1 hb' c1 c2 c3 c4 c5
  rw [show Value.agg (pkC ⟨n, t, s, a, A, k, c⟩).toArray = .agg #[.int .u64 n, .int .i64 t, .int .i64 s, .bool a, .slice A k c] from rfl]
  go_enter Try.func10, Try.ntmps10
  go_wp2
  have h1 := H1.out
  have h2 := H2.out
  have h3 := H3.out
  have h4 := H4.out
  have h5 := H5.out
  go_quiet (fail)
  generalize hW : World.drewN _ _ = W
  have hL : LV W base p nx ak hd v l := by subst hW; exact HL1.out.drewN _
  have hX : At W w.heap.size 31 [.int .u64 n, .int .i64 t, .int .i64 s, .bool a, .slice A k c] := by subst hW; exact HX1.out.drewN _
  have hB : Below w.heap.size w W := by subst hW; exact belowN HB1.out _
  have hF : FrOk W base ⟨n, t, s, a, A, k, c⟩ := by subst hW; exact HF1.out.below ⟨rfl, rfl, rfl, Nat.le_refl _, fun _ _ => rfl⟩
  clear hW cn h1 h2 h3 h4 h5 HL1 HX1 HB1 HF1
  have xa := hX.cell 3
  have xn := hX.cell 0
  cases a
  · have ln := hL.at_.cell 0
    have fn := hL.at_.frozen 0
    have hk : Kept (· = p) W (W.setCell ⟨p, 0, none⟩ (.int .u64 (n + 1))) := (Kept.refl _ _).setAt _ _
    have hX2 := hX.kept hk (by omega)
    have xa2 := hX2.cell 3
    have hL2 : LV (W.setCell ⟨p, 0, none⟩ (.int .u64 (n + 1))) base p (n + 1) ak hd v l := ⟨hL.at_.set 0 _, ownG_kept hL.own hk (fun j hj e => hL.ne (by rw [hj, e])), fun r hr => (hL.fr r hr).kept hk hL.noFr, hL.bp⟩
    have hk2 : Kept (fun j => j = p ∨ v.ownBlock = some j) w (W.setCell ⟨p, 0, none⟩ (.int .u64 (n + 1))) := (Kept.of_below hB _).trans' hk (fun j hj => .inl (.inl hj))
    have HE := Lib.hid (And.intro hL2 hk2)
    clear hL hX hB hF hk hX2 hL2 hk2
    go_wp2
    go_ret
    refine .inr (.inr ⟨HBD.out, (fun h => by cases h), rfl, v, A, c, HE.out.1, HE.out.2, fun j hj => .inl hj⟩)
  · by_cases hfull : 64 ≤ l.length
    · obtain ⟨m, hm⟩ : ∃ m, l.length = m := ⟨_, rfl⟩
      obtain ⟨A5, c5, rfl, _, _⟩ := ownG_shape hL.own
      have l3 := hL.at_.cell 3
      rw [hm] at l3
      have hfz : (64 : Int) ≤ (m : Int) := by omega
      have HB := Lib.hid hB
      have HFU := Lib.hid hfull
      clear hL hX hB hF hfull hm
      go_wp2
      go_ret
      exact .inr (.inl ⟨HBD.out, rfl, HFU.out, rfl, HB.out⟩)
    · have ln := hL.at_.cell 0
      have fn := hL.at_.frozen 0
      obtain ⟨A5, c5, rfl, hc51, hc52⟩ := ownG_shape hL.own
      have l3 := hL.at_.cell 3
      have hk : Kept (· = p) W (W.setCell ⟨p, 0, none⟩ (.int .u64 (n + 1))) := (Kept.refl _ _).setAt _ _
      have hX2 := hX.kept hk (by omega)
      have xa2 := hX2.cell 3
      have hF2 := hF.kept hk hL.noFr
      have hL2 : LV (W.setCell ⟨p, 0, none⟩ (.int .u64 (n + 1))) base p (n + 1) ak hd (.slice A5 l.length c5) l := ⟨hL.at_.set 0 _, ownG_kept hL.own hk (fun j hj e => hL.ne (by rw [hj, e])), fun r hr => (hL.fr r hr).kept hk hL.noFr, hL.bp⟩
      have hk2 : Kept (· = p) w (W.setCell ⟨p, 0, none⟩ (.int .u64 (n + 1))) := (Kept.of_below hB _).trans hk
      have HE := Lib.hid (And.intro hL2 (And.intro hk2 (And.intro hX2 hF2)))
      have hfz : ¬ (64 : Int) ≤ ((l.length : Nat) : Int) := by omega
      have HFU := Lib.hid hfull
      clear hL hX hB hF hk hX2 hL2 hk2 hF2 hfull
      obtain ⟨m, hm⟩ : ∃ m, l.length = m := ⟨_, rfl⟩
      have HMM := Lib.hid hm
      rw [hm] at l3 hfz hc51 hn
      rw [hm] at HE
      clear hm
      go_wp2_with fail
      generalize hW2 : World.setCell W _ _ = W2 at *
      clear hW2 l3 ln fn xa xn xa2
      have hL3 := HE.out.1
      have hX3 := HE.out.2.2.1
      have hF3 := HE.out.2.2.2
      have hbd : Below W2.heap.size W2 W2.drew := ⟨rfl, rfl, rfl, Nat.le_refl _, fun _ _ => rfl⟩
      have HBY : Hid (Calls Try.prog 26 #[.agg #[.int .u64 n, .int .i64 t, .int .i64 s, .bool true, .slice A k c]] W2.drew (fun e w' => ∃ A1 c1, e = .returned (.agg #[.int .u64 n, .int .i64 t, .int .i64 s, .bool true, .slice A1 k c1]) ∧ FrOk w' W2.heap.size ⟨n, t, s, true, A1, k, c1⟩ ∧ Below W2.heap.size W2 w')) := Lib.hid ((byItself_any base ⟨n, t, s, true, A, k, c⟩ W2.drew (hF3.below hbd)).mono (fun e w' h => by
        obtain ⟨A1, c1, h1, h2, h3⟩ := h
        exact ⟨A1, c1, h1, h2, hbd.trans h3⟩))
      have l3 := hL3.at_.cell 3
      have x0 := hX3.cell 0
      have x1 := hX3.cell 1
      have x2 := hX3.cell 2
      have x3 := hX3.cell 3
      have x4 := hX3.cell 4
      have hp2 := hL3.at_.lt
      clear hL3 hX3 hF3
      have mixed : Try.prog.follows .mixedOrders = true := by kernel_rfl
      have hown0 : OwnG W2 base (.slice A5 m c5) m (plC l) := by
        have := HE.out.1.own
        unfold OwnP at this
        rw [HMM.out] at this
        exact this
      have HO0 := Lib.hid hown0
      have HBW := Lib.hid (Nat.le_trans HE.out.1.bp (Nat.le_of_lt hp2))
      clear hown0
      go_region_law_o (first | (go_simp; go_at_call 26; refine HBY.out.mono ?_; rintro e w1 ⟨A1, c1, rfl, hf1, hb1⟩; have l31 := (hb1.cell (p := ⟨p, 3, none⟩) hp2).trans l3; have hax := hb1.alloc hb1.size (.cells #[.int .u64 n, .int .i64 t, .int .i64 s, .bool true, .slice A1 k c1] 31); have l32 := (hax.cell (p := ⟨p, 3, none⟩) hp2).trans l3; have HO1 := Lib.hid (ownG_below HO0.out hax); have HP1 := Lib.hid (HE.out.1.below hax); have HN1 := Lib.hid (At.new w1 31 (pkC ⟨n, t, s, true, A1, k, c1⟩)); have HF1 := Lib.hid (hf1.below ((Below.refl w1.heap.size w1).alloc (Nat.le_refl _) (.cells #[.int .u64 n, .int .i64 t, .int .i64 s, .bool true, .slice A1 k c1] 31))); have HAX := Lib.hid hax; have HBS := Lib.hid (show base ≤ (w1.alloc (.cells #[.int .u64 n, .int .i64 t, .int .i64 s, .bool true, .slice A1 k c1] 31)).heap.size from Nat.le_trans HE.out.1.bp (Nat.le_trans (Nat.le_of_lt hp2) hax.size)); clear hf1 hb1 hax) | (refine step_appendP rfl (.tmp 54) (.tmp 57) rfl base (.slice A5 m c5) m (plC l) (by simp [Act.eval, Act.put]) HO1.out (some ⟨w1.heap.size, 0, none⟩) 1 1 (by simp [Act.eval, Act.put]) (pkC ⟨n, t, s, true, A1, k, c1⟩) rfl (fun _ => ⟨_, rfl, fun j u hj => by rw [Addr.add_lit, Nat.zero_add]; exact (HN1.out.cell j).trans hj⟩) (fun u hu => plC_one [⟨n, t, s, true, A1, k, c1⟩] u (by rw [plC_one_]; exact hu)) (by omega) HBS.out ?_; intro v2 w2 hown2 hgr2 hv2 _; have hk2 := Kept.of_grown (S := fun j => (Value.slice A5 m c5).ownBlock = some j) hgr2 (fun k hk => .inl hk); have hp3 := HP1.out.at_.kept hk2 HP1.out.ne; have l7 := hp3.cell 3; have f7 := hp3.frozen 3; obtain ⟨A7, c7, rfl, _, _⟩ := ownG_shape hown2; have H2 := Lib.hid (add_end HP1.out (HF1.out.base_ HBW.out) (by rw [HMM.out]; exact hown2) hgr2); have HV2 := Lib.hid hv2; clear hown2 hgr2 hk2 hv2 hp3))
      all_goals go_wp2
      all_goals go_ret
      all_goals refine .inr (.inr ⟨HBD.out, fun _ => by have := HFU.out; omega, rfl, _, A1, c1, H2.out.1, ?_, fun j hj => ?_⟩)
      all_goals rw [HMM.out]
      all_goals first
        | exact ((HE.out.2.1.mono (S' := fun j => j = p ∨ (Value.slice A5 m c5).ownBlock = some j) (fun j hj => .inl (.inl hj))).trans (Kept.of_below HAX.out (fun _ => False) |>.mono (fun j hj => .inl (hj.elim)))).trans' H2.out.2 (fun j hj => .inl hj)
        | (rcases HV2.out with h | h
           · rw [h] at hj; exact .inl hj
           · rw [h] at hj
             injection hj with hj
             refine .inr ?_
             have h8 := HAX.out.size
             have h9 := HE.out.2.1.size
             omega)
/-- Add, whatever is handed in. -/
theorem sadd_any (hs : LV w base p nx ak hd v l) (r : PK) (hf : FrOk w base r) (hn : l.length ≤ 64) (h0 : 0 ≤ nx) :
    Calls Try.prog 10 #[.pointer (some ⟨p, 0, none⟩), .agg (pkC r).toArray] w (AddPost base p nx ak hd v l r w) := by
  cases hb : addBad nx r
  · exact sadd_ok hs r hf hn hb h0
  · exact (sadd_bad hs r hb).mono fun e w' h => .inl ⟨hb, h⟩
end
end Go.Proofs.Ytpihgikcgkipaaa
