/-
  A ledger; packets taken out of it (sent.Ledger.part).
-/
import Derived.Test.YtpihgikcgkipaaaUc
import Derived.Test.YtpihgikcgkipaaaQg
namespace Go.Proofs.Ytpihgikcgkipaaa
set_option linter.unusedVariables false
set_option linter.unusedSimpArgs false
open Go.RowKit
set_option maxRecDepth 100000 in
theorem run_bsp (w : World) (r : PK) :
    (Instr.buildSlice 25 1 #[(0, .agg (pkC r).toArray)]).run Try.prog w = .ok (.slice (some ⟨w.heap.size, 0, none⟩) 1 1) (w.alloc (.cells (pkC r).toArray 31)) := by
  obtain ⟨i, hq, hz, hs, _⟩ := pk_parts
  have hl : (pkC r).length = 5 := rfl
  have hf : ∀ C : Array Value, C.size = 5 → Instr.fill (fun i => some (i * 5, 5)) C [(0, .agg (pkC r).toArray)] = some (pkC r).toArray := by
    intro C hC
    unfold Instr.fill
    simp only [Value.cells, List.size_toArray, hl, hC]
    have := ufold_set (pkC r) 0 C
    rw [setFrom_all _ _ (by simp [hC, hl])] at this
    simp [Instr.fill]
    rw [← this]
    simp [Array.foldl_toList]
  have hu := Try.underlying25
  simp [Instr.buildSlice, run_underlying hu, sizeOf, typeInfo, hq, hs, zeroValue, hz, newRow]
  rw [hf _ (by simp)]
  simp
section
variable {ops : Array Oper} {rest : List Oper} {a : Act} {w : World} {Q : Exit → Act → World → Prop} {dst : Option Tmp} {x : Operand} {t : TypeId} {pos : String} {after : Array Edge}
theorem wpList_bsp (r : PK) (g : Nat) (hg : g = w.heap.size) (hx : a.eval x = .agg (pkC r).toArray) (h : wpList Try.prog ops Q rest (a.put dst (.slice (some ⟨g, 0, none⟩) 1 1)) (w.alloc (.cells (pkC r).toArray 31))) :
    wpList Try.prog ops Q (⟨dst, .buildSlice 25 1 #[(0, x)], t, pos, after, none⟩ :: rest) a w := by
  subst hg
  refine wpList_plain rfl fun K hK => ?_
  unfold Oper.wp
  simp [execOp, hx, run_bsp w r, Result.andThen]
  exact hK _ _ h
/-- append of one packet that stands in a block. -/
theorem wpList_appendP1 {o : Oper} (hgd : o.guard = none) (s x : Operand) (ho : o.op = .call { callee := .builtin .append, args := #[s, x], argTypes := #[25, 25] }) (base : Nat) (v : Value) (l : PL) (hs : a.eval s = v) (hown : OwnP w base v l)
    (g c : Nat) (r : PK) (hx : a.eval x = .slice (some ⟨g, 0, none⟩) 1 c) (hA : At w g 31 (pkC r)) (hN : l.length ≤ 900000) (hbase : base ≤ w.heap.size)
    (h : ∀ v' w', OwnP w' base v' (l ++ [r]) → w.grownBy w' v.ownBlock → (v'.ownBlock = v.ownBlock ∨ v'.ownBlock = some w.heap.size) → wpList Try.prog ops Q rest (a.put o.dst v') w') :
    wpList Try.prog ops Q (o :: rest) a w := by
  refine wpList_appendP hgd s x ho base v l.length (plC l) hs hown (some ⟨g, 0, none⟩) 1 c hx (pkC r) rfl (fun _ => ⟨_, rfl, fun j u hj => by rw [Addr.add_lit, Nat.zero_add, hA.cell]; exact hj⟩) (fun u hu => plC_one [r] u (by rw [plC_one_]; exact hu)) (by omega) hbase (fun v' w' k1 k2 k3 _ => h v' w' ?_ k2 k3)
  show OwnG w' base v' (l ++ [r]).length (plC (l ++ [r]))
  rw [plC_app, plC_one_, List.length_append]
  exact k1
end
/-- A ledger behind a pointer. -/
structure LV (w : World) (base p : Nat) (nx ak : Int) (hd : Bool) (v : Value) (l : PL) : Prop where
  at_ : At w p 61 [.int .u64 nx, .int .u64 ak, .bool hd, v]
  own : OwnP w base v l
  fr : ∀ r ∈ l, FrOk w base r
  bp : base ≤ p
section
variable {w w' : World} {base p : Nat} {nx ak : Int} {hd : Bool} {v : Value} {l : PL}
theorem LV.ne (h : LV w base p nx ak hd v l) : v.ownBlock ≠ some p := fun e => by
  obtain ⟨cur, hA⟩ := ownG_type h.own p e
  exact absurd (hA.type_eq h.at_) (by decide)
theorem LV.kept {S : Nat → Prop} (h : LV w base p nx ak hd v l) (k : Kept S w w') (hp : ¬ S p) (hv : ∀ j, v.ownBlock = some j → ¬ S j) (hf : NoFr w S) : LV w' base p nx ak hd v l :=
  ⟨h.at_.kept k hp, ownG_kept h.own k hv, fun r hr => (h.fr r hr).kept k hf, h.bp⟩
theorem LV.below (h : LV w base p nx ak hd v l) (k : Below w.heap.size w w') : LV w' base p nx ak hd v l := h.kept (Kept.of_below k (fun _ => False)) (fun h => h) (fun _ _ h => h) (fun _ h => h.elim)
theorem LV.drewN (h : LV w base p nx ak hd v l) (n : Nat) : LV (w.drewN n) base p nx ak hd v l := h.below ⟨rfl, rfl, rfl, Nat.le_refl _, fun _ _ => rfl⟩
theorem LV.noFr (h : LV w base p nx ak hd v l) : NoFr w (· = p) := NoFr.of_type fun j hj => by subst hj; exact ⟨_, _, h.at_, by decide⟩
theorem LV.noFr2 (h : LV w base p nx ak hd v l) : NoFr w (fun j => j = p ∨ v.ownBlock = some j) := NoFr.of_type fun j hj => by
  rcases hj with hj | hj
  · subst hj; exact ⟨_, _, h.at_, by decide⟩
  · obtain ⟨cur, hA⟩ := ownG_type h.own j hj
    exact ⟨_, _, hA, by decide⟩
theorem LV.base_ {base' : Nat} (h : LV w base p nx ak hd v l) (hb : base' ≤ base) : LV w base' p nx ak hd v l := ⟨h.at_, ownG_base h.own hb, fun r hr => (h.fr r hr).base_ hb, Nat.le_trans hb h.bp⟩
end
/-- What stays over a row's change of its own rows. -/
theorem ownP_other {w w' : World} {base : Nat} {v u : Value} {l : PL} (h : OwnP w base v l) (hg : w.grownBy w' u.ownBlock) (hne : ∀ k, v.ownBlock = some k → u.ownBlock ≠ some k) : OwnP w' base v l :=
  ownG_kept h (Kept.of_grown (S := fun k => u.ownBlock = some k) hg (fun k hk => .inl hk)) (fun j hj hu => hne j hj hu)
structure PartPost (base p : Nat) (nx ak : Int) (hd : Bool) (out rest : PL) (w : World) (e : Ending) (w' : World) : Prop where
  ex : ∃ vo vr, e = .returned vo ∧ LV w' base p nx ak hd vr rest ∧ OwnP w' w.heap.size vo out ∧ ∀ j, vr.ownBlock = some j → w.heap.size ≤ j
  kept : Kept (· = p) w w'
theorem filter_snoc (l : PL) (i : Nat) (r : PK) (q : PK → Bool) (h : l[i]? = some r) : (l.take (i + 1)).filter q = (l.take i).filter q ++ (if q r then [r] else []) := by
  rw [List.take_add_one, h, List.filter_append]
  simp only [Option.toList]
  by_cases hq : q r = true
  · simp [hq]
  · simp [hq]
set_option maxRecDepth 100000 in
set_option maxHeartbeats 4000000 in
theorem part_any (base p : Nat) (nx ak : Int) (hd : Bool) (v : Value) (l : PL) (w : World) (hs : LV w base p nx ak hd v l) (gf : Nat) (cf : Array Value) (q : PK → Bool) (hn : l.length ≤ 100000)
    (eg : ∀ args w, (callFunc gf args).run Try.prog w = .ok (.enter gf args) w)
    (hq : ∀ W, Below w.heap.size w W → ∀ r ∈ l, Calls Try.prog gf (#[.agg (pkC r).toArray] ++ cf) W (SaysB (q r) W)) :
    Calls Try.prog 29 #[.pointer (some ⟨p, 0, none⟩), .func (.func gf) #[] cf] w (PartPost base p nx ak hd (l.filter q) (l.filter (fun r => !q r)) w) := by
  have HL := Lib.hid hs
  have HQ := Lib.hid hq
  obtain ⟨A, c, rfl, hnc, hcm⟩ := ownG_shape hs.own
  have hplt := hs.at_.lt
  have cv : w.cell? ⟨p, 3, none⟩ = some (.slice A l.length c) := hs.at_.cell 3
  clear hs hq
  obtain ⟨n, hln⟩ : ∃ n, l.length = n := ⟨_, rfl⟩
  have HN := Lib.hid hln
  rw [hln] at hnc cv hn HL
  clear hln
  go_enter Try.func29, Try.ntmps29
  go_wp2
  go_loopg [5, 6, 14] n (fun kx s5 s6 s14 wr => ∃ (i : Nat) (vo vr : Value), vo = s5 ∧ vr = s6 ∧ s14 = .int .i64 i ∧ i ≤ n ∧ n - i ≤ kx ∧ Below w.heap.size w wr ∧ OwnP wr w.heap.size vo ((l.take i).filter q) ∧ OwnP wr w.heap.size vr ((l.take i).filter (fun r => !q r)) ∧ (∀ k, vo.ownBlock = some k → vr.ownBlock ≠ some k))
  case atStart => exact ⟨0, _, _, rfl, rfl, rfl, Nat.zero_le _, by omega, Below.refl _ _, ownP_nil _ _, ownP_nil _ _, fun k h => by cases h⟩
  case round =>
    obtain ⟨i, vo, vr, rfl, rfl, rfl, hin, hkx, hB, hO, hR, hne⟩ := hrel
    by_cases hlt : i < n
    · have hiz : (i : Int) < (n : Int) := by omega
      obtain ⟨r, hi⟩ : ∃ r, l[i]? = some r := ⟨_, List.getElem?_eq_getElem (by rw [HN.out]; exact hlt)⟩
      obtain ⟨g, c2, hgv, hbg, hglt, hpk⟩ := ownP_at (HL.out.below hB).own hi
      injection hgv with e1 e2 e3
      subst e1; subst e3
      clear e2
      have hpk' : PkAt wr g (0 + i * 5) r := by rw [Nat.zero_add]; exact hpk
      have hqc := HQ.out (wr.alloc (.cells (pkC r).toArray 31)) (hB.alloc hB.size _) r (List.mem_of_getElem? hi)
      have HI := Lib.hid hi
      have HPK := Lib.hid hpk
      have HQC := Lib.hid hqc
      have hFx := At.new wr 31 (pkC r)
      have HFX := Lib.hid hFx
      clear hpk' hqc hi hpk hFx
      have HS := Lib.hid (And.intro hB (And.intro hO (And.intro hR hne)))
      clear hB hO hR hne
      go_wp2_with (first | ((with_reducible refine at_ldp ?_); first | refine ld_pm g (i * 5) r (by rfl) HPK.out ?_ | refine ld_pm _ 0 r (by rfl) HFX.out.pk ?_) | ((with_reducible refine at_stp ?_); refine st_ptop _ _ r (by rfl) _ (by rfl) (by simp) (by rfl) (by rfl) ?_) | fail)
      refine HQC.out.mono ?_
      rintro e w1 ⟨rfl, hb1⟩
      obtain ⟨hB, hO, hR, hne⟩ := HS.out
      have hBx := hB.alloc hB.size (.cells (pkC r).toArray 31)
      have hax : Below wr.heap.size wr (wr.alloc (.cells (pkC r).toArray 31)) := (Below.refl _ _).alloc (Nat.le_refl _) _
      have hB1 := hBx.trans (hb1.mono hBx.size)
      have hO1 := ownG_below (ownG_below hO hax) hb1
      have hR1 := ownG_below (ownG_below hR hax) hb1
      have hX1 := HFX.out.below hb1 HFX.out.lt
      have hax2 : Below w1.heap.size w1 (w1.alloc (.cells (pkC r).toArray 31)) := (Below.refl _ _).alloc (Nat.le_refl _) _
      have hB2 := hB1.alloc hB1.size (.cells (pkC r).toArray 31)
      have hO2 := ownG_below hO1 hax2
      have hR2 := ownG_below hR1 hax2
      have hF2 := At.new w1 31 (pkC r)
      have hs1 : w.heap.size ≤ w1.heap.size := hB1.size
      obtain ⟨g2, hg2⟩ : ∃ x, w1.heap.size = x := ⟨_, rfl⟩
      obtain ⟨w2, hw2⟩ : ∃ x, w1.alloc (.cells (pkC r).toArray 31) = x := ⟨_, rfl⟩
      have hs2 : w2.heap.size = g2 + 1 := by rw [← hw2, ← hg2]; simp
      rw [hw2] at hB2 hO2 hR2 hF2
      rw [hg2] at hF2 hs1
      have HW2 := Lib.hid hw2
      have HG2 := Lib.hid hg2
      have HX1 := Lib.hid hX1
      have hfo := filter_snoc l i r q HI.out
      have hfr := filter_snoc l i r (fun r => !q r) HI.out
      have hlo : ((l.take i).filter q).length ≤ 100000 := by
        have h1 := List.length_filter_le q (l.take i)
        rw [List.length_take] at h1
        omega
      have hlr : ((l.take i).filter (fun r => !q r)).length ≤ 100000 := by
        have h1 := List.length_filter_le (fun r => !q r) (l.take i)
        rw [List.length_take] at h1
        omega
      have hoB := ownG_lt hO2
      have hrB := ownG_lt hR2
      have HE := Lib.hid (And.intro hne (And.intro hoB hrB))
      clear hB hO hR hax hB1 hO1 hR1 hX1 hax2 hb1 hBx hw2 hg2 hne hoB hrB HS HQC
      cases hqr : q r
      · rw [hqr] at hfo hfr
        have HFO := Lib.hid hfo
        have HFR := Lib.hid hfr
        clear hfo hfr
        go_wp2_with (first | ((with_reducible refine at_ldp ?_); refine ld_pm _ 0 r (by rfl) HX1.out.pk ?_) | (refine wpList_bsp r g2 HG2.out.symm (by rfl) ?_; rw [HW2.out]) | (at_builtin; refine wpList_appendP1 rfl (.tmp 25) (.tmp 27) rfl w.heap.size vr _ rfl hR2 g2 1 r (by rfl) hF2 (by omega) (by omega) ?_; intro v7 w7 hown7 hgr7 hv7) | fail)
        have K7 := Kept.of_grown (S := fun k => vr.ownBlock = some k) hgr7 (fun k hk => .inl hk)
        have hb7 : Below w.heap.size w w7 := K7.below hB2 (by omega) (fun j hj => (HE.out.2.2 j hj).1)
        have hO7 := ownP_other hO2 hgr7 HE.out.1
        have hne7 : ∀ k, vo.ownBlock = some k → v7.ownBlock ≠ some k := fun k hk h => by
          rcases hv7 with h7 | h7
          · rw [h7] at h; exact HE.out.1 k hk h
          · rw [h7] at h
            injection h with h
            have := (HE.out.2.1 k hk).2
            omega
        have H7 := Lib.hid (And.intro hb7 (And.intro hO7 (And.intro hown7 hne7)))
        clear hB2 hO2 hR2 hF2 K7 hgr7 hv7 hs1 hs2 HW2 HG2 hb7 hO7 hown7 hne7
        go_wp2_with fail
        go_roundg (n - (i + 1))
        case measure => omega
        case rel =>
          refine ⟨i + 1, vo, v7, rfl, rfl, by simp, by omega, by omega, H7.out.1, ?_, ?_, H7.out.2.2.2⟩
          · rw [HFO.out]; simp only [Bool.false_eq_true, if_false, List.append_nil]; exact H7.out.2.1
          · rw [HFR.out]; simp only [Bool.not_false, if_true]; exact H7.out.2.2.1
      · rw [hqr] at hfo hfr
        have HFO := Lib.hid hfo
        have HFR := Lib.hid hfr
        clear hfo hfr
        go_wp2_with (first | ((with_reducible refine at_ldp ?_); refine ld_pm _ 0 r (by rfl) HX1.out.pk ?_) | (refine wpList_bsp r g2 HG2.out.symm (by rfl) ?_; rw [HW2.out]) | (at_builtin; refine wpList_appendP1 rfl (.tmp 21) (.tmp 23) rfl w.heap.size vo _ rfl hO2 g2 1 r (by rfl) hF2 (by omega) (by omega) ?_; intro v7 w7 hown7 hgr7 hv7) | fail)
        have K7 := Kept.of_grown (S := fun k => vo.ownBlock = some k) hgr7 (fun k hk => .inl hk)
        have hb7 : Below w.heap.size w w7 := K7.below hB2 (by omega) (fun j hj => (HE.out.2.1 j hj).1)
        have hR7 := ownP_other hR2 hgr7 (fun k hk h => HE.out.1 k h hk)
        have hne7 : ∀ k, v7.ownBlock = some k → vr.ownBlock ≠ some k := fun k hk h => by
          rcases hv7 with h7 | h7
          · rw [h7] at hk; exact HE.out.1 k hk h
          · rw [h7] at hk
            injection hk with hk
            have := (HE.out.2.2 k h).2
            omega
        have H7 := Lib.hid (And.intro hb7 (And.intro hown7 (And.intro hR7 hne7)))
        clear hB2 hO2 hR2 hF2 K7 hgr7 hv7 hs1 hs2 HW2 HG2 hb7 hR7 hown7 hne7
        go_wp2_with fail
        go_roundg (n - (i + 1))
        case measure => omega
        case rel =>
          refine ⟨i + 1, v7, vr, rfl, rfl, by simp, by omega, by omega, H7.out.1, ?_, ?_, H7.out.2.2.2⟩
          · rw [HFO.out]; simp only [if_true]; exact H7.out.2.1
          · rw [HFR.out]; simp only [Bool.not_true, Bool.false_eq_true, if_false, List.append_nil]; exact H7.out.2.2.1
    · obtain rfl : i = n := by omega
      have hL8 := HL.out.below hB
      have hK8 : Kept (· = p) wr (wr.setCell ⟨p, 3, none⟩ vr) := (Kept.refl _ _).setAt _ _
      have hLe : l.take i = l := List.take_of_length_le (by rw [HN.out]; omega)
      rw [hLe] at hO hR
      have cw := hL8.at_.cell 3
      have cz := hL8.at_.frozen 3
      have hO8 := ownG_kept hO hK8 (fun j hj e => by have := (ownG_lt hO j hj).1; omega)
      have hR8 := ownG_kept hR hK8 (fun j hj e => by have := (ownG_lt hR j hj).1; omega)
      have hP8 : LV (wr.setCell ⟨p, 3, none⟩ vr) base p nx ak hd vr (l.filter (fun r => !q r)) :=
        ⟨hL8.at_.set 3 vr, ownG_base hR8 (by have := hL8.bp; omega), fun r hr => (hL8.fr r ((List.mem_filter.1 hr).1)).kept hK8 hL8.noFr, hL8.bp⟩
      have hk9 := (Kept.of_below hB (fun j => j = p)).trans hK8
      have H9 := Lib.hid (And.intro hP8 (And.intro (And.intro hO8 (fun j hj => (ownG_lt hR j hj).1)) hk9))
      obtain ⟨A3, c3, rfl, _, _⟩ := ownG_shape hR
      clear hP8 hO8 hk9 hR8 hK8 hO hR hB hL8 hne HL HQ
      go_wp2_with fail
      go_ret
      exact ⟨⟨vo, _, rfl, H9.out.1, H9.out.2.1.1, H9.out.2.1.2⟩, H9.out.2.2⟩
end Go.Proofs.Ytpihgikcgkipaaa
