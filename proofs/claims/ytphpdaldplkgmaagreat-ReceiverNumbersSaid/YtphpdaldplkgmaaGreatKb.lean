/-
  The document's Take, the buffer a field.
-/
import Derived.Test.YtphpdaldplkgmaaGreatMq14
import Derived.Test.YtphpdaldplkgmaaGreatIl
import Derived.Deep.CutRange
namespace Go.Proofs.YtphpdaldplkgmaaGreat
set_option linter.unusedVariables false
set_option linter.unusedSimpArgs false
open Go.RowKit
section
variable {X : RX}
section
variable {Y W : World} {o1 o2 : Option (Value × List Value)}
variable {ops : Array Oper} {o : Oper} {a : Act} {Q : Exit → Act → World → Prop} {E : Prop} {K : Act → World → Prop}
end
/-- What the document's Take leaves. -/
def FTPost (X : RX) (base q : Nat) (O : Nat → Prop) (S : BS) (n : Nat) (w : World) (e : Ending) (w' : World) : Prop :=
  ∃ v, e = .returned (.tuple #[v, .bool (S.en && decide (S.rd + n = S.fi))]) ∧ Own w' w.heap.size 5 v (outB S.g S.rd n) ∧ ∃ O', Rj X w' base q O' (takeS S n) ∧ Kept O w w' ∧ ∀ j, O' j → O j ∨ w.heap.size ≤ j
theorem ftake_fin {w w2 W5 : World} {base q n k m cB cC c1 c2 : Nat} {AB AC A1 A2 : Option Addr} {v : Value} {B : List Int} {C : List Bool} {S : BS} (hc : Rk X w base q (.slice AB m cB) (.slice AC m cC) B C S) (hk : IsR S.g S.rd k) (hn : n ≤ k) (hb : base ≤ w.heap.size)
    (h2 : Below w.heap.size w w2) (hS : Sti w2.drew W5 (some (.slice A1 (m - n) c1, (B.map (Value.int .u8)).drop n)) (some (.slice A2 (m - n) c2, (C.map Value.bool).drop n))) (hv : Ow w2 w.heap.size 5 v ((B.take n).map (Value.int .u8))) (d : Nat) :
    (∃ O', Rj X ((((W5.setCell ⟨q, 10, none⟩ (.slice A1 (m - n) c1)).setCell ⟨q, 11, none⟩ (.slice A2 (m - n) c2)).setCell ⟨q, 6, none⟩ (.int .u64 (S.rd + n : Nat))).drewN d) base q O' (takeS S n) ∧ Kept (rO q (.slice AB m cB) (.slice AC m cC)) w ((((W5.setCell ⟨q, 10, none⟩ (.slice A1 (m - n) c1)).setCell ⟨q, 11, none⟩ (.slice A2 (m - n) c2)).setCell ⟨q, 6, none⟩ (.int .u64 (S.rd + n : Nat))).drewN d) ∧ ∀ j, O' j → rO q (.slice AB m cB) (.slice AC m cC) j ∨ w.heap.size ≤ j) ∧ Own ((((W5.setCell ⟨q, 10, none⟩ (.slice A1 (m - n) c1)).setCell ⟨q, 11, none⟩ (.slice A2 (m - n) c2)).setCell ⟨q, 6, none⟩ (.int .u64 (S.rd + n : Nat))).drewN d) w.heap.size 5 v (B.take n) := by
  have hq := hc.at_.lt
  have s2 := h2.size
  have b5 : Below w.heap.size w W5 := h2.drew.trans (hS.b.mono s2)
  have r1 := hS.r1 _ _ rfl
  have r2 := hS.r2 _ _ rfl
  have l1 := ow_lt r1
  have l2 := ow_lt r2
  have ge1 : ∀ j, (Value.slice A1 (m - n) c1).ownBlock = some j → w.heap.size ≤ j := fun j hj => Nat.le_trans s2 (l1 j hj).1
  have ge2 : ∀ j, (Value.slice A2 (m - n) c2).ownBlock = some j → w.heap.size ≤ j := fun j hj => Nat.le_trans s2 (l2 j hj).1
  have kS : Kept (fun b => b = q) W5 ((((W5.setCell ⟨q, 10, none⟩ (.slice A1 (m - n) c1)).setCell ⟨q, 11, none⟩ (.slice A2 (m - n) c2)).setCell ⟨q, 6, none⟩ (.int .u64 (S.rd + n : Nat))).drewN d) := ((((Kept.refl (fun b => b = q) W5).setCell (p := ⟨q, 10, none⟩) (.inl rfl) _).setCell (p := ⟨q, 11, none⟩) (.inl rfl) _).setCell (p := ⟨q, 6, none⟩) (.inl rfl) _).drewN d
  have n1 : ∀ j, (Value.slice A1 (m - n) c1).ownBlock = some j → ¬ j = q := fun j hj e => by have := ge1 j hj; omega
  have n2 : ∀ j, (Value.slice A2 (m - n) c2).ownBlock = some j → ¬ j = q := fun j hj e => by have := ge2 j hj; omega
  have o1 := ow_kept (Ow_base r1 (show base ≤ w2.drew.heap.size from Nat.le_trans hb s2)) kS n1
  have o2 := ow_kept (Ow_base r2 (show base ≤ w2.drew.heap.size from Nat.le_trans hb s2)) kS n2
  have a5 := hc.at_.below b5 hq
  have aS := (((a5.set 10 (.slice A1 (m - n) c1)).set 11 (.slice A2 (m - n) c2)).set 6 (.int .u64 (S.rd + n : Nat))).drewN d
  rw [← List.map_drop] at o1 o2
  have hbt := hc.ob.byt
  refine ⟨⟨_, ⟨_, _, B.drop n, C.drop n, rfl, aS, ow_own o1 (hbt.drop n), o2, fun e => n1 q e rfl, fun e => n2 q e rfl, fun j hj e => hS.d _ _ _ _ rfl rfl j hj e, hc.bq, rm_cut hc.rm n⟩, ?_, ?_⟩, ?_⟩
  · exact (Kept.of_below b5 (rO q (.slice AB m cB) (.slice AC m cC))).trans' kS fun j hj => .inl (.inl hj)
  · rintro j (rfl | hj | hj)
    · exact .inl (.inl rfl)
    · exact .inr (ge1 j hj)
    · exact .inr (ge2 j hj)
  · have v5 : Ow W5 w.heap.size 5 v ((B.take n).map (Value.int .u8)) := ow_keep (ow_keep hv fun _ _ => rfl) fun j hj => hS.b.block j (ow_lt hv j hj).2
    exact ow_own (ow_kept v5 kS fun j hj e => by have := (ow_lt hv j hj).1; omega) (hbt.take n)
set_option maxHeartbeats 40000000 in
set_option maxRecDepth 100000 in
theorem ftake_any (base q : Nat) (O : Nat → Prop) (S : BS) (most : Int) (w : World) (h : Rj X w base q O S) (hok : S.ok) (hb : base ≤ w.heap.size) (hm : -9223372036854775808 ≤ most ∧ most < 9223372036854775808) (k : Nat) (hk : IsR S.g S.rd k) :
    Calls Tryz.prog 31 #[.pointer (some ⟨q, 6, none⟩), .int .i64 most] w (FTPost X base q O S (min most.toNat k) w) := by
  have HRY := Lib.hid (fready_any base q O S w h k hk)
  obtain ⟨vb, vc, B, C, rfl, hc⟩ := h
  have hkw := rm_ready_le hc.rm hk
  have hkh := hk.le hok
  have hhi := hok.hm
  have hwl := hc.rm.wl
  have hlen := hc.rm.len
  obtain ⟨n, hn⟩ : ∃ n, n = min most.toNat k := ⟨_, rfl⟩
  have hnk : n ≤ k := by omega
  rw [← hn]
  obtain ⟨M, hM⟩ : ∃ M : Int, (if most < 0 then 0 else most) = M := ⟨_, rfl⟩
  have hMn : (if (k : Int) < M then (k : Int) else M) = (n : Int) := by
    rw [← hM, hn]
    split <;> split at * <;> omega
  clear hn
  have h4 := hc.c4
  have HC := Lib.hid hc
  have HK := Lib.hid hk
  obtain ⟨AB, cB, e1, hnB, hmB, _⟩ := ow_open (own_ow hc.ob)
  obtain ⟨AC, cC, e2, hnC, hmC, _⟩ := ow_open hc.oc
  rw [List.length_map] at e1 hnB e2 hnC
  rw [← hlen] at e1 hnB
  generalize hm' : C.length = m at *
  have HM := Lib.hid hm'
  clear hm'
  subst e1; subst e2
  have hAB : AB = none → cB = 0 := by
    rintro rfl
    obtain ⟨A', c', e, _, _, ho⟩ := ow_open (own_ow hc.ob)
    injection e with e1 _ e3
    subst e1; subst e3
    rcases ho with ⟨_, h, _⟩ | ⟨g, cur, h, _⟩
    · exact h
    · cases h
  have hAC : AC = none → cC = 0 := by
    rintro rfl
    obtain ⟨A', c', e, _, _, ho⟩ := ow_open hc.oc
    injection e with e1 _ e3
    subst e1; subst e3
    rcases ho with ⟨_, h, _⟩ | ⟨g, cur, h, _⟩
    · exact h
    · cases h
  have hcmB : cB ≤ 9223372036854775807 := by unfold maxLen at hmB; omega
  have hcmC : cC ≤ 9223372036854775807 := by unfold maxLen at hmC; omega
  have hnm : n ≤ m := by omega
  have hnB2 : n ≤ cB := by omega
  have hnC2 : n ≤ cC := by omega
  have hq := hc.at_.lt
  have HRD : Hid (∀ w1, Below w.heap.size w w1 → Rd w1 w1.heap.size AB n (B.take n)) := Lib.hid (fun w1 hB => by
    obtain ⟨_, _, e2, _, _, hrd0⟩ := hc.ob.open_
    rw [← hlen] at e2 hrd0
    injection e2 with e3 _ e4
    subst e3; subst e4
    exact ((hrd0.cutTo hnm).below hB).more hB.size)
  have HS1 : Hid (∀ Y, Below w.heap.size w Y → ∀ W', Below Y.heap.size Y W' → 0 < m - n → ∃ ad, cutA AB cB n = some ad ∧ ∀ j u, ((B.map (Value.int .u8)).drop n)[j]? = some u → W'.cell? (ad.add j) = some u) := Lib.hid (fun Y hY => ow_src (ow_kept (own_ow hc.ob) (Kept.of_below hY (fun _ => False)) (fun _ _ h => h)) (by rw [List.length_map]; exact hlen.symm))
  have HS2 : Hid (∀ Y, Below w.heap.size w Y → ∀ W', Below Y.heap.size Y W' → 0 < m - n → ∃ ad, cutA AC cC n = some ad ∧ ∀ j u, ((C.map Value.bool).drop n)[j]? = some u → W'.cell? (ad.add j) = some u) := Lib.hid (fun Y hY => ow_src (ow_kept hc.oc (Kept.of_below hY (fun _ => False)) (fun _ _ h => h)) (by rw [List.length_map]; exact HM.out))
  have HAT : Hid (∀ w2, Below w.heap.size w w2 → At w2 q 56 (rxL X [.int .u64 S.rd, .int .u64 S.hi, .int .u64 S.fi, .bool S.en, .slice AB m cB, .slice AC m cC])) := Lib.hid (fun w2 hB => hc.at_.below hB hq)
  have hl1 : Hid (((B.map (Value.int .u8)).drop n).length = m - n ∧ ((C.map Value.bool).drop n).length = m - n) := Lib.hid (by rw [List.length_drop, List.length_drop, List.length_map, List.length_map, ← hlen, HM.out]; exact ⟨rfl, rfl⟩)
  have hm2 : m ≤ 2048 := hwl
  have HLE := Lib.hid hlen
  have hb1 : Below w.heap.size w (w.alloc (.cells #[] 5)) := (Below.refl _ _).alloc (Nat.le_refl _) _
  have hown0 : Ow (w.alloc (.cells #[] 5)) w.heap.size 5 (.slice (some ⟨w.heap.size, 0, none⟩) 0 0) [] := ow_new w _ _ (Nat.le_refl _)
  have hsrc0 := rd_src (HRD.out _ hb1)
  have hlen0 : ((B.take n).map (Value.int .u8)).length = n := by rw [List.length_map, List.length_take]; omega
  have HONE0 := Lib.hid (oneCell_u8 (B.take n))
  have hs1 : w.heap.size ≤ (w.alloc (.cells #[] 5)).heap.size := by simp
  clear hc hk hlen
  obtain ⟨X0, hX0⟩ : ∃ X0, (B.take n).map (Value.int .u8) = X0 := ⟨_, rfl⟩
  rw [hX0] at hsrc0 hlen0 HONE0
  have HX0 := Lib.hid hX0
  clear hX0
  go_enter Tryz.func31, Tryz.ntmps31
  go_wp2_with (first
    | (go_at_call 51; (with_reducible refine HRY.out.mono ?_); rintro e w1 ⟨rfl, hw1⟩; rw [hw1]; clear hw1)
    | (at_builtin; refine wpList_app1 o8 rfl (.tmp 13) (.tmp 19) rfl w.heap.size _ [] rfl hown0 AB n cB rfl X0 hlen0 hsrc0 HONE0.out (by simp; omega) hs1 ?_; intro v w2 hv2 hg2 _ _; have hb2 := hb1.grown hg2 hs1 (fun k hk => (ow_lt hown0 k hk).1); rw [List.nil_append] at hv2))
  have hbq : Below w.heap.size w w2 := hb2
  have HBW := Lib.hid hbq
  have HV2 := Lib.hid hv2
  clear hb1 hown0 hsrc0 hlen0 hs1 hb2 hg2 hbq hv2
  go_cut [] from 21 to 42 (fun wx => Hid (∃ A1 c1 A2 c2 W5, Sti w2.drew W5 (some (.slice A1 (m - n) c1, (B.map (Value.int .u8)).drop n)) (some (.slice A2 (m - n) c2, (C.map Value.bool).drop n)) ∧ wx = (W5.setCell ⟨q, 10, none⟩ (.slice A1 (m - n) c1)).setCell ⟨q, 11, none⟩ (.slice A2 (m - n) c2)))
  case first =>
    have HBY : Hid (Below w.heap.size w w2.drew) := Lib.hid HBW.out.drew
    have hS0 : Sti w2.drew w2.drew none none := Sti.nil _
    have HATY : Hid (∀ W, Below w2.drew.heap.size w2.drew W → At W q 56 (rxL X [.int .u64 S.rd, .int .u64 S.hi, .int .u64 S.fi, .bool S.en, .slice AB m cB, .slice AC m cC])) := Lib.hid (fun W hW => HAT.out W (HBY.out.trans (hW.mono HBY.out.size)))
    have HSB := Lib.hid (HS1.out _ HBY.out)
    have HSC := Lib.hid (HS2.out _ HBY.out)
    have HO1 := Lib.hid (fun u (hu : u ∈ (B.map (Value.int .u8)).drop n) => oneCell_u8 B u (List.mem_of_mem_drop hu))
    have HO2 : Hid (∀ u ∈ (C.map Value.bool).drop n, u.oneCell' = true) := Lib.hid (fun u hu => by obtain ⟨x, _, rfl⟩ := List.mem_map.1 (List.mem_of_mem_drop hu); rfl)
    obtain ⟨l1, l2⟩ := hl1.out
    generalize (B.map (Value.int .u8)).drop n = XB at *
    generalize (C.map Value.bool).drop n = XC at *
    have L1 := Lib.hid l1
    have L2 := Lib.hid l2
    clear l1 l2
    generalize hY0 : w2.drew = Y at *
    obtain ⟨UA, hUA⟩ : ∃ UA, (if cB = n then AB else Option.map (fun x => x.add n) AB) = UA := ⟨_, rfl⟩
    obtain ⟨UC, hUC⟩ : ∃ UC, (if cC = n then AC else Option.map (fun x => x.add n) AC) = UC := ⟨_, rfl⟩
    have e1 : cutA AB cB n = UA := hUA
    have e2 : cutA AC cC n = UC := hUC
    rw [e1] at HSB
    rw [e2] at HSC
    have HUA := Lib.hid hUA
    have HUC := Lib.hid hUC
    clear hUA hUC e1 e2
    clear HS1 HS2 HRD HAT HRY
    have HLD : Hid (∀ W, Below Y.heap.size Y W → (fun W => W.cell? ⟨q, 10, none⟩ = some (.slice AB m cB) ∧ W.cell? ⟨q, 11, none⟩ = some (.slice AC m cC)) W) := Lib.hid (fun W hW => by have := HATY.out W hW; exact ⟨by rw [this.cell]; rfl, by rw [this.cell]; rfl⟩)
    have hHeld : (fun W => W.cell? ⟨q, 10, none⟩ = some (.slice AB m cB) ∧ W.cell? ⟨q, 11, none⟩ = some (.slice AC m cC)) Y := HLD.out _ (Below.refl _ _)
    refine wp_region_tail (S := (fun W => W.cell? ⟨q, 10, none⟩ = some (.slice AB m cB) ∧ W.cell? ⟨q, 11, none⟩ = some (.slice AC m cC))) (D := 20) (by kernel_rfl) ?_
    rw [hY0]
    refine tail_pure 0 (some 21) (v := ?_) rfl (Or.inl ⟨by rfl, ?_⟩) (fun _ => hHeld) ?_
    rotate_left
    · intro w hSw; (try dsimp only at hSw); go_simp; first | done | (with_reducible rfl)
    simp only [Act.put, List.setIfInBounds_toArray, List.set_cons_zero, List.set_cons_succ]
    refine tail_pure 1 (some 22) (v := ?_) rfl (Or.inl ⟨by rfl, ?_⟩) (fun _ => hHeld) ?_
    rotate_left
    · intro w hSw; (try dsimp only at hSw); go_simp; first | done | (with_reducible rfl)
    simp only [Act.put, List.setIfInBounds_toArray, List.set_cons_zero, List.set_cons_succ]
    refine tail_pure 3 (some 24) (v := ?_) rfl (Or.inl ⟨by rfl, ?_⟩) (fun _ => hHeld) ?_
    rotate_left
    · intro w hSw; (try dsimp only at hSw); go_simp; first | done | (with_reducible rfl)
    simp only [Act.put, List.setIfInBounds_toArray, List.set_cons_zero, List.set_cons_succ]
    refine tail_pure 4 (some 25) (v := ?_) rfl (Or.inl ⟨by rfl, ?_⟩) (fun _ => hHeld) ?_
    rotate_left
    · intro w hSw; (try dsimp only at hSw); go_simp; first | done | (with_reducible rfl)
    simp only [Act.put, List.setIfInBounds_toArray, List.set_cons_zero, List.set_cons_succ]
    refine tail_pure 5 (some 26) (v := ?_) rfl (Or.inl ⟨by rfl, ?_⟩) (fun _ => hHeld) ?_
    rotate_left
    · intro w hSw; (try dsimp only at hSw); go_simp; first | done | (with_reducible rfl)
    simp only [Act.put, List.setIfInBounds_toArray, List.set_cons_zero, List.set_cons_succ]
    refine tail_load 6 (some 27) [8, 9, 20] (v := ?_) rfl (Or.inl ⟨by rfl, ?_⟩) hHeld ?_
    rotate_left
    · intro w hSw; (try dsimp only at hSw); go_simp; first | done | (with_reducible rfl)
    simp only [Act.put, List.setIfInBounds_toArray, List.set_cons_zero, List.set_cons_succ]
    refine tail_pure 7 (some 28) (v := ?_) rfl (Or.inl ⟨by rfl, ?_⟩) (fun _ => hHeld) ?_
    rotate_left
    · intro w hSw; (try dsimp only at hSw); go_simp; first | done | (with_reducible rfl)
    simp only [Act.put, List.setIfInBounds_toArray, List.set_cons_zero, List.set_cons_succ]
    refine tail_pure 8 (some 29) (v := .slice UA (m - n) (cB - n)) rfl (Or.inl ⟨by rfl, ?_⟩) (fun _ => hHeld) ?_
    · intro w hSw; go_simp; (try rw [HUA.out])
    simp only [Act.put, List.setIfInBounds_toArray, List.set_cons_zero, List.set_cons_succ]
    refine tail_pure 11 (some 32) (v := ?_) rfl (Or.inl ⟨by rfl, ?_⟩) (fun _ => hHeld) ?_
    rotate_left
    · intro w hSw; (try dsimp only at hSw); go_simp; first | done | (with_reducible rfl)
    simp only [Act.put, List.setIfInBounds_toArray, List.set_cons_zero, List.set_cons_succ]
    refine tail_pure 12 (some 33) (v := ?_) rfl (Or.inl ⟨by rfl, ?_⟩) (fun _ => hHeld) ?_
    rotate_left
    · intro w hSw; (try dsimp only at hSw); go_simp; first | done | (with_reducible rfl)
    simp only [Act.put, List.setIfInBounds_toArray, List.set_cons_zero, List.set_cons_succ]
    refine tail_pure 13 (some 34) (v := ?_) rfl (Or.inl ⟨by rfl, ?_⟩) (fun _ => hHeld) ?_
    rotate_left
    · intro w hSw; (try dsimp only at hSw); go_simp; first | done | (with_reducible rfl)
    simp only [Act.put, List.setIfInBounds_toArray, List.set_cons_zero, List.set_cons_succ]
    refine tail_load 14 (some 35) [16, 17, 20] (v := ?_) rfl (Or.inl ⟨by rfl, ?_⟩) hHeld ?_
    rotate_left
    · intro w hSw; (try dsimp only at hSw); go_simp; first | done | (with_reducible rfl)
    simp only [Act.put, List.setIfInBounds_toArray, List.set_cons_zero, List.set_cons_succ]
    refine tail_pure 15 (some 36) (v := ?_) rfl (Or.inl ⟨by rfl, ?_⟩) (fun _ => hHeld) ?_
    rotate_left
    · intro w hSw; (try dsimp only at hSw); go_simp; first | done | (with_reducible rfl)
    simp only [Act.put, List.setIfInBounds_toArray, List.set_cons_zero, List.set_cons_succ]
    refine tail_pure 16 (some 37) (v := .slice UC (m - n) (cC - n)) rfl (Or.inl ⟨by rfl, ?_⟩) (fun _ => hHeld) ?_
    · intro w hSw; go_simp; (try rw [HUC.out])
    simp only [Act.put, List.setIfInBounds_toArray, List.set_cons_zero, List.set_cons_succ]
    refine wpTail.ready (rs := [2, 10]) (by kernel_rfl) (by simp) ?_
    refine AllTail.cons rfl (fun K hK => ?_) (AllTail.cons rfl (fun K hK => ?_) (AllTail.nil))
    · go_simp
      go_wp2_with (fail)
      have hS1 := hS0.b1
      generalize hW1 : Y.alloc (.cells #[] 5) = W1 at hS1 ⊢
      clear hW1
      refine hK.out _ _ (HLD.out _ hS1.b) (fun hHeld => ?_)
      clear hK K
      refine wpTail.ready (rs := [9, 10]) (by kernel_rfl) (by simp) ?_
      refine AllTail.cons rfl (fun K hK => ?_) (AllTail.cons rfl (fun K hK => ?_) (AllTail.nil))
      · refine hS1.a1 rfl (.tmp 23) (.tmp 29) rfl (by simp [Act.eval, Act.put]) UA (m - n) (cB - n) (by simp [Act.eval, Act.put]) XB L1.out HSB.out HO1.out (by omega) ?_
        intro A1 c1 W2 hS2
        refine hK.out _ _ (HLD.out _ hS2.b) (fun hHeld => ?_)
        clear hK K
        refine wpTail.ready (rs := [10]) (by kernel_rfl) (by simp) ?_
        refine AllTail.cons rfl (fun K hK => ?_) (AllTail.nil)
        · go_simp
          go_wp2_with (fail)
          have hS3 := hS2.b2
          generalize hW3 : W2.alloc (.cells #[] 4) = W3 at hS3 ⊢
          clear hW3
          refine hK.out _ _ (HLD.out _ hS3.b) (fun hHeld => ?_)
          clear hK K
          refine wpTail.ready (rs := [17]) (by kernel_rfl) (by simp) ?_
          refine AllTail.cons rfl (fun K hK => ?_) (AllTail.nil)
          · refine hS3.a2 rfl (.tmp 31) (.tmp 37) rfl (by simp [Act.eval, Act.put]) UC (m - n) (cC - n) (by simp [Act.eval, Act.put]) XC L2.out HSC.out HO2.out (by omega) ?_
            intro A2 c2 W4 hS4
            refine hK.out _ _ (HLD.out _ hS4.b) (fun hHeld => ?_)
            clear hK K
            refine tail_pure 18 (some 39) (v := ?_) rfl (Or.inl ⟨by rfl, ?_⟩) (fun _ => hHeld) ?_
            rotate_left
            · intro w hSw; (try dsimp only at hSw); go_simp; first | done | (with_reducible rfl)
            simp only [Act.put, List.setIfInBounds_toArray, List.set_cons_zero, List.set_cons_succ]
            refine tail_pure 19 (some 40) (v := ?_) rfl (Or.inl ⟨by rfl, ?_⟩) (fun _ => hHeld) ?_
            rotate_left
            · intro w hSw; (try dsimp only at hSw); go_simp; first | done | (with_reducible rfl)
            simp only [Act.put, List.setIfInBounds_toArray, List.set_cons_zero, List.set_cons_succ]
            refine wpTail.ready (rs := [20]) (by kernel_rfl) (by simp) ?_
            refine AllTail.late rfl (by kernel_rfl) (fun K hK => ?_) AllTail.nil
            have hq5 := HATY.out _ hS4.b
            have lq4 := hq5.cell 10
            have lq5 := hq5.cell 11
            have fq4 := hq5.frozen 10
            have fq5 := hq5.frozen 11
            simp [rxL] at lq4 lq5
            go_simp
            go_wp2_with (fail)
            refine hK.out _ _ ?_
            clear hK K
            refine tail_late 21 (some 41) (v := ?_) rfl (Or.inl ⟨by rfl, ?_⟩) ?_
            rotate_left
            · intro w hSw; (try dsimp only at hSw); go_simp; first | done | (with_reducible rfl)
            simp only [Act.put, List.setIfInBounds_toArray, List.set_cons_zero, List.set_cons_succ]
            refine tail_late 22 (some 42) (v := ?_) rfl (Or.inl ⟨by rfl, ?_⟩) ?_
            rotate_left
            · intro w hSw; (try dsimp only at hSw); go_simp; first | done | (with_reducible rfl)
            simp only [Act.put, List.setIfInBounds_toArray, List.set_cons_zero, List.set_cons_succ]
            refine wpTail.ready (rs := [23]) (by kernel_rfl) (by simp) ?_
            refine AllTail.late rfl (by kernel_rfl) (fun K hK => ?_) AllTail.nil
            go_simp
            go_wp2_with (fail)
            refine hK.out _ _ ?_
            clear hK K
            refine wpTail.done (by kernel_rfl) ?_ _
            go_wp2_with fail
            go_meet
            exact Lib.hid ⟨_, _, _, _, _, hS4, rfl⟩
      · go_simp
        go_wp2_with (fail)
        have hS5 := hS1.b2
        generalize hW5 : W1.alloc (.cells #[] 4) = W5 at hS5 ⊢
        clear hW5
        refine hK.out _ _ (HLD.out _ hS5.b) (fun hHeld => ?_)
        clear hK K
        refine wpTail.ready (rs := [9]) (by kernel_rfl) (by simp) ?_
        refine AllTail.cons rfl (fun K hK => ?_) (AllTail.nil)
        · refine hS5.a1 rfl (.tmp 23) (.tmp 29) rfl (by simp [Act.eval, Act.put]) UA (m - n) (cB - n) (by simp [Act.eval, Act.put]) XB L1.out HSB.out HO1.out (by omega) ?_
          intro A1 c1 W6 hS6
          refine hK.out _ _ (HLD.out _ hS6.b) (fun hHeld => ?_)
          clear hK K
          refine wpTail.ready (rs := [17]) (by kernel_rfl) (by simp) ?_
          refine AllTail.cons rfl (fun K hK => ?_) (AllTail.nil)
          · refine hS6.a2 rfl (.tmp 31) (.tmp 37) rfl (by simp [Act.eval, Act.put]) UC (m - n) (cC - n) (by simp [Act.eval, Act.put]) XC L2.out HSC.out HO2.out (by omega) ?_
            intro A2 c2 W7 hS7
            refine hK.out _ _ (HLD.out _ hS7.b) (fun hHeld => ?_)
            clear hK K
            refine tail_pure 18 (some 39) (v := ?_) rfl (Or.inl ⟨by rfl, ?_⟩) (fun _ => hHeld) ?_
            rotate_left
            · intro w hSw; (try dsimp only at hSw); go_simp; first | done | (with_reducible rfl)
            simp only [Act.put, List.setIfInBounds_toArray, List.set_cons_zero, List.set_cons_succ]
            refine tail_pure 19 (some 40) (v := ?_) rfl (Or.inl ⟨by rfl, ?_⟩) (fun _ => hHeld) ?_
            rotate_left
            · intro w hSw; (try dsimp only at hSw); go_simp; first | done | (with_reducible rfl)
            simp only [Act.put, List.setIfInBounds_toArray, List.set_cons_zero, List.set_cons_succ]
            refine wpTail.ready (rs := [20]) (by kernel_rfl) (by simp) ?_
            refine AllTail.late rfl (by kernel_rfl) (fun K hK => ?_) AllTail.nil
            have hq5 := HATY.out _ hS7.b
            have lq4 := hq5.cell 10
            have lq5 := hq5.cell 11
            have fq4 := hq5.frozen 10
            have fq5 := hq5.frozen 11
            simp [rxL] at lq4 lq5
            go_simp
            go_wp2_with (fail)
            refine hK.out _ _ ?_
            clear hK K
            refine tail_late 21 (some 41) (v := ?_) rfl (Or.inl ⟨by rfl, ?_⟩) ?_
            rotate_left
            · intro w hSw; (try dsimp only at hSw); go_simp; first | done | (with_reducible rfl)
            simp only [Act.put, List.setIfInBounds_toArray, List.set_cons_zero, List.set_cons_succ]
            refine tail_late 22 (some 42) (v := ?_) rfl (Or.inl ⟨by rfl, ?_⟩) ?_
            rotate_left
            · intro w hSw; (try dsimp only at hSw); go_simp; first | done | (with_reducible rfl)
            simp only [Act.put, List.setIfInBounds_toArray, List.set_cons_zero, List.set_cons_succ]
            refine wpTail.ready (rs := [23]) (by kernel_rfl) (by simp) ?_
            refine AllTail.late rfl (by kernel_rfl) (fun K hK => ?_) AllTail.nil
            go_simp
            go_wp2_with (fail)
            refine hK.out _ _ ?_
            clear hK K
            refine wpTail.done (by kernel_rfl) ?_ _
            go_wp2_with fail
            go_meet
            exact Lib.hid ⟨_, _, _, _, _, hS7, rfl⟩
    · go_simp
      go_wp2_with (fail)
      have hS8 := hS0.b2
      generalize hW8 : Y.alloc (.cells #[] 4) = W8 at hS8 ⊢
      clear hW8
      refine hK.out _ _ (HLD.out _ hS8.b) (fun hHeld => ?_)
      clear hK K
      refine wpTail.ready (rs := [2]) (by kernel_rfl) (by simp) ?_
      refine AllTail.cons rfl (fun K hK => ?_) (AllTail.nil)
      · go_simp
        go_wp2_with (fail)
        have hS9 := hS8.b1
        generalize hW9 : W8.alloc (.cells #[] 5) = W9 at hS9 ⊢
        clear hW9
        refine hK.out _ _ (HLD.out _ hS9.b) (fun hHeld => ?_)
        clear hK K
        refine wpTail.ready (rs := [9]) (by kernel_rfl) (by simp) ?_
        refine AllTail.cons rfl (fun K hK => ?_) (AllTail.nil)
        · refine hS9.a1 rfl (.tmp 23) (.tmp 29) rfl (by simp [Act.eval, Act.put]) UA (m - n) (cB - n) (by simp [Act.eval, Act.put]) XB L1.out HSB.out HO1.out (by omega) ?_
          intro A1 c1 W10 hS10
          refine hK.out _ _ (HLD.out _ hS10.b) (fun hHeld => ?_)
          clear hK K
          refine wpTail.ready (rs := [17]) (by kernel_rfl) (by simp) ?_
          refine AllTail.cons rfl (fun K hK => ?_) (AllTail.nil)
          · refine hS10.a2 rfl (.tmp 31) (.tmp 37) rfl (by simp [Act.eval, Act.put]) UC (m - n) (cC - n) (by simp [Act.eval, Act.put]) XC L2.out HSC.out HO2.out (by omega) ?_
            intro A2 c2 W11 hS11
            refine hK.out _ _ (HLD.out _ hS11.b) (fun hHeld => ?_)
            clear hK K
            refine tail_pure 18 (some 39) (v := ?_) rfl (Or.inl ⟨by rfl, ?_⟩) (fun _ => hHeld) ?_
            rotate_left
            · intro w hSw; (try dsimp only at hSw); go_simp; first | done | (with_reducible rfl)
            simp only [Act.put, List.setIfInBounds_toArray, List.set_cons_zero, List.set_cons_succ]
            refine tail_pure 19 (some 40) (v := ?_) rfl (Or.inl ⟨by rfl, ?_⟩) (fun _ => hHeld) ?_
            rotate_left
            · intro w hSw; (try dsimp only at hSw); go_simp; first | done | (with_reducible rfl)
            simp only [Act.put, List.setIfInBounds_toArray, List.set_cons_zero, List.set_cons_succ]
            refine wpTail.ready (rs := [20]) (by kernel_rfl) (by simp) ?_
            refine AllTail.late rfl (by kernel_rfl) (fun K hK => ?_) AllTail.nil
            have hq5 := HATY.out _ hS11.b
            have lq4 := hq5.cell 10
            have lq5 := hq5.cell 11
            have fq4 := hq5.frozen 10
            have fq5 := hq5.frozen 11
            simp [rxL] at lq4 lq5
            go_simp
            go_wp2_with (fail)
            refine hK.out _ _ ?_
            clear hK K
            refine tail_late 21 (some 41) (v := ?_) rfl (Or.inl ⟨by rfl, ?_⟩) ?_
            rotate_left
            · intro w hSw; (try dsimp only at hSw); go_simp; first | done | (with_reducible rfl)
            simp only [Act.put, List.setIfInBounds_toArray, List.set_cons_zero, List.set_cons_succ]
            refine tail_late 22 (some 42) (v := ?_) rfl (Or.inl ⟨by rfl, ?_⟩) ?_
            rotate_left
            · intro w hSw; (try dsimp only at hSw); go_simp; first | done | (with_reducible rfl)
            simp only [Act.put, List.setIfInBounds_toArray, List.set_cons_zero, List.set_cons_succ]
            refine wpTail.ready (rs := [23]) (by kernel_rfl) (by simp) ?_
            refine AllTail.late rfl (by kernel_rfl) (fun K hK => ?_) AllTail.nil
            go_simp
            go_wp2_with (fail)
            refine hK.out _ _ ?_
            clear hK K
            refine wpTail.done (by kernel_rfl) ?_ _
            go_wp2_with fail
            go_meet
            exact Lib.hid ⟨_, _, _, _, _, hS11, rfl⟩
  case rest =>
    obtain ⟨A1, c1, A2, c2, W5, hS, rfl⟩ := hcut.out
    have HS := Lib.hid hS
    have HFIN : Hid (∀ d, (∃ O', Rj X ((((W5.setCell ⟨q, 10, none⟩ (.slice A1 (m - n) c1)).setCell ⟨q, 11, none⟩ (.slice A2 (m - n) c2)).setCell ⟨q, 6, none⟩ (.int .u64 (S.rd + n : Nat))).drewN d) base q O' (takeS S n) ∧ Kept (rO q (.slice AB m cB) (.slice AC m cC)) w ((((W5.setCell ⟨q, 10, none⟩ (.slice A1 (m - n) c1)).setCell ⟨q, 11, none⟩ (.slice A2 (m - n) c2)).setCell ⟨q, 6, none⟩ (.int .u64 (S.rd + n : Nat))).drewN d) ∧ ∀ j, O' j → rO q (.slice AB m cB) (.slice AC m cC) j ∨ w.heap.size ≤ j) ∧ Own ((((W5.setCell ⟨q, 10, none⟩ (.slice A1 (m - n) c1)).setCell ⟨q, 11, none⟩ (.slice A2 (m - n) c2)).setCell ⟨q, 6, none⟩ (.int .u64 (S.rd + n : Nat))).drewN d) w.heap.size 5 v (B.take n)) := Lib.hid (fun d => ftake_fin HC.out HK.out hnk hb HBW.out HS.out (by rw [HX0.out]; exact HV2.out) d)
    have hq5 := HAT.out W5 (HBW.out.drew.trans (hS.b.mono (by have := HBW.out.size; exact this)))
    have hq6 := (hq5.set 10 (.slice A1 (m - n) c1)).set 11 (.slice A2 (m - n) c2)
    generalize hX6 : (W5.setCell ⟨q, 10, none⟩ (.slice A1 (m - n) c1)).setCell ⟨q, 11, none⟩ (.slice A2 (m - n) c2) = X6 at *
    have d0 : X6.cell? ⟨q, 6, none⟩ = some (.int .u64 S.rd) := by rw [hq6.cell]; rfl
    have f0 := hq6.frozen 6
    have hrd : S.rd ≤ 1099511628288 := by omega
    obtain ⟨R, hR⟩ : ∃ R, R = S.rd + n := ⟨_, rfl⟩
    have hrn : (S.rd : Int) + (n : Int) = (R : Int) := by omega
    have hRb : R ≤ 1099511628288 := by omega
    have hwn : IntKind.u64.wrap (n : Int) = (n : Int) := by rw [IntKind.wrap_u64]; omega
    have hwR : IntKind.u64.wrap (R : Int) = (R : Int) := by rw [IntKind.wrap_u64]; omega
    have HR := Lib.hid hR
    rw [← hR] at HFIN
    have h7 := hq6.set 6 (.int .u64 R)
    have HQ : Hid (∀ b : Bool, b = (S.en && decide (R = S.fi)) → ∀ d, FTPost X base q (rO q (.slice AB m cB) (.slice AC m cC)) S n w (.returned (.tuple #[v, .bool b])) ((X6.setCell ⟨q, 6, none⟩ (.int .u64 R)).drewN d)) := Lib.hid (fun b hb' d => by
      have hb2 : b = (S.en && decide (S.rd + n = S.fi)) := by rw [hb', HR.out]
      rw [hb2]
      have hf := HFIN.out d
      refine ⟨v, rfl, ?_, hf.1⟩
      rw [← rm_out HC.out.rm HK.out hnk]
      exact hf.2)
    clear hR HFIN HAT HRD HS1 HS2 HRY hl1 hcut hS hX6 hq5 hq6
    go_wp2
    generalize hX7 : X6.setCell ⟨q, 6, none⟩ (.int .u64 R) = X7 at *
    have e0 : X7.cell? ⟨q, 6, none⟩ = some (.int .u64 R) := by rw [h7.cell]; rfl
    have e2 : X7.cell? ⟨q, 8, none⟩ = some (.int .u64 S.fi) := by rw [h7.cell]; rfl
    have e3 : X7.cell? ⟨q, 9, none⟩ = some (.bool S.en) := by rw [h7.cell]; rfl
    clear h7 hX7 f0 d0
    cases hen : S.en
    · rw [hen] at e3
      go_quiet (fail)
      go_wp2
      go_ret2
      exact HQ.out _ (by rw [hen]; rfl) _
    · rw [hen] at e3
      go_quiet (fail)
      go_wp2
      go_ret2
      exact HQ.out _ (by rw [hen, Bool.true_and, Bool.eq_iff_iff]; simp; try omega) _
end
end Go.Proofs.YtphpdaldplkgmaaGreat
