/-
  inbuf.Buffer: Take.
-/
import Derived.Test.YtahalbmcijbbmaaMq6
import Derived.Test.YtahalbmcijbbmaaQk
import Derived.StillTailTactics
namespace Go.Proofs.Ytahalbmcijbbmaa
set_option linter.unusedVariables false
set_option linter.unusedSimpArgs false
open Go.RowKit
/-- What Take leaves. -/
def TPost (base p : Nat) (O : Nat → Prop) (S : BS) (n : Nat) (w : World) (e : Ending) (w' : World) : Prop :=
  ∃ v, e = .returned (.tuple #[v, .bool (S.en && decide (S.rd + n = S.fi))]) ∧ Own w' w.heap.size 5 v (outB S.g S.rd n) ∧ ∃ O', Bf w' base p O' (takeS S n) ∧ Kept O w w' ∧ ∀ j, O' j → O j ∨ w.heap.size ≤ j
theorem take_fin {w w1 w2 w3 Y w5 : World} {base p ps n k : Nat} {vs vw v v' r : Value} {e : Ending} {l : RL} {W : List Int} {S : BS} (hc : Bc w base p ps vs vw l W S) (hk : IsR S.g S.rd k) (hn : n ≤ k)
    (h1 : Below w.heap.size w w1) (h2 : Below w1.heap.size w1 w2) (hv : Own w2 w1.heap.size 5 v (W.take n)) (h3 : Own w3 base 5 v' (W.drop n)) (k3 : Kept (fun b => vw.ownBlock = some b) w2 w3)
    (ho : ∀ j, v'.ownBlock = some j → vw.ownBlock = some j) (hY : Y = (w3.setCell ⟨p, 5, none⟩ v').drew) (hA : SetPost r base ps 2048 vs (cutL l S.rd (S.rd + n : Nat) 2048) Y e w5) :
    Own (w5.setCell ⟨p, 0, none⟩ (.int .u64 (S.rd + n : Nat))) w.heap.size 5 v (outB S.g S.rd n) ∧ ∃ O', Bf (w5.setCell ⟨p, 0, none⟩ (.int .u64 (S.rd + n : Nat))) base p O' (takeS S n) ∧ Kept (bO p ps vs vw) w (w5.setCell ⟨p, 0, none⟩ (.int .u64 (S.rd + n : Nat))) ∧ ∀ j, O' j → bO p ps vs vw j ∨ w.heap.size ≤ j := by
  obtain ⟨_, vs', hs', k6, hvs⟩ := hA
  have hl := hc.lt
  have hp := (hl p (.inl rfl)).2
  have hps := (hl ps (.inr (.inl rfl))).2
  have b2 : Below w.heap.size w w2 := h1.trans (h2.mono h1.size)
  have n3 : v'.ownBlock ≠ some p := fun e => hc.n3 (ho p e)
  have n4 : v'.ownBlock ≠ some ps := fun e => hc.n4 (ho ps e)
  have n5 : ∀ k, vs.ownBlock = some k → v'.ownBlock ≠ some k := fun k hk e => hc.n5 k hk (ho k e)
  have kY : Kept (fun b => b = p ∨ vw.ownBlock = some b) w2 Y := by
    rw [hY]
    exact ((k3.mono fun j hj => .inl (.inr hj)).setCell (.inl (.inl rfl)) _).drew
  have c2 := hc.kept (Kept.of_below b2 (fun _ => False)) (fun _ _ h => h)
  have aY : At Y p 74 [.int .u64 S.rd, .int .u64 S.hi, .int .u64 S.fi, .bool S.en, .pointer (some ⟨ps, 0, none⟩), v'] := by
    rw [hY]
    exact ((c2.at_.kept k3 hc.n3).set 5 v').drew
  have oY : Own Y base 5 v' (W.drop n) := by
    rw [hY]
    exact (h3.keep fun j hj => Below.heap_setCell _ _ _ _ (by rintro rfl; exact n3 hj)).drew
  have bv := hv.block_lt
  have vY : Own Y w1.heap.size 5 v (W.take n) := hv.kept kY fun j hj e => by
    have := (bv j hj).1
    have := h1.size
    rcases e with rfl | e
    · omega
    · have := (hl j (.inr (.inr (.inr e)))).2; omega
  have bY : w2.heap.size ≤ Y.heap.size := kY.size
  have b2s := b2.size
  have a5 : At w5 p 74 _ := aY.kept k6 fun e => e.elim hc.n1 fun e => hc.n2 e
  have o5 : Own w5 base 5 v' (W.drop n) := oY.kept k6 fun j hj e => e.elim (fun e => n4 (by rw [hj, e])) fun e => n5 j e hj
  have v5 : Own w5 w1.heap.size 5 v (W.take n) := vY.kept k6 fun j hj e => by
    have := (bv j hj).1
    have := h1.size
    rcases e with rfl | e
    · omega
    · have := (hl j (.inr (.inr (.inl e)))).2; omega
  have vs'p : vs'.ownBlock ≠ some p := fun e => (hvs p e).elim hc.n2 fun h => by omega
  have kZ : Kept (fun b => b = p) w5 (w5.setCell ⟨p, 0, none⟩ (.int .u64 (S.rd + n : Nat))) := (Kept.refl (fun b => b = p) w5).setCell (p := ⟨p, 0, none⟩) (.inl rfl) _
  refine ⟨?_, _, ⟨ps, vs', v', _, W.drop n, rfl, ⟨a5.set 0 (.int .u64 (S.rd + n : Nat)), hs'.kept kZ (fun e => hc.n1 e.symm) (fun j hj e => vs'p (by rw [hj, e])), o5.kept kZ (fun j hj e => n3 (by rw [hj, e])), hc.n1, vs'p, n3, n4, ?_, hc.bp, pm_cut hc.pm hk hn⟩⟩, ?_, ?_⟩
  · rw [← pm_out hc.pm hk hn]
    refine (v5.kept kZ fun j hj e => ?_).base_ h1.size
    have := (bv j hj).1
    have := h1.size
    omega
  · intro j hj e
    rcases hvs j hj with h | h
    · exact n5 j h e
    · have := (hl j (.inr (.inr (.inr (ho j e))))).2; omega
  · refine (((Kept.of_below b2 (bO p ps vs vw)).trans' kY fun j hj => ?_).trans' k6 fun j hj => ?_).trans' kZ fun j hj => .inl (.inl hj)
    · exact .inl (hj.elim .inl fun h => .inr (.inr (.inr h)))
    · exact .inl (hj.elim (fun h => .inr (.inl h)) fun h => .inr (.inr (.inl h)))
  · rintro j (rfl | rfl | hj | hj)
    · exact .inl (.inl rfl)
    · exact .inl (.inr (.inl rfl))
    · rcases hvs j hj with h | h
      · exact .inl (.inr (.inr (.inl h)))
      · exact .inr (by omega)
    · exact .inl (.inr (.inr (.inr (ho j hj))))
set_option maxHeartbeats 8000000 in
set_option maxRecDepth 100000 in
theorem itake_any (base p : Nat) (O : Nat → Prop) (S : BS) (most : Int) (w : World) (h : Bf w base p O S) (hok : S.ok) (hb : base ≤ w.heap.size) (hm : -9223372036854775808 ≤ most ∧ most < 9223372036854775808) (k : Nat) (hk : IsR S.g S.rd k) :
    Calls Try.prog 25 #[.pointer (some ⟨p, 0, none⟩), .int .i64 most] w (TPost base p O S (min most.toNat k) w) := by
  have HRY := Lib.hid (iready_any base p O S w h hok k hk)
  obtain ⟨ps, vs, vw, l, W, rfl, hc⟩ := h
  have hkw := pm_ready_le hc.pm hk
  have hkh := hk.le hok
  have hhi := hok.hm
  have hwl := hc.pm.wl
  obtain ⟨n, hn⟩ : ∃ n, n = min most.toNat k := ⟨_, rfl⟩
  have hnk : n ≤ k := by omega
  rw [← hn]
  obtain ⟨M, hM⟩ : ∃ M : Int, (if most < 0 then 0 else most) = M := ⟨_, rfl⟩
  have hMn : (if (k : Int) < M then (k : Int) else M) = (n : Int) := by
    rw [← hM, hn]
    split <;> split at * <;> omega
  clear hn
  have h0 := hc.c0
  have h2 := hc.c2
  have h3 := hc.c3
  have h5 := hc.c5
  have HC := Lib.hid hc
  have HK := Lib.hid hk
  have hnW : n ≤ W.length := by omega
  obtain ⟨A, c, e1, hnc, hcm, ho⟩ := ow_open (own_ow hc.own)
  rw [List.length_map] at e1 hnc ho
  subst e1
  have hA : A = none → c = 0 := by
    rintro rfl
    rcases ho with ⟨_, h, _⟩ | ⟨g, cur, h, _⟩
    · exact h
    · cases h
  obtain ⟨_, _, e2, _, _, hrd0⟩ := hc.own.open_
  injection e2 with e3 _ e4
  subst e3; subst e4
  have HRD : Hid (∀ w1, Below w.heap.size w w1 → Rd w1 w1.heap.size A n (W.take n)) := Lib.hid (fun w1 hB => ((hrd0.cutTo hnW).below hB).more hB.size)
  have HOW : Hid (∀ w2, Below w.heap.size w w2 → Own w2 base 5 (.slice A W.length c) W) := Lib.hid (fun w2 hB => hc.own.below hB (Nat.le_refl _))
  have HAT : Hid (∀ w2, Below w.heap.size w w2 → At w2 p 74 [.int .u64 S.rd, .int .u64 S.hi, .int .u64 S.fi, .bool S.en, .pointer (some ⟨ps, 0, none⟩), .slice A W.length c]) := Lib.hid (fun w2 hB => hc.at_.below hB hc.at_.lt)
  have HCL : Hid (∀ w1, Below w.heap.size w w1 → Calls Try.prog 35 #[.slice A n c] w1 fun e w' => ∃ v, e = .returned v ∧ Own w' w1.heap.size 5 v (W.take n) ∧ Below w1.heap.size w1 w') := Lib.hid (fun w1 hB => clone8 A n c _ w1 (HRD.out w1 hB) (by omega) hA)
  have HDE : Hid (∀ w2, Below w.heap.size w w2 → Calls Try.prog 36 #[.slice A W.length c, .int .i64 0, .int .i64 n] w2 fun e w' => ∃ v', e = .returned v' ∧ Own w' base 5 v' (W.drop n) ∧ Kept (fun b => (Value.slice A W.length c).ownBlock = some b) w2 w' ∧ ∀ j, v'.ownBlock = some j → (Value.slice A W.length c).ownBlock = some j) := Lib.hid (fun w2 hB => del8 base _ W n w2 (HOW.out w2 hB) hnW (by omega) (Nat.le_trans hb hB.size))
  have HCUT : Hid (∀ Y, SetV Y base ps 2048 vs l → base ≤ Y.heap.size → Calls Try.prog 37 #[.pointer (some ⟨ps, 0, none⟩), .int .u64 S.rd, .int .u64 (S.rd + n : Nat)] Y (SetPost (.tuple #[]) base ps 2048 vs (cutL l S.rd (S.rd + n : Nat) 2048) Y)) := Lib.hid (fun Y hs hbY => cut_any' base ps 2048 vs l Y hs (by have := hc.pm.len; omega) hc.pm.gd hbY (by omega) S.rd (S.rd + n : Nat) (by omega) (by omega))
  have HSY : Hid (∀ w1 w2 w3 v', Below w.heap.size w w1 → Below w1.heap.size w1 w2 → Kept (fun b => (Value.slice A W.length c).ownBlock = some b) w2 w3 → SetV (w3.setCell ⟨p, 5, none⟩ v').drew base ps 2048 vs l ∧ base ≤ (w3.setCell ⟨p, 5, none⟩ v').drew.heap.size) := Lib.hid (fun w1 w2 w3 v' b1 b2 k3 => by
    have b := b1.trans (b2.mono b1.size)
    have hs2 : SetV w2 base ps 2048 vs l := hc.set_.kept (Kept.of_below b (fun _ => False)) (fun h => h) (fun _ _ h => h)
    have hs3 := hs2.kept k3 hc.n4 (fun j hj => hc.n5 j hj)
    refine ⟨hs3.kept (((Kept.refl (fun b => b = p) w3).setCell (p := ⟨p, 5, none⟩) (.inl rfl) v').drew) (fun e => hc.n1 e.symm) (fun j hj e => hc.n2 (by rw [hj, e])), ?_⟩
    have := b.size
    have := k3.size
    show base ≤ (w3.setCell _ _).heap.size
    simp only [World.setCell, Array.size_modify]
    omega)
  have hwl' : W.length ≤ 2048 := hwl
  have hcm' : c ≤ 9223372036854775807 := by unfold maxLen at hcm; omega
  have hrn : (S.rd : Int) + (n : Int) = ((S.rd + n : Nat) : Int) := by omega
  have hrnb : S.rd + n ≤ 1099511628288 := by omega
  have hrd : S.rd ≤ 1099511628288 := by omega
  have hnc2 : n ≤ c := by omega
  have HQ : Hid (∀ b : Bool, b = (S.en && decide (S.rd + n = S.fi)) → ∀ (v : Value) (Z : World), Own Z w.heap.size 5 v (outB S.g S.rd n) → (∃ O', Bf Z base p O' (takeS S n) ∧ Kept (bO p ps vs (.slice A W.length c)) w Z ∧ ∀ j, O' j → bO p ps vs (.slice A W.length c) j ∨ w.heap.size ≤ j) → ∀ d, TPost base p (bO p ps vs (.slice A W.length c)) S n w (.returned (.tuple #[v, .bool b])) (Z.drewN d)) := Lib.hid (fun b hb v Z ho hf d => by
    obtain ⟨O', f1, f2, f3⟩ := hf
    rw [hb]
    exact ⟨v, rfl, ho.keep (fun _ _ => rfl), O', f1.drewN d, f2.drewN d, f3⟩)
  have hp := hc.at_.lt
  clear hc hk hrd0 ho hA
  generalize hmW : W.length = m at *
  have HMW := Lib.hid hmW
  clear hmW
  obtain ⟨R, hR⟩ : ∃ R, R = S.rd + n := ⟨_, rfl⟩
  have HR := Lib.hid hR
  rw [← hR] at hrn hrnb HCUT HQ
  clear hR
  obtain ⟨N3, hN3⟩ : ∃ N3, (W.drop n).length = N3 := ⟨_, rfl⟩
  have HL3 := Lib.hid hN3
  clear hN3
  have hwn : IntKind.u64.wrap (n : Int) = (n : Int) := by rw [IntKind.wrap_u64]; omega
  have hwR : IntKind.u64.wrap (R : Int) = (R : Int) := by rw [IntKind.wrap_u64]; omega
  go_enter Try.func25, Try.ntmps25
  go_wp2_with (first
    | (go_at_call 34; (with_reducible refine HRY.out.mono ?_); rintro e w1 ⟨rfl, hB1⟩; have HB1 := Lib.hid hB1; have g5 : w1.cell? ⟨p, 5, none⟩ = some (.slice A m c) := (by rw [(HAT.out w1 hB1).cell]; rfl); have HC1 := Lib.hid (HCL.out w1 hB1); clear hB1)
    | (go_at_call 35; (with_reducible refine HC1.out.mono ?_); rintro e w2 ⟨v, rfl, hv2, hB2⟩; have HV2 := Lib.hid hv2; have HB2 := Lib.hid hB2; have HB12 := Lib.hid (HB1.out.trans (hB2.mono HB1.out.size)); have HD2 := Lib.hid (HDE.out w2 HB12.out); have g5 : w2.cell? ⟨p, 5, none⟩ = some (.slice A m c) := (by rw [(HAT.out w2 HB12.out).cell]; rfl); clear hv2 hB2)
    | (go_at_call 36; (with_reducible refine HD2.out.mono ?_); rintro e w3 ⟨v', rfl, hO3, hk3, hn3⟩; obtain ⟨A3, c3, rfl, _, _, _⟩ := hO3.open_n N3 HL3.out; have ha3 := (HAT.out w2 HB12.out).kept hk3 HC.out.n3; have g5 : w3.cell? ⟨p, 5, none⟩ = some (.slice A m c) := (by rw [ha3.cell]; rfl); have f5 := ha3.frozen 5; have HO3 := Lib.hid hO3; have HK3 := Lib.hid hk3; have HN3 := Lib.hid hn3; have HA3 := Lib.hid (ha3.set 5 (.slice A3 N3 c3)); clear hO3 hk3 hn3 ha3))
  have hSY := HSY.out w1 w2 w3 (.slice A3 N3 c3) HB1.out HB2.out HK3.out
  have HCY := Lib.hid (HCUT.out _ hSY.1 hSY.2)
  have HAX : Hid (At (w3.setCell ⟨p, 5, none⟩ (.slice A3 N3 c3)) p 74 [.int .u64 S.rd, .int .u64 S.hi, .int .u64 S.fi, .bool S.en, .pointer (some ⟨ps, 0, none⟩), .slice A3 N3 c3]) := HA3
  have HFIN : Hid (∀ e w5, SetPost (.tuple #[]) base ps 2048 vs (cutL l S.rd R 2048) (w3.setCell ⟨p, 5, none⟩ (.slice A3 N3 c3)).drew e w5 → (Own (w5.setCell ⟨p, 0, none⟩ (.int .u64 R)) w.heap.size 5 v (outB S.g S.rd n) ∧ ∃ O', Bf (w5.setCell ⟨p, 0, none⟩ (.int .u64 R)) base p O' (takeS S n) ∧ Kept (bO p ps vs (.slice A m c)) w (w5.setCell ⟨p, 0, none⟩ (.int .u64 R)) ∧ ∀ j, O' j → bO p ps vs (.slice A m c) j ∨ w.heap.size ≤ j) ∧ At w5 p 74 [.int .u64 S.rd, .int .u64 S.hi, .int .u64 S.fi, .bool S.en, .pointer (some ⟨ps, 0, none⟩), .slice A3 N3 c3]) := Lib.hid (fun e w5 hP => by
    refine ⟨?_, ?_⟩
    · rw [HR.out] at hP ⊢
      exact take_fin HC.out HK.out hnk HB1.out HB2.out HV2.out HO3.out HK3.out HN3.out rfl hP
    · obtain ⟨_, _, _, k6, _⟩ := hP
      exact HAX.out.drew.kept k6 fun e => e.elim HC.out.n1 fun e => HC.out.n2 e)
  have q0 : (w3.setCell ⟨p, 5, none⟩ (.slice A3 N3 c3)).cell? ⟨p, 0, none⟩ = some (.int .u64 S.rd) := by rw [HAX.out.cell]; rfl
  have q4 : (w3.setCell ⟨p, 5, none⟩ (.slice A3 N3 c3)).cell? ⟨p, 4, none⟩ = some (.pointer (some ⟨ps, 0, none⟩)) := by rw [HAX.out.cell]; rfl
  clear hSY HSY HCUT HCL HDE HA3 HAX f5 g5
  generalize hX : w3.setCell ⟨p, 5, none⟩ (.slice A3 N3 c3) = X at *
  clear hX
  go_still_tail 15, (by kernel_rfl)
  change wpList _ _ _ _ _ (World.drew X)
  generalize World.drew X = Y at HCY HFIN ⊢
  go_wp2_with (go_at_call 37; (with_reducible refine HCY.out.mono ?_); intro e w5 hP; obtain ⟨hf, ha5⟩ := HFIN.out e w5 hP; have HF := Lib.hid hf; have r0 : w5.cell? ⟨p, 0, none⟩ = some (.int .u64 S.rd) := (by rw [ha5.cell]; rfl); have s0 := ha5.frozen 0; have HA6 := Lib.hid (ha5.set 0 (.int .u64 R)); obtain ⟨rfl, _⟩ := hP; clear hf ha5)
  have t0 : (w5.setCell ⟨p, 0, none⟩ (.int .u64 R)).cell? ⟨p, 0, none⟩ = some (.int .u64 R) := by rw [HA6.out.cell]; rfl
  have t2 : (w5.setCell ⟨p, 0, none⟩ (.int .u64 R)).cell? ⟨p, 2, none⟩ = some (.int .u64 S.fi) := by rw [HA6.out.cell]; rfl
  have t3 : (w5.setCell ⟨p, 0, none⟩ (.int .u64 R)).cell? ⟨p, 3, none⟩ = some (.bool S.en) := by rw [HA6.out.cell]; rfl
  clear r0 s0 HA6 HFIN HCY
  generalize hZ : w5.setCell ⟨p, 0, none⟩ (.int .u64 R) = Z at *
  clear hZ
  cases hen : S.en
  · rw [hen] at t3
    go_quiet (fail)
    go_wp2
    go_ret2
    exact HQ.out _ (by rw [hen]; rfl) v Z HF.out.1 HF.out.2 _
  · rw [hen] at t3
    go_quiet (fail)
    go_wp2
    go_ret2
    exact HQ.out _ (by rw [hen, Bool.true_and, Bool.eq_iff_iff]; simp; try omega) v Z HF.out.1 HF.out.2 _
end Go.Proofs.Ytahalbmcijbbmaa
