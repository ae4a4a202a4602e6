/-
  receiver.Receiver: Read, Stop, Lost.
-/
import Derived.Test.YtahalbmcijbbmaaMq9
import Derived.Deep.RegionHeld3
import Derived.Test.YtahalbmcijbbmaaProg
import Derived.Test.YtahalbmcijbbmaaMq0
import Derived.Deep.RegionHeld
namespace Go.Proofs.Ytahalbmcijbbmaa
section
set_option linter.unusedVariables false
set_option linter.unusedSimpArgs false
open Go.RowKit
theorem results_tmp4q {fn : Func} {t u v x : Tmp} (h : fn.results = #[.tmp t, .tmp u, .tmp v, .tmp x]) (tmps : Array Value) (P : Program) (w : World) :
    (results fn tmps).run P w = .ok (.tuple #[tmps.getD t undef, tmps.getD u undef, tmps.getD v undef, tmps.getD x undef]) w := by
  simp [results, h]
/-- What Read leaves. -/
def RQPost (base p : Nat) (O : Nat → Prop) (X : QS) (most : Int) (w : World) (e : Ending) (w' : World) : Prop :=
  ∃ v, e = .returned (.tuple #[v, .bool (readQ X most).fl, .int .u64 (readQ X most).cd, .int .i64 (readQ X most).er]) ∧ Own w' w.heap.size 5 v (readQ X most).bs ∧ ∃ O', Qp w' base p O' (readX X most) ∧ Kept O w w' ∧ ∀ j, O' j → O j ∨ w.heap.size ≤ j
section
variable {w w' : World} {base p pb : Nat} {O Ob Ob' : Nat → Prop} {X X' : QS}
set_option maxHeartbeats 8000000 in
set_option maxRecDepth 100000 in
theorem q_read (h : Qp w base p O X) (ho : X.ok) (hb : base ≤ w.heap.size) (most : Int) (hm : -9223372036854775808 ≤ most ∧ most < 9223372036854775808) :
    Calls Try.prog 15 #[.pointer (some ⟨p, 0, none⟩), .int .i64 most] w (RQPost base p O X most w) := by
  have c2 := h.c2
  have c5 := h.c5
  have f2 := h.fz 2
  by_cases h5 : X.st = 5
  · have e1 : readQ X most = ⟨false, X.code, 29, []⟩ := by unfold readQ; rw [if_pos h5]
    have e2 : readX X most = { X with st := 6 } := by unfold readX; rw [if_pos h5]
    have HE : Hid (∀ d, RQPost base p O X most w (.returned (.tuple #[.slice none 0 0, .bool false, .int .u64 X.code, .int .i64 29])) ((w.setCell ⟨p, 2, none⟩ (.int .i64 6)).drewN d)) := Lib.hid (fun d => by
      obtain ⟨rfl, hd⟩ := h.dead (by omega)
      unfold RQPost
      rw [e1, e2]
      refine ⟨_, rfl, Own.none_ _ _ _, _, .inr ⟨by show 5 ≤ 6; omega, rfl, (hd.set (X' := { X with st := 6 }) 2 (.int .i64 6) rfl).drewN d⟩, ?_, fun j hj => .inl hj⟩
      exact (((Kept.refl (pOb p fun _ => False) w).setCell (p := ⟨p, 2, none⟩) (.inl (.inl rfl)) _).drewN d))
    have d5 : (w.setCell ⟨p, 2, none⟩ (.int .i64 6)).cell? ⟨p, 5, none⟩ = some (.int .u64 X.code) := by
      obtain ⟨pin, ha⟩ := h.at_
      rw [(ha.set 2 (.int .i64 6)).cell]; rfl
    rw [h5] at c2
    clear h ho hb e1 e2 h5
    go_enter Try.func15, Try.ntmps15
    go_wp2
    go_quiet (fail)
    go_wp2
    refine bodyPost_ret (results_tmp4q rfl _ _ _) rfl ?_
    exact HE.out _
  · by_cases h46 : X.st = 4 ∨ X.st = 6
    · have e1 : readQ X most = ⟨false, 0, 24, []⟩ := by unfold readQ; rw [if_neg h5, if_pos h46]
      have e2 : readX X most = X := by unfold readX; rw [if_neg h5, if_pos h46]
      have HE : Hid (∀ d, RQPost base p O X most w (.returned (.tuple #[.slice none 0 0, .bool false, .int .u64 0, .int .i64 24])) (w.drewN d)) := Lib.hid (fun d => by
        unfold RQPost
        rw [e1, e2]
        exact ⟨_, rfl, Own.none_ _ _ _, _, h.drewN d, (Kept.refl _ _).drewN d, fun j hj => .inl hj⟩)
      clear h ho hb e1 e2 h5
      rcases h46 with h4 | h4
      all_goals
        rw [h4] at c2
        clear h4
        go_enter Try.func15, Try.ntmps15
        go_wp2
        refine bodyPost_ret (results_tmp4q rfl _ _ _) rfl ?_
        exact HE.out 0
    · obtain ⟨pb, Ob, rfl, hl⟩ := h.live (by have := ho.st; omega)
      have c4 := hl.c4
      have hr := rdyS_is ho.b
      have HT := Lib.hid (itake_any base pb Ob X.b most w hl.bf ho.b hb hm (rdyS X.b) hr)
      obtain ⟨n, hn⟩ : ∃ n, n = min most.toNat (rdyS X.b) := ⟨_, rfl⟩
      have hk : X.st = 1 ∨ X.st = 2 ∨ X.st = 3 := by have := ho.st; omega
      rw [← hn] at HT
      have hol : ∀ n, (outB X.b.g X.b.rd n).length = n := outB_len _ _
      have e2 : readX X most = { X with b := takeS X.b n, st := if (X.b.en && decide (X.b.rd + n = X.b.fi)) = true then 4 else X.st } := by unfold readX; rw [if_neg h5, if_neg h46, ← hn]
      have HE1 : Hid (∀ (v : Value) (W : World) (Ob' : Nat → Prop) (d : Nat), Own W w.heap.size 5 v (outB X.b.g X.b.rd n) → Bf W base pb Ob' (takeS X.b n) → Kept Ob w W → (∀ j, Ob' j → Ob j ∨ w.heap.size ≤ j) →
          ((n = 0 ∧ (X.b.en && decide (X.b.rd + n = X.b.fi)) = false → RQPost base p (pOb p Ob) X most w (.returned (.tuple #[.slice none 0 0, .bool false, .int .u64 0, .int .i64 26])) (W.drewN d)) ∧
           (0 < n → (X.b.en && decide (X.b.rd + n = X.b.fi)) = false → RQPost base p (pOb p Ob) X most w (.returned (.tuple #[v, .bool false, .int .u64 0, .int .i64 0])) (W.drewN d)) ∧
           ((X.b.en && decide (X.b.rd + n = X.b.fi)) = true → RQPost base p (pOb p Ob) X most w (.returned (.tuple #[v, .bool true, .int .u64 0, .int .i64 0])) ((W.setCell ⟨p, 2, none⟩ (.int .i64 4)).drewN d)) ∧
           W.cell? ⟨p, 2, none⟩ = some (.int .i64 X.st) ∧ W.frozen? ⟨p, 2, none⟩ = false)) := Lib.hid (by
        intro v W Ob' d h1 h2 h3 h4
        have hl' := hl.step h2 h3 h4
        have hst5 : X.st < 5 := by omega
        refine ⟨?_, ?_, ?_, by rw [hl'.at_.cell]; rfl, hl'.at_.frozen 2⟩
        · rintro ⟨n0, hen⟩
          unfold RQPost
          rw [e2, hen]
          have e1 : readQ X most = ⟨false, 0, 26, []⟩ := by unfold readQ; rw [if_neg h5, if_neg h46, ← hn, if_pos ⟨n0, by rw [n0, Nat.add_zero] at hen; exact hen⟩]
          rw [e1]
          exact ⟨_, rfl, Own.none_ _ _ _, _, .inl ⟨hst5, _, _, rfl, hl'.drewN d⟩, (h3.mono fun j hj => .inl (.inr hj)).drewN d, fun j hj => hj.elim (fun e => .inl (.inl e)) fun e => (h4 j e).imp .inr id⟩
        · intro n0 hen
          unfold RQPost
          have e1 : readQ X most = ⟨false, 0, 0, outB X.b.g X.b.rd n⟩ := by unfold readQ; rw [if_neg h5, if_neg h46, ← hn, if_neg (by omega), hen]
          rw [e1, e2, hen]
          exact ⟨_, rfl, h1, _, .inl ⟨hst5, _, _, rfl, hl'.drewN d⟩, (h3.mono fun j hj => .inl (.inr hj)).drewN d, fun j hj => hj.elim (fun e => .inl (.inl e)) fun e => (h4 j e).imp .inr id⟩
        · intro hen
          unfold RQPost
          have e1 : readQ X most = ⟨true, 0, 0, outB X.b.g X.b.rd n⟩ := by
            unfold readQ
            rw [if_neg h5, if_neg h46, ← hn, if_neg, hen]
            rintro ⟨n0, hc⟩
            rw [n0, Nat.add_zero] at hen
            rw [hen] at hc
            cases hc
          rw [e1, e2, hen]
          have hl2 := hl'.set (X' := { X with b := takeS X.b n, st := 4 }) 2 (.int .i64 4) rfl rfl
          have hk2 : Kept (pOb p Ob) w (W.setCell ⟨p, 2, none⟩ (.int .i64 4)) := (h3.mono fun j hj => .inl (.inr hj)).setCell (p := ⟨p, 2, none⟩) (.inl (.inl rfl)) _
          refine ⟨_, rfl, ?_, _, .inl ⟨by show 4 < 5; omega, _, _, rfl, hl2.drewN d⟩, hk2.drewN d, fun j hj => hj.elim (fun e => .inl (.inl e)) fun e => (h4 j e).imp .inr id⟩
          have hp := hl.at_.lt
          exact h1.keep fun j hj => by
            have := (h1.block_lt j hj).1
            exact Below.heap_setCell W ⟨p, 2, none⟩ (.int .i64 4) j (fun e => by have e' : j = p := e; omega))
      have HOL := Lib.hid (hol n)
      clear h ho hb e2 h5 h46 hl hr hn hol
      rcases hk with hk | hk | hk
      all_goals
        rw [hk] at c2
        rw [hk] at HE1
        clear hk
        cases hen : (X.b.en && decide (X.b.rd + n = X.b.fi)) with
        | false =>
          unfold TPost at HT
          rw [hen] at HT HE1
          rcases Nat.eq_zero_or_pos n with hn0 | hn0
          · subst hn0
            go_enter Try.func15, Try.ntmps15
            go_wp2_with (go_at_call 25; (with_reducible refine HT.out.mono ?_); rintro e w1 ⟨v, rfl, ho1, Ob', hb1, hk1, ho2⟩; have HX := Lib.hid (HE1.out v w1 Ob' 0 ho1 hb1 hk1 ho2); obtain ⟨A1, c1, rfl, _, _, _⟩ := ho1.open_; rw [HOL.out]; clear ho1 hb1 hk1 ho2)
            refine bodyPost_ret (results_tmp4q rfl _ _ _) rfl ?_
            exact HX.out.1 ⟨by first | rfl | trivial, by first | rfl | trivial⟩
          · have hnz : ((n : Int) == 0) = false := by simp; omega
            go_enter Try.func15, Try.ntmps15
            go_wp2_with (go_at_call 25; (with_reducible refine HT.out.mono ?_); rintro e w1 ⟨v, rfl, ho1, Ob', hb1, hk1, ho2⟩; have HX := Lib.hid (HE1.out v w1 Ob' 0 ho1 hb1 hk1 ho2); obtain ⟨A1, c1, e1, _, _, _⟩ := ho1.open_; rw [HOL.out] at e1; subst e1; clear ho1 hb1 hk1 ho2)
            refine bodyPost_ret (results_tmp4q rfl _ _ _) rfl ?_
            exact HX.out.2.1 hn0 (by first | rfl | trivial)
        | true =>
          unfold TPost at HT
          rw [hen] at HT HE1
          rcases Nat.eq_zero_or_pos n with hn0 | hn0
          · subst hn0
            go_enter Try.func15, Try.ntmps15
            go_wp2_with (go_at_call 25; (with_reducible refine HT.out.mono ?_); rintro e w1 ⟨v, rfl, ho1, Ob', hb1, hk1, ho2⟩; have HX := Lib.hid (HE1.out v w1 Ob' 0 ho1 hb1 hk1 ho2); obtain ⟨A1, c1, e1, _, _, _⟩ := ho1.open_; rw [HOL.out] at e1; subst e1; have gg2 := HX.out.2.2.2.1; have gf2 := HX.out.2.2.2.2; clear ho1 hb1 hk1 ho2)
            refine bodyPost_ret (results_tmp4q rfl _ _ _) rfl ?_
            exact HX.out.2.2.1 (by first | rfl | trivial)
          · have hnz : ((n : Int) == 0) = false := by simp; omega
            go_enter Try.func15, Try.ntmps15
            go_wp2_with (go_at_call 25; (with_reducible refine HT.out.mono ?_); rintro e w1 ⟨v, rfl, ho1, Ob', hb1, hk1, ho2⟩; have HX := Lib.hid (HE1.out v w1 Ob' 0 ho1 hb1 hk1 ho2); obtain ⟨A1, c1, e1, _, _, _⟩ := ho1.open_; rw [HOL.out] at e1; subst e1; have gg2 := HX.out.2.2.2.1; have gf2 := HX.out.2.2.2.2; clear ho1 hb1 hk1 ho2)
            refine bodyPost_ret (results_tmp4q rfl _ _ _) rfl ?_
            exact HX.out.2.2.1 (by first | rfl | trivial)
end
end
section
set_option linter.unusedVariables false
set_option linter.unusedSimpArgs false
open Go.RowKit
theorem tk_dst {P : Program} {md : Region.Mode} {ops : Array Oper} {Q : Exit → Act → World → Prop} {S : World → Prop} {i : Nat} {oi : Oper} {dst : Option Tmp} {v : Value} {fuel : Nat} {listed : Array Bool} {a : Act} {w : World} (hi : ops[i]? = some oi) (hd : oi.dst = dst)
    (hs : Region.noSelect ops = true) (hf : Region.free md ops listed i = true) (hr : (Region.ready md ops listed).contains i = true)
    (hQ : ∀ c a w, Q (.panic c) (a.put dst v) w → Q (.panic c) a w) (hy : YieldsIf P ops S oi v a) (hS : S w)
    (h : wpAnyH P md ops Q S fuel (listed.setIfInBounds i true) (a.put dst v) w) : wpAnyH P md ops Q S (fuel + 1) listed a w := by
  subst hd
  exact wpAnyH_take hi hs hf hr hQ hy hS h
end
section
set_option linter.unusedVariables false
open Go.RowKit
theorem tkq {P : Program} {md : Region.Mode} {ops : Array Oper} {Q : Exit → Act → World → Prop} {S : World → Prop} (i : Nat) (dst : Option Tmp) {oi : Oper} {v : Value} {fuel : Nat} {listed : Array Bool} {a : Act} {w : World} (hi : ops[i]? = some oi)
    (hy : YieldsIf P ops S oi v a) (hS : S w) (h : wpAnyH P md ops Q S fuel (listed.setIfInBounds i true) (a.put dst v) w)
    (hd : oi.dst = dst := by rfl) (hs : Region.noSelect ops = true := by kernel_rfl) (hf : Region.free md ops listed i = true := by kernel_rfl) (hr : (Region.ready md ops listed).contains i = true := by kernel_rfl)
    (hQ : ∀ c a w, Q (.panic c) (a.put dst v) w → Q (.panic c) a w := by exact fun _ _ _ h => h) : wpAnyH P md ops Q S (fuel + 1) listed a w :=
  tk_dst hi hd hs hf hr hQ hy hS h
end
end Go.Proofs.Ytahalbmcijbbmaa
