/-
  The book's frame out of the zero F: of kind 0.
-/
import Derived.Test.YtbejpafephofaaaGreatMq26
import Derived.Test.YtbejpafephofaaaGreatMq15
import Derived.Test.YtbejpafephofaaaGreatProg
import Derived.Test.YtbejpafephofaaaGreatMq0
import Derived.Test.YtbejpafephofaaaGreatMq12
import Derived.Deep.Slices
import Derived.ChangeSlices
import Derived.Test.YtbejpafephofaaaGreatMq21
import Derived.Test.YtbejpafephofaaaGreatEa
import Derived.Test.YtbejpafephofaaaGreatMq10
import Derived.Test.YtbejpafephofaaaGreatMq11
import Derived.Test.YtbejpafephofaaaGreatMq22
import Derived.BigQuiet
namespace Go.Proofs.YtbejpafephofaaaGreat
section
set_option linter.unusedVariables false
set_option linter.unusedSimpArgs false
open Go.RowKit
def zKF : List Value := [.int .i64 0, .int .u64 0, .int .u64 0, .int .u64 0, .slice none 0 0, .bool false, .slice none 0 0, .int .i64 0]
set_option maxRecDepth 100000 in
set_option maxHeartbeats 8000000 in
theorem kframe_zero (w : World) : Calls Tryz.prog 17 #[.agg zKF.toArray] w fun e w' => e = .returned (frV (FN.zero 0) .nil .nil) ∧ Below w.heap.size w w' := by
  have HW : Hid (∀ W', Calls Tryz.prog 18 #[.int .i64 0, .int .i64 0, .int .i64 1048576] W' fun e w' => e = .returned (.int .i64 0) ∧ W' = w') := Lib.hid (fun W' => within_any 0 0 1048576 W' (by decide) (by decide) (by decide) (by decide) (by decide))
  have HA : Hid (∀ W', Calls Tryz.prog 36 #[.int .u64 0] W' fun e w' => e = .returned (.int .u64 0) ∧ Below W'.heap.size W' w') := Lib.hid (fun W' => small_any 0 W' (by decide) (by decide))
  have HB := HA
  have HC := HA
  have hk : kindsL[0]? = some 0 := rfl
  have hBl : Below w.heap.size w ((w.alloc (.cells zKF.toArray 34)).alloc (.cells (frL (FN.zero 0) .nil .nil).toArray 51)) := ((Below.refl _ _).alloc (Nat.le_refl _) _).alloc (by simp) _
  have hX : At ((w.alloc (.cells zKF.toArray 34)).alloc (.cells (frL (FN.zero 0) .nil .nil).toArray 51)) w.heap.size 34 zKF := (At.new w _ _).alloc _
  have hR : At ((w.alloc (.cells zKF.toArray 34)).alloc (.cells (frL (FN.zero 0) .nil .nil).toArray 51)) (w.heap.size + 1) 51 (frL (FN.zero 0) .nil .nil) := At.new_ _ _ _ (by simp)
  go_enter Tryz.func17, Tryz.ntmps17
  go_wp2_with fail
  have e0 : ∃ W, (w.alloc (.cells zKF.toArray 34)).alloc (.cells (frL (FN.zero 0) .nil .nil).toArray 51) = W := ⟨_, rfl⟩
  change Calls _ _ _ ((w.alloc (.cells zKF.toArray 34)).alloc (.cells (frL (FN.zero 0) .nil .nil).toArray 51)) _
  obtain ⟨w0, hw0⟩ := e0
  rw [hw0] at hBl hX hR ⊢
  clear hw0
  refine (kinds_any _).mono ?_
  rintro e w1 ⟨rfl, rfl⟩
  have hG0 := At.new w0 3 (kindsL.map (Value.int .i64))
  have hX1 := hX.alloc (.cells (kindsL.map (Value.int .i64)).toArray 3)
  have hR1 := hR.alloc (.cells (kindsL.map (Value.int .i64)).toArray 3)
  have hB1 := hBl.alloc hBl.size (.cells (kindsL.map (Value.int .i64)).toArray 3)
  have hlt := hR.lt
  obtain ⟨gk, hgk⟩ : ∃ g, w0.heap.size = g := ⟨_, rfl⟩
  obtain ⟨w1, hw1⟩ : ∃ x, w0.alloc (.cells (kindsL.map (Value.int .i64)).toArray 3) = x := ⟨_, rfl⟩
  rw [hgk] at hG0 hlt ⊢
  rw [hw1] at hG0 hX1 hR1 hB1 ⊢
  clear hgk hw1 hX hR hBl
  have x0 : w1.cell? ⟨w.heap.size, 0, none⟩ = some (.int .i64 0) := hX1.cell 0
  have ck : w1.cell? ⟨gk, 0, none⟩ = some (.int .i64 0) := by rw [hG0.cell, List.getElem?_map, hk]; rfl
  have hltk := hG0.lt
  clear hG0
  have hBF := Lib.hid (hB1.alloc (by have := hR1.lt; omega) (.cells (frL (FN.zero 0) .nil .nil).toArray 51))
  have hXF := Lib.hid (hX1.alloc (.cells (frL (FN.zero 0) .nil .nil).toArray 51))
  have hRF := Lib.hid (hR1.alloc (.cells (frL (FN.zero 0) .nil .nil).toArray 51))
  have hFF := Lib.hid (At.new w1 51 (frL (FN.zero 0) .nil .nil))
  clear hX1 hR1 hB1 hk
  obtain ⟨gf, hgf⟩ : ∃ g, w1.heap.size = g := ⟨_, rfl⟩
  rw [hgf] at hFF hltk
  obtain ⟨w2, hw2⟩ : ∃ x, w1.alloc (.cells (frL (FN.zero 0) .nil .nil).toArray 51) = x := ⟨_, rfl⟩
  rw [hw2] at hBF hXF hRF hFF
  go_wp2_with (first | (go_at_call 18; refine (HW.out _).mono ?_; rintro e w' ⟨rfl, rfl⟩) | ((with_reducible refine at_st ?_); refine st_top w1 (frL (FN.zero 0) .nil .nil) (frL (FN.zero 0) .nil .nil) (by rfl) gf (by rfl) hgf.symm (by rfl) rfl rfl (by rfl) ?_; rw [hw2]; clear hw2 x0 ck) | fail)
  have hBx : Below w.heap.size w w2.drew := belowN hBF.out 1
  have hX := hXF.out.drew
  have hR := hRF.out.drew
  have hF := hFF.out.drew
  have x1 : w2.drew.cell? ⟨w.heap.size, 1, none⟩ = some (.int .u64 0) := hX.cell 1
  have x2 : w2.drew.cell? ⟨w.heap.size, 2, none⟩ = some (.int .u64 0) := hX.cell 2
  have x3 : w2.drew.cell? ⟨w.heap.size, 3, none⟩ = some (.int .u64 0) := hX.cell 3
  (try rw [hgf])
  clear hBF hXF hRF hFF hgf
  refine wp_region_held_drew (S := fun w' => w'.cell? ⟨w.heap.size, 1, none⟩ = some (.int .u64 0) ∧ w'.cell? ⟨w.heap.size, 2, none⟩ = some (.int .u64 0) ∧ w'.cell? ⟨w.heap.size, 3, none⟩ = some (.int .u64 0)) (by kernel_rfl) ⟨x1, x2, x3⟩ (fun hHeld => ?_)
  obtain ⟨wA, hwA⟩ : ∃ x, w2.drew = x := ⟨_, rfl⟩
  rw [hwA] at hBx hX hR hF hHeld x1 x2 x3 ⊢
  clear hwA x1 x2 x3
  refine tkp 0 (some 19) (v := ?_) rfl (Or.inl ⟨by rfl, ?_⟩) (by assumption) ?_
  rotate_left
  · intro w hSw; (try dsimp only at hSw); go_simp; first | done | (with_reducible rfl)
  simp only [Act.put, List.setIfInBounds_toArray, List.set_cons_zero, List.set_cons_succ]
  refine tkp 1 (some 20) (v := ?_) rfl (Or.inl ⟨by rfl, ?_⟩) (by assumption) ?_
  rotate_left
  · intro w hSw; (try dsimp only at hSw); go_simp; first | done | (with_reducible rfl)
  simp only [Act.put, List.setIfInBounds_toArray, List.set_cons_zero, List.set_cons_succ]
  refine tkp 3 (some 22) (v := ?_) rfl (Or.inl ⟨by rfl, ?_⟩) (by assumption) ?_
  rotate_left
  · intro w hSw; (try dsimp only at hSw); go_simp; first | done | (with_reducible rfl)
  simp only [Act.put, List.setIfInBounds_toArray, List.set_cons_zero, List.set_cons_succ]
  refine tkp 4 (some 23) (v := ?_) rfl (Or.inl ⟨by rfl, ?_⟩) (by assumption) ?_
  rotate_left
  · intro w hSw; (try dsimp only at hSw); go_simp; first | done | (with_reducible rfl)
  simp only [Act.put, List.setIfInBounds_toArray, List.set_cons_zero, List.set_cons_succ]
  refine tkp 6 (some 25) (v := ?_) rfl (Or.inl ⟨by rfl, ?_⟩) (by assumption) ?_
  rotate_left
  · intro w hSw; (try dsimp only at hSw); go_simp; first | done | (with_reducible rfl)
  simp only [Act.put, List.setIfInBounds_toArray, List.set_cons_zero, List.set_cons_succ]
  refine tkp 7 (some 26) (v := ?_) rfl (Or.inl ⟨by rfl, ?_⟩) (by assumption) ?_
  rotate_left
  · intro w hSw; (try dsimp only at hSw); go_simp; first | done | (with_reducible rfl)
  simp only [Act.put, List.setIfInBounds_toArray, List.set_cons_zero, List.set_cons_succ]
  refine wpAnyH_ready (rs := [2]) (by kernel_rfl) (by simp) ?_
  refine AllReadyH.cons rfl (fun K hK => ?_) AllReadyH.nil
  go_simp
  go_wp2_with ((go_at_call 36; refine (HA.out _).mono ?_; rintro e wB ⟨rfl, hbC⟩))
  have hXn := hX.below hbC hX.lt
  have hRn := hR.below hbC hR.lt
  have hFn := hF.below hbC hF.lt
  have hBn := hBx.trans (hbC.mono hBx.size)
  refine hK.out _ _ ⟨hXn.cell 1, hXn.cell 2, hXn.cell 3⟩ (fun hHeld => ?_)
  clear hK K hX hR hF hBx hbC
  have hX := hXn
  have hR := hRn
  have hF := hFn
  have hBx := hBn
  clear hXn hRn hFn hBn
  refine wpAnyH_ready (rs := [5]) (by kernel_rfl) (by simp) ?_
  refine AllReadyH.cons rfl (fun K hK => ?_) AllReadyH.nil
  go_simp
  go_wp2_with ((go_at_call 36; refine (HB.out _).mono ?_; rintro e wC ⟨rfl, hbC⟩))
  have hXn := hX.below hbC hX.lt
  have hRn := hR.below hbC hR.lt
  have hFn := hF.below hbC hF.lt
  have hBn := hBx.trans (hbC.mono hBx.size)
  refine hK.out _ _ ⟨hXn.cell 1, hXn.cell 2, hXn.cell 3⟩ (fun hHeld => ?_)
  clear hK K hX hR hF hBx hbC
  have hX := hXn
  have hR := hRn
  have hF := hFn
  have hBx := hBn
  clear hXn hRn hFn hBn
  refine wpAnyH_ready (rs := [8]) (by kernel_rfl) (by simp) ?_
  refine AllReadyH.cons rfl (fun K hK => ?_) AllReadyH.nil
  go_simp
  go_wp2_with ((go_at_call 36; refine (HC.out _).mono ?_; rintro e wD ⟨rfl, hbC⟩))
  have hXn := hX.below hbC hX.lt
  have hRn := hR.below hbC hR.lt
  have hFn := hF.below hbC hF.lt
  have hBn := hBx.trans (hbC.mono hBx.size)
  refine hK.out _ _ ⟨hXn.cell 1, hXn.cell 2, hXn.cell 3⟩ (fun hHeld => ?_)
  clear hK K hX hR hF hBx hbC
  have hX := hXn
  have hR := hRn
  have hF := hFn
  have hBx := hBn
  clear hXn hRn hFn hBn
  refine tkp 9 (some 5) (v := ?_) rfl (Or.inl ⟨by rfl, ?_⟩) (by assumption) ?_
  rotate_left
  · intro w hSw; (try dsimp only at hSw); go_simp; first | done | (with_reducible rfl)
  simp only [Act.put, List.setIfInBounds_toArray, List.set_cons_zero, List.set_cons_succ]
  refine tkp 10 (some 6) (v := ?_) rfl (Or.inl ⟨by rfl, ?_⟩) (by assumption) ?_
  rotate_left
  · intro w hSw; (try dsimp only at hSw); go_simp; first | done | (with_reducible rfl)
  simp only [Act.put, List.setIfInBounds_toArray, List.set_cons_zero, List.set_cons_succ]
  refine tkp 11 (some 7) (v := ?_) rfl (Or.inl ⟨by rfl, ?_⟩) (by assumption) ?_
  rotate_left
  · intro w hSw; (try dsimp only at hSw); go_simp; first | done | (with_reducible rfl)
  simp only [Act.put, List.setIfInBounds_toArray, List.set_cons_zero, List.set_cons_succ]
  refine wpAnyH_done (by kernel_rfl) ?_ _
  clear hHeld HW HA HB HC
  have k0 : wD.cell? ⟨gf, 0, none⟩ = some (.int .i64 0) := hF.cell 0
  have hgr := hR.lt
  have hFz := hF
  have hRz := hR
  have hBz := hBx
  go_wp2_with (first | ((with_reducible refine at_ld ?_); refine ld_fr _ _ (by rfl) hFz rfl ?_) | ((with_reducible refine at_st ?_); refine st_at _ _ (frL (FN.zero 0) .nil .nil) (by rfl) (by rfl) hRz rfl rfl (by rfl) ?_; intro w9 hR9 hk9) | fail)
  refine bodyPost_ret (results_cell 2 51 (by rfl) _ 51 _ _ (by rfl) hR9 Tryz.underlying51 rfl fr_info) rfl ?_
  exact ⟨rfl, hk9.below hBz (by omega) (fun j hj => by omega)⟩
end
section
set_option linter.unusedVariables false
set_option linter.unusedSimpArgs false
open Go.RowKit Go.ChangeShapes Go.WideShapes Go.Deep
/-- A call: its numbers, its bytes; T: the cells of its frame that is drawn. -/
structure AskD where
  k : Int
  room : Int
  i : Int
  n : Nat
  A : Option Addr
  m : Nat
  c : Nat
  bs : List Int
  T : List Value
def I64 (x : Int) : Prop := -9223372036854775808 ≤ x ∧ x < 9223372036854775808
structure AskD.wf (d : AskD) : Prop where
  k : I64 d.k
  room : I64 d.room
  i : I64 d.i
  n : d.n < 18446744073709551616
  lc : d.m ≤ d.c
  cm : d.c ≤ maxLen
  nil : d.A = none → d.c = 0
  tl : d.T.length = 8
  t1 : d.T.all (·.oneCell') = true
def AskD.l (d : AskD) : List Value := [.int .i64 d.k, .int .i64 d.room, .int .i64 d.i, .int .u64 d.n, .slice d.A d.m d.c] ++ d.T
theorem AskD.wf.len {d : AskD} (h : d.wf) : d.l.length = 13 := by
  unfold AskD.l
  rw [List.length_append, h.tl]
  rfl
theorem AskD.wf.one {d : AskD} (h : d.wf) : d.l.all (·.oneCell') = true := by
  unfold AskD.l
  rw [List.all_append, h.t1]
  rfl
/-- A call stands at place o of block b; its bytes lie below block B. -/
structure AskAt (w : World) (B b o : Nat) (d : AskD) : Prop where
  at_ : w.rangeAt b o d.l
  rd : Rd w B d.A d.m d.bs
  wf : d.wf
theorem AskAt.below {w w' : World} {B b o : Nat} {d : AskD} (h : AskAt w B b o d) (hb : Below B w w') (hlt : b < B) : AskAt w' B b o d :=
  { h with
    at_ := fun j v hv => (hb.cell (p := ⟨b, _, none⟩) hlt).trans (h.at_ j v hv)
    rd := h.rd.below hb }
/-- A row of calls, all of it below block B. -/
def Asks (w : World) (B : Nat) (A : Option Addr) (n c : Nat) (L : List AskD) : Prop :=
  L.length = n ∧ n ≤ c ∧ c ≤ maxLen ∧ (A = none → c = 0) ∧ (0 < n → ∃ b off, A = some ⟨b, off, none⟩ ∧ b < B ∧ ∀ i d, L[i]? = some d → AskAt w B b (off + i * 13) d)
theorem Asks.below {w w' : World} {B : Nat} {A : Option Addr} {n c : Nat} {L : List AskD} (h : Asks w B A n c L) (hb : Below B w w') : Asks w' B A n c L :=
  ⟨h.1, h.2.1, h.2.2.1, h.2.2.2.1, fun hn => by
    obtain ⟨b, off, e, hlt, hc⟩ := h.2.2.2.2 hn
    exact ⟨b, off, e, hlt, fun i d hd => (hc i d hd).below hb hlt⟩⟩
section
variable {H : Type} {enc : TypeId × Value → H} {w : World}
end
section
variable {ops : Array Oper} {rest : List Oper} {a : Act} {w : World} {Q : Exit → Act → World → Prop} {dst : Option Tmp} {x y : Operand} {t : TypeId} {pos : String} {after : Array Edge}
end
end
section
set_option linter.unusedVariables false
set_option linter.unusedSimpArgs false
open Go.RowKit
theorem ecut_any (A : Option Addr) (n c m : Nat) (w : World) (hnc : n ≤ c) (hcm : c ≤ maxLen) (hm : m ≤ 1000000) (hA : A = none → c = 0) :
    Calls Tryz.prog 9 #[.slice A n c, .int .i64 m] w fun e w' => e = .returned (.slice A (min n m) c) ∧ w' = w := by
  have hcm' : c ≤ 9223372036854775807 := by unfold maxLen at hcm; omega
  by_cases h : m < n
  · have hz : (m : Int) < (n : Int) := by omega
    have hmc : (m : Int) ≤ (c : Int) := by omega
    rw [show min n m = m by omega]
    cases A with
    | none => have := hA rfl; omega
    | some ad =>
      clear hA
      go_enter Tryz.func9, Tryz.ntmps9
      go_wp2
      go_ret
      exact ⟨rfl, rfl⟩
  · have hz : ¬ (m : Int) < (n : Int) := by omega
    rw [show min n m = n by omega]
    clear hA
    go_enter Tryz.func9, Tryz.ntmps9
    go_wp2
    go_ret
    exact ⟨rfl, rfl⟩
/-- A call: its seven fields, its bytes. -/
structure AskE where
  k : Int
  most : Int
  n : Int
  off : Nat
  lim : Nat
  fin : Bool
  A : Option Addr
  m : Nat
  c : Nat
  bs : List Int
structure AskE.wf (d : AskE) : Prop where
  most : -9223372036854775808 ≤ d.most ∧ d.most < 4611686018427387904
  n : -9223372036854775808 ≤ d.n ∧ d.n < 9223372036854775808
  off : d.off < 18446744073709551616
  lim : d.lim < 18446744073709551616
  lc : d.m ≤ d.c
  cm : d.c ≤ maxLen
  nil : d.A = none → d.c = 0
theorem Rs.rg {w : World} {base q o : Nat} {T : TypeId} {L : List Value} {O : Nat → Prop} {S : OS} (h : Rs w base q o T L O S) : ∀ x, rgO q o L x → O x := by
  obtain ⟨vb, va, vg, C, A, rfl, hr, _⟩ := h
  rintro x (rfl | ⟨v, hv, hx⟩)
  · exact rqO_at (i := 0) rfl
  · have := hr.cl 2 _ rfl
    rw [hv] at this
    injection this with this
    subst this
    exact rqO_at (i := 3) (congrArg some hx)
end
end Go.Proofs.YtbejpafephofaaaGreat
