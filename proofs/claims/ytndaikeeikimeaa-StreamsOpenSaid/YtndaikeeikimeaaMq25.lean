/-
  streams.Set: Allow.
-/
import Derived.Test.YtndaikeeikimeaaMq24
import Derived.Test.YtndaikeeikimeaaMq22
import Derived.Test.YtndaikeeikimeaaMq9
namespace Go.Proofs.Ytndaikeeikimeaa
section
set_option linter.unusedVariables false
set_option linter.unusedSimpArgs false
open Go.RowKit
def limF (n : Nat) (T : TS) : TS := { T with o := { T.o with lim := max T.o.lim n } }
theorem limF_lim (n : Nat) (T : TS) : limF n (limF n T) = limF n T := by
  unfold limF
  simp only
  rw [Nat.max_assoc, Nat.max_self]
def alwX (X : XS) (md msd ms : Nat) : XS := { X with allowed := max X.allowed md, tsd := max X.tsd msd, tms := max X.tms (min ms 8) }
section
variable {w0 W W' : World} {s x : Nat} {v0 v1 v : Value} {E0 E1 L : List En} {X : XS} {O : Nat → Prop} {T : TS}
theorem setL_al (X : XS) (v0 v1 : Value) (a : Nat) : (setL X v0 v1).set 29 (.int .u64 a) = setL { X with allowed := a } v0 v1 := rfl
theorem setL_ts (X : XS) (v0 v1 : Value) (a : Nat) : (setL X v0 v1).set 15 (.int .u64 a) = setL { X with tsd := a } v0 v1 := rfl
theorem setL_tm (X : XS) (v0 v1 : Value) (a : Nat) : (setL X v0 v1).set 16 (.int .u64 a) = setL { X with tms := a } v0 v1 := rfl
theorem Tt.put (h : Tt w0 W s v0 v1 E0 E1 X) {j : Nat} {u : Value} {X' : XS} (e : (setL X v0 v1).set j u = setL X' v0 v1) : Tt w0 (W.setCell ⟨s, j, none⟩ u) s v0 v1 E0 E1 X' :=
  h.top ((Kept.refl _ W).setAt j u) (by rw [← e]; exact h.at_.set j u)
theorem lim_post {q p B : Nat} {Oq Op : Nat → Prop} {va vc : Value} {e : Ending} (h : Sq w0 W x q p Oq Op va vc T) (hP : SxPost (.tuple #[]) w0 q Oq { T.o with lim := max T.o.lim B } W e W') : StPost w0 x (sqO x Oq Op va vc) (limF B T) W W' := by
  obtain ⟨_, Oq', hs6, hk6, ho6⟩ := hP
  refine ⟨_, ⟨q, p, _, _, _, _, rfl, h.sender hs6 hk6 ho6⟩, hk6.mono fun j hj => .inl (.inr (.inl hj)), ?_⟩
  rintro j (rfl | hj | hj | hj | hj)
  · exact .inl (.inl rfl)
  · exact (ho6 j hj).imp (fun e => .inr (.inl e)) id
  · exact .inl (.inr (.inr (.inl hj)))
  · exact .inl (.inr (.inr (.inr (.inl hj))))
  · exact .inl (.inr (.inr (.inr (.inr hj))))
set_option maxRecDepth 100000 in
set_option maxHeartbeats 8000000 in
theorem allow_any (h : Tt w0 W s v0 v1 E0 E1 X) (h0 : E0.length ≤ 100000) (h1 : E1.length ≤ 100000) (md msd ms : Nat) (hmd : md < 18446744073709551616) (hmsd : msd < 18446744073709551616) (hms : ms < 18446744073709551616)
    (ha : X.allowed < 18446744073709551616) (ht : X.tsd < 18446744073709551616) (hm : X.tms < 18446744073709551616) :
    Calls Try.prog 6 #[.pointer (some ⟨s, 0, none⟩), .agg (prL md msd ms).toArray] W fun e w' => e = .returned (.tuple #[]) ∧ ∃ F0 F1, Tt w0 w' s v0 v1 F0 F1 (alwX X md msd ms) ∧ F0.length = E0.length ∧ F1.length = E1.length ∧ Kept (SO s v0 v1 E0 E1) W w' ∧ ∀ b, SO s v0 v1 F0 F1 b → SO s v0 v1 E0 E1 b ∨ W.heap.size ≤ b := by
  obtain ⟨A, hA⟩ : ∃ a, max X.allowed md = a := ⟨_, rfl⟩
  obtain ⟨B, hB⟩ : ∃ a, max X.tsd msd = a := ⟨_, rfl⟩
  obtain ⟨M, hM⟩ : ∃ a, min ms 8 = a := ⟨_, rfl⟩
  obtain ⟨C, hC⟩ : ∃ a, max X.tms M = a := ⟨_, rfl⟩
  obtain ⟨al, hal⟩ : ∃ a, X.allowed = a := ⟨_, rfl⟩
  obtain ⟨ts, hts⟩ : ∃ a, X.tsd = a := ⟨_, rfl⟩
  obtain ⟨tm, htm⟩ : ∃ a, X.tms = a := ⟨_, rfl⟩
  rw [hal] at hA
  rw [hts] at hB
  rw [htm] at hC
  have hT0 := h
  unfold prL
  go_enter Try.func6, Try.ntmps6
  go_upto_region 1 with fail
  have hB1 : Below W.heap.size W (W.alloc (.cells #[.int .u64 0, .int .u64 md, .int .u64 msd, .int .u64 ms, .int .u8 0, .int .u8 0, .int .u8 0, .int .u8 0, .int .u8 0, .int .u8 0, .int .u8 0, .int .u8 0] 26)) := (Below.refl _ _).alloc (Nat.le_refl _) _
  have hA1 := At.new W 26 [.int .u64 0, .int .u64 md, .int .u64 msd, .int .u64 ms, .int .u8 0, .int .u8 0, .int .u8 0, .int .u8 0, .int .u8 0, .int .u8 0, .int .u8 0, .int .u8 0]
  generalize W.alloc (.cells #[.int .u64 0, .int .u64 md, .int .u64 msd, .int .u64 ms, .int .u8 0, .int .u8 0, .int .u8 0, .int .u8 0, .int .u8 0, .int .u8 0, .int .u8 0, .int .u8 0] 26) = w1 at hB1 hA1 ⊢
  have hK1 : Kept (fun j => j = s) W w1 := Kept.of_below hB1 _
  generalize hpb : W.heap.size = pb at hA1 ⊢
  have hT1 := h.below hB1
  have hne : s ≠ pb := by have := h.at_.lt; omega
  have hP1 := hA1
  clear hA1
  obtain ⟨Y1, hY⟩ : ∃ z, w1.drew = z := ⟨_, rfl⟩
  have kY1 : Below w1.heap.size w1 Y1 := by rw [← hY]; exact belowN (Below.refl _ _) 1
  have hTY1 := hT1.below kY1
  have hPY1 : At Y1 pb 26 [.int .u64 0, .int .u64 md, .int .u64 msd, .int .u64 ms, .int .u8 0, .int .u8 0, .int .u8 0, .int .u8 0, .int .u8 0, .int .u8 0, .int .u8 0, .int .u8 0] := hP1.below kY1 hP1.lt
  have hHeld : Y1.cell? ⟨s, 29, none⟩ = some (.int .u64 al) ∧ Y1.cell? ⟨pb, 1, none⟩ = some (.int .u64 md) := ⟨(by first | exact hTY1.c29 | (rw [← hal]; exact hTY1.c29)), by rw [hPY1.cell]; rfl⟩
  have f29 := hTY1.at_.frozen 29
  refine wp_region_tail (S := (fun W => W.cell? ⟨s, 29, none⟩ = some (.int .u64 al) ∧ W.cell? ⟨pb, 1, none⟩ = some (.int .u64 md))) (D := 10) (by kernel_rfl) ?_
  rw [hY]
  clear hY
  refine tail_pure 0 (some 6) (v := ?_) rfl (Or.inl ⟨by rfl, ?_⟩) (fun _ => hHeld) ?_
  rotate_left
  · intro w hSw; (try dsimp only at hSw); go_simp; first | done | (with_reducible rfl)
  simp only [Act.put, List.setIfInBounds_toArray, List.set_cons_zero, List.set_cons_succ]
  refine tail_pure 1 (some 7) (v := ?_) rfl (Or.inl ⟨by rfl, ?_⟩) (fun _ => hHeld) ?_
  rotate_left
  · intro w hSw; (try dsimp only at hSw); go_simp; first | done | (with_reducible rfl)
  simp only [Act.put, List.setIfInBounds_toArray, List.set_cons_zero, List.set_cons_succ]
  refine tail_pure 2 (some 8) (v := ?_) rfl (Or.inl ⟨by rfl, ?_⟩) (fun _ => hHeld) ?_
  rotate_left
  · intro w hSw; (try dsimp only at hSw); go_simp; first | done | (with_reducible rfl)
  simp only [Act.put, List.setIfInBounds_toArray, List.set_cons_zero, List.set_cons_succ]
  refine tail_pure 3 (some 9) (v := ?_) rfl (Or.inl ⟨by rfl, ?_⟩) (fun _ => hHeld) ?_
  rotate_left
  · intro w hSw; (try dsimp only at hSw); go_simp; first | done | (with_reducible rfl)
  simp only [Act.put, List.setIfInBounds_toArray, List.set_cons_zero, List.set_cons_succ]
  refine tail_load 4 (some 10) [7, 10] (v := ?_) rfl (Or.inl ⟨by rfl, ?_⟩) hHeld ?_
  rotate_left
  · intro w hSw; (try dsimp only at hSw); go_simp; first | done | (with_reducible rfl)
  simp only [Act.put, List.setIfInBounds_toArray, List.set_cons_zero, List.set_cons_succ]
  refine tail_pure 5 (some 11) (v := ?_) rfl (Or.inl ⟨by rfl, ?_⟩) (fun _ => hHeld) ?_
  rotate_left
  · intro w hSw; (try dsimp only at hSw); go_simp; first | done | (with_reducible rfl)
  simp only [Act.put, List.setIfInBounds_toArray, List.set_cons_zero, List.set_cons_succ]
  refine tail_load 6 (some 12) [7, 10] (v := ?_) rfl (Or.inl ⟨by rfl, ?_⟩) hHeld ?_
  rotate_left
  · intro w hSw; (try dsimp only at hSw); go_simp; first | done | (with_reducible rfl)
  simp only [Act.put, List.setIfInBounds_toArray, List.set_cons_zero, List.set_cons_succ]
  refine tail_pure 7 (some 13) (v := .int .u64 (A : Int)) rfl (Or.inl ⟨by rfl, ?_⟩) (fun _ => hHeld) ?_
  · intro w hSw; go_simp; (first | done | (split <;> omega))
  simp only [Act.put, List.setIfInBounds_toArray, List.set_cons_zero, List.set_cons_succ]
  refine tail_pure 8 (some 14) (v := ?_) rfl (Or.inl ⟨by rfl, ?_⟩) (fun _ => hHeld) ?_
  rotate_left
  · intro w hSw; (try dsimp only at hSw); go_simp; first | done | (with_reducible rfl)
  simp only [Act.put, List.setIfInBounds_toArray, List.set_cons_zero, List.set_cons_succ]
  refine tail_pure 9 (some 15) (v := ?_) rfl (Or.inl ⟨by rfl, ?_⟩) (fun _ => hHeld) ?_
  rotate_left
  · intro w hSw; (try dsimp only at hSw); go_simp; first | done | (with_reducible rfl)
  simp only [Act.put, List.setIfInBounds_toArray, List.set_cons_zero, List.set_cons_succ]
  refine wpTail.ready (rs := [10]) (by kernel_rfl) (by simp) ?_
  refine AllTail.late rfl (by kernel_rfl) (fun K hK => ?_) AllTail.nil
  have q1 := hHeld.1
  have q2 := hHeld.2
  go_simp
  go_wp2_with (fail)
  refine hK.out _ _ ?_
  clear hK K
  refine wpTail.done (by kernel_rfl) ?_ _
  have hT2 := hTY1.put (setL_al _ v0 v1 A)
  have hP2 := hPY1.set_other (q := ⟨s, 29, none⟩) (show s ≠ pb from hne) (.int .u64 A)
  have hK2 := (hK1.trans' (Kept.of_below kY1 fun _ => False) (fun _ e => e.elim)).setCell (p := ⟨s, 29, none⟩) (.inl rfl) (.int .u64 A)
  clear hK1
  obtain ⟨w2, hw2⟩ : ∃ z, Y1.setCell ⟨s, 29, none⟩ (.int .u64 A) = z := ⟨_, rfl⟩
  rw [hw2] at hT2 hP2 hK2 ⊢
  clear hw2 hHeld hTY1 hPY1 kY1 f29
  go_upto_region 2 with fail
  obtain ⟨Y2, hY⟩ : ∃ z, w2.drew = z := ⟨_, rfl⟩
  have kY2 : Below w2.heap.size w2 Y2 := by rw [← hY]; exact belowN (Below.refl _ _) 1
  have hTY2 := hT2.below kY2
  have hPY2 : At Y2 pb 26 [.int .u64 0, .int .u64 md, .int .u64 msd, .int .u64 ms, .int .u8 0, .int .u8 0, .int .u8 0, .int .u8 0, .int .u8 0, .int .u8 0, .int .u8 0, .int .u8 0] := hP2.below kY2 hP2.lt
  have hHeld : Y2.cell? ⟨s, 15, none⟩ = some (.int .u64 ts) ∧ Y2.cell? ⟨pb, 2, none⟩ = some (.int .u64 msd) := ⟨(by first | exact hTY2.c15 | (rw [← hts]; exact hTY2.c15)), by rw [hPY2.cell]; rfl⟩
  have f15 := hTY2.at_.frozen 15
  refine wp_region_tail (S := (fun W => W.cell? ⟨s, 15, none⟩ = some (.int .u64 ts) ∧ W.cell? ⟨pb, 2, none⟩ = some (.int .u64 msd))) (D := 12) (by kernel_rfl) ?_
  rw [hY]
  clear hY
  refine tail_pure 0 (some 16) (v := ?_) rfl (Or.inl ⟨by rfl, ?_⟩) (fun _ => hHeld) ?_
  rotate_left
  · intro w hSw; (try dsimp only at hSw); go_simp; first | done | (with_reducible rfl)
  simp only [Act.put, List.setIfInBounds_toArray, List.set_cons_zero, List.set_cons_succ]
  refine tail_pure 1 (some 17) (v := ?_) rfl (Or.inl ⟨by rfl, ?_⟩) (fun _ => hHeld) ?_
  rotate_left
  · intro w hSw; (try dsimp only at hSw); go_simp; first | done | (with_reducible rfl)
  simp only [Act.put, List.setIfInBounds_toArray, List.set_cons_zero, List.set_cons_succ]
  refine tail_pure 2 (some 18) (v := ?_) rfl (Or.inl ⟨by rfl, ?_⟩) (fun _ => hHeld) ?_
  rotate_left
  · intro w hSw; (try dsimp only at hSw); go_simp; first | done | (with_reducible rfl)
  simp only [Act.put, List.setIfInBounds_toArray, List.set_cons_zero, List.set_cons_succ]
  refine tail_pure 3 (some 19) (v := ?_) rfl (Or.inl ⟨by rfl, ?_⟩) (fun _ => hHeld) ?_
  rotate_left
  · intro w hSw; (try dsimp only at hSw); go_simp; first | done | (with_reducible rfl)
  simp only [Act.put, List.setIfInBounds_toArray, List.set_cons_zero, List.set_cons_succ]
  refine tail_pure 4 (some 20) (v := ?_) rfl (Or.inl ⟨by rfl, ?_⟩) (fun _ => hHeld) ?_
  rotate_left
  · intro w hSw; (try dsimp only at hSw); go_simp; first | done | (with_reducible rfl)
  simp only [Act.put, List.setIfInBounds_toArray, List.set_cons_zero, List.set_cons_succ]
  refine tail_load 5 (some 21) [8, 12] (v := ?_) rfl (Or.inl ⟨by rfl, ?_⟩) hHeld ?_
  rotate_left
  · intro w hSw; (try dsimp only at hSw); go_simp; first | done | (with_reducible rfl)
  simp only [Act.put, List.setIfInBounds_toArray, List.set_cons_zero, List.set_cons_succ]
  refine tail_pure 6 (some 22) (v := ?_) rfl (Or.inl ⟨by rfl, ?_⟩) (fun _ => hHeld) ?_
  rotate_left
  · intro w hSw; (try dsimp only at hSw); go_simp; first | done | (with_reducible rfl)
  simp only [Act.put, List.setIfInBounds_toArray, List.set_cons_zero, List.set_cons_succ]
  refine tail_load 7 (some 23) [8, 12] (v := ?_) rfl (Or.inl ⟨by rfl, ?_⟩) hHeld ?_
  rotate_left
  · intro w hSw; (try dsimp only at hSw); go_simp; first | done | (with_reducible rfl)
  simp only [Act.put, List.setIfInBounds_toArray, List.set_cons_zero, List.set_cons_succ]
  refine tail_pure 8 (some 24) (v := .int .u64 (B : Int)) rfl (Or.inl ⟨by rfl, ?_⟩) (fun _ => hHeld) ?_
  · intro w hSw; go_simp; (first | done | (split <;> omega))
  simp only [Act.put, List.setIfInBounds_toArray, List.set_cons_zero, List.set_cons_succ]
  refine tail_pure 9 (some 25) (v := ?_) rfl (Or.inl ⟨by rfl, ?_⟩) (fun _ => hHeld) ?_
  rotate_left
  · intro w hSw; (try dsimp only at hSw); go_simp; first | done | (with_reducible rfl)
  simp only [Act.put, List.setIfInBounds_toArray, List.set_cons_zero, List.set_cons_succ]
  refine tail_pure 10 (some 26) (v := ?_) rfl (Or.inl ⟨by rfl, ?_⟩) (fun _ => hHeld) ?_
  rotate_left
  · intro w hSw; (try dsimp only at hSw); go_simp; first | done | (with_reducible rfl)
  simp only [Act.put, List.setIfInBounds_toArray, List.set_cons_zero, List.set_cons_succ]
  refine tail_pure 11 (some 27) (v := ?_) rfl (Or.inl ⟨by rfl, ?_⟩) (fun _ => hHeld) ?_
  rotate_left
  · intro w hSw; (try dsimp only at hSw); go_simp; first | done | (with_reducible rfl)
  simp only [Act.put, List.setIfInBounds_toArray, List.set_cons_zero, List.set_cons_succ]
  refine wpTail.ready (rs := [12]) (by kernel_rfl) (by simp) ?_
  refine AllTail.late rfl (by kernel_rfl) (fun K hK => ?_) AllTail.nil
  have q1 := hHeld.1
  have q2 := hHeld.2
  go_simp
  go_wp2_with (fail)
  refine hK.out _ _ ?_
  clear hK K
  refine wpTail.done (by kernel_rfl) ?_ _
  have hT3 := hTY2.put (setL_ts _ v0 v1 B)
  have hP3 := hPY2.set_other (q := ⟨s, 15, none⟩) (show s ≠ pb from hne) (.int .u64 B)
  have hK3 := (hK2.trans' (Kept.of_below kY2 fun _ => False) (fun _ e => e.elim)).setCell (p := ⟨s, 15, none⟩) (.inl rfl) (.int .u64 B)
  clear hK2
  obtain ⟨w3, hw3⟩ : ∃ z, Y2.setCell ⟨s, 15, none⟩ (.int .u64 B) = z := ⟨_, rfl⟩
  rw [hw3] at hT3 hP3 hK3 ⊢
  clear hw3 hHeld hTY2 hPY2 kY2 f15
  go_upto_region 3 with fail
  obtain ⟨Y3, hY⟩ : ∃ z, w3.drew = z := ⟨_, rfl⟩
  have kY3 : Below w3.heap.size w3 Y3 := by rw [← hY]; exact belowN (Below.refl _ _) 1
  have hTY3 := hT3.below kY3
  have hPY3 : At Y3 pb 26 [.int .u64 0, .int .u64 md, .int .u64 msd, .int .u64 ms, .int .u8 0, .int .u8 0, .int .u8 0, .int .u8 0, .int .u8 0, .int .u8 0, .int .u8 0, .int .u8 0] := hP3.below kY3 hP3.lt
  have hHeld : Y3.cell? ⟨s, 16, none⟩ = some (.int .u64 tm) ∧ Y3.cell? ⟨pb, 3, none⟩ = some (.int .u64 ms) := ⟨(by first | exact hTY3.c16 | (rw [← htm]; exact hTY3.c16)), by rw [hPY3.cell]; rfl⟩
  have f16 := hTY3.at_.frozen 16
  refine wp_region_tail (S := (fun W => W.cell? ⟨s, 16, none⟩ = some (.int .u64 tm) ∧ W.cell? ⟨pb, 3, none⟩ = some (.int .u64 ms))) (D := 13) (by kernel_rfl) ?_
  rw [hY]
  clear hY
  refine tail_pure 0 (some 28) (v := ?_) rfl (Or.inl ⟨by rfl, ?_⟩) (fun _ => hHeld) ?_
  rotate_left
  · intro w hSw; (try dsimp only at hSw); go_simp; first | done | (with_reducible rfl)
  simp only [Act.put, List.setIfInBounds_toArray, List.set_cons_zero, List.set_cons_succ]
  refine tail_pure 1 (some 29) (v := ?_) rfl (Or.inl ⟨by rfl, ?_⟩) (fun _ => hHeld) ?_
  rotate_left
  · intro w hSw; (try dsimp only at hSw); go_simp; first | done | (with_reducible rfl)
  simp only [Act.put, List.setIfInBounds_toArray, List.set_cons_zero, List.set_cons_succ]
  refine tail_pure 2 (some 30) (v := ?_) rfl (Or.inl ⟨by rfl, ?_⟩) (fun _ => hHeld) ?_
  rotate_left
  · intro w hSw; (try dsimp only at hSw); go_simp; first | done | (with_reducible rfl)
  simp only [Act.put, List.setIfInBounds_toArray, List.set_cons_zero, List.set_cons_succ]
  refine tail_pure 3 (some 31) (v := ?_) rfl (Or.inl ⟨by rfl, ?_⟩) (fun _ => hHeld) ?_
  rotate_left
  · intro w hSw; (try dsimp only at hSw); go_simp; first | done | (with_reducible rfl)
  simp only [Act.put, List.setIfInBounds_toArray, List.set_cons_zero, List.set_cons_succ]
  refine tail_pure 4 (some 32) (v := ?_) rfl (Or.inl ⟨by rfl, ?_⟩) (fun _ => hHeld) ?_
  rotate_left
  · intro w hSw; (try dsimp only at hSw); go_simp; first | done | (with_reducible rfl)
  simp only [Act.put, List.setIfInBounds_toArray, List.set_cons_zero, List.set_cons_succ]
  refine tail_load 5 (some 33) [9, 13] (v := ?_) rfl (Or.inl ⟨by rfl, ?_⟩) hHeld ?_
  rotate_left
  · intro w hSw; (try dsimp only at hSw); go_simp; first | done | (with_reducible rfl)
  simp only [Act.put, List.setIfInBounds_toArray, List.set_cons_zero, List.set_cons_succ]
  refine tail_pure 6 (some 34) (v := ?_) rfl (Or.inl ⟨by rfl, ?_⟩) (fun _ => hHeld) ?_
  rotate_left
  · intro w hSw; (try dsimp only at hSw); go_simp; first | done | (with_reducible rfl)
  simp only [Act.put, List.setIfInBounds_toArray, List.set_cons_zero, List.set_cons_succ]
  refine tail_load 7 (some 35) [8, 9, 13] (v := ?_) rfl (Or.inl ⟨by rfl, ?_⟩) hHeld ?_
  rotate_left
  · intro w hSw; (try dsimp only at hSw); go_simp; first | done | (with_reducible rfl)
  simp only [Act.put, List.setIfInBounds_toArray, List.set_cons_zero, List.set_cons_succ]
  refine tail_pure 8 (some 36) (v := .int .u64 (M : Int)) rfl (Or.inl ⟨by rfl, ?_⟩) (fun _ => hHeld) ?_
  · intro w hSw; go_simp; (first | done | (split <;> omega))
  simp only [Act.put, List.setIfInBounds_toArray, List.set_cons_zero, List.set_cons_succ]
  refine tail_pure 9 (some 37) (v := .int .u64 (C : Int)) rfl (Or.inl ⟨by rfl, ?_⟩) (fun _ => hHeld) ?_
  · intro w hSw; go_simp; (first | done | (split <;> omega))
  simp only [Act.put, List.setIfInBounds_toArray, List.set_cons_zero, List.set_cons_succ]
  refine tail_pure 10 (some 38) (v := ?_) rfl (Or.inl ⟨by rfl, ?_⟩) (fun _ => hHeld) ?_
  rotate_left
  · intro w hSw; (try dsimp only at hSw); go_simp; first | done | (with_reducible rfl)
  simp only [Act.put, List.setIfInBounds_toArray, List.set_cons_zero, List.set_cons_succ]
  refine tail_pure 11 (some 39) (v := ?_) rfl (Or.inl ⟨by rfl, ?_⟩) (fun _ => hHeld) ?_
  rotate_left
  · intro w hSw; (try dsimp only at hSw); go_simp; first | done | (with_reducible rfl)
  simp only [Act.put, List.setIfInBounds_toArray, List.set_cons_zero, List.set_cons_succ]
  refine tail_pure 12 (some 40) (v := ?_) rfl (Or.inl ⟨by rfl, ?_⟩) (fun _ => hHeld) ?_
  rotate_left
  · intro w hSw; (try dsimp only at hSw); go_simp; first | done | (with_reducible rfl)
  simp only [Act.put, List.setIfInBounds_toArray, List.set_cons_zero, List.set_cons_succ]
  refine wpTail.ready (rs := [13]) (by kernel_rfl) (by simp) ?_
  refine AllTail.late rfl (by kernel_rfl) (fun K hK => ?_) AllTail.nil
  have q1 := hHeld.1
  have q2 := hHeld.2
  go_simp
  go_wp2_with (fail)
  refine hK.out _ _ ?_
  clear hK K
  refine wpTail.done (by kernel_rfl) ?_ _
  have hT4 := hTY3.put (setL_tm _ v0 v1 C)
  have hP4 := hPY3.set_other (q := ⟨s, 16, none⟩) (show s ≠ pb from hne) (.int .u64 C)
  have hK4 := (hK3.trans' (Kept.of_below kY3 fun _ => False) (fun _ e => e.elim)).setCell (p := ⟨s, 16, none⟩) (.inl rfl) (.int .u64 C)
  clear hK3
  obtain ⟨w4, hw4⟩ : ∃ z, Y3.setCell ⟨s, 16, none⟩ (.int .u64 C) = z := ⟨_, rfl⟩
  rw [hw4] at hT4 hP4 hK4 ⊢
  clear hw4 hHeld hTY3 hPY3 kY3 f16
  have HX : Hid (alwX X md msd ms = { X with allowed := A, tsd := B, tms := C }) := Lib.hid (by unfold alwX; rw [hal, hts, htm, hA, hB, hM, hC])
  clear hP4
  have HK4 := Lib.hid hK4
  clear hK4
  obtain ⟨X4, hX4⟩ : ∃ z, ({ X with allowed := A, tsd := B, tms := C } : XS) = z := ⟨_, rfl⟩
  have hT5 : Tt w0 w4 s v0 v1 E0 E1 X4 := hX4 ▸ hT4
  have HB4 : Hid (X4.tsd = B) := Lib.hid (by rw [← hX4])
  have HX4 : Hid (alwX X md msd ms = X4) := Lib.hid (HX.out.trans hX4)
  clear HX hX4 hT4
  have HBB : Hid (B < 18446744073709551616) := Lib.hid (by omega)
  have HRI := Lib.hid (rising_any hT5 h0 h1)
  have HT4 := Lib.hid hT5
  clear hT5
  obtain ⟨n, hn⟩ : ∃ n, (rise E0 E1).length = n := ⟨_, rfl⟩
  go_upto_region 5 with (first
    | (go_at_call 18; (with_reducible refine HRI.out.mono ?_); rintro e w5 ⟨vl, rfl, hr⟩; obtain ⟨Ar, c, rfl, hnc, hcm, _⟩ := pw_open hr.row; rw [hn] at hr hnc ⊢; have HT5 := Lib.hid (HT4.out.below hr.bl); have HB45 := Lib.hid hr.bl; have HRW := Lib.hid (ow_lt hr.row); have HTN : Hid (Tn (limF B) w0 w5 w5 s v0 v1 E0 E1 X4 0 E0 E1 ∧ Pw w5 w4.heap.size (.slice Ar n c) (rise E0 E1)) := Lib.hid ⟨Tn.start HT5.out, hr.row⟩; clear hr)
    | fail)
  clear HRI
  unfold maxLen at hcm
  go_loopg [44] n (fun kx s44 wr => ∃ (i : Nat) (F0 F1 : List En), s44 = .int .i64 i ∧ i ≤ n ∧ n - i ≤ kx ∧ Hid (Tn (limF B) w0 w5 wr s v0 v1 E0 E1 X4 i F0 F1 ∧ Pw wr w4.heap.size (.slice Ar n c) (rise E0 E1)))
  case atStart => exact ⟨0, E0, E1, rfl, by omega, by omega, HTN⟩
  case round =>
    clear HTN
    obtain ⟨i, F0, F1, rfl, hin, hkx, HI⟩ := hrel
    by_cases hgo : i < n
    · have hkz : (i : Int) < (n : Int) := by omega
      obtain ⟨e, he⟩ : ∃ e, (rise E0 E1)[i]? = some e := ⟨_, List.getElem?_eq_getElem (by omega)⟩
      obtain ⟨g, rfl, hc⟩ := pw_at HI.out.2 he
      have ep : e.p = .pointer (some ⟨e.x, 0, none⟩) := rfl
      rw [ep] at hc
      obtain ⟨m, e', hm1, hm2, hxx, q, p, Oq, Op, va, vc, hO, hsq⟩ := HI.out.1.next he
      have d1 := hsq.c1
      have d15 := HI.out.1.tt.c15
      rw [HB4.out] at d15
      have HSQ := Lib.hid hsq
      have HM := Lib.hid (And.intro he (And.intro hm1 (And.intro hm2 (And.intro hxx hO))))
      clear he ep hsq hm1 hm2 hxx hO
      go_upto_region 7 with fail
      go_still_tail 9, (by kernel_rfl)
      change wpList _ _ _ _ _ (World.drewN wr 1)
      have k6 : Below wr.heap.size wr (wr.drewN 1) := belowN (Below.refl _ _) 1
      have HSQ6 := Lib.hid (HSQ.out.kept (Kept.of_below k6 fun _ => False) (fun _ _ h => h) (fun _ h => h.elim))
      have HI6 := Lib.hid (And.intro (HI.out.1.below k6) (ow_kept HI.out.2 (Kept.of_below k6 fun _ => False) fun _ _ h => h))
      clear k6
      generalize wr.drewN 1 = w6 at HSQ6 HI6 ⊢
      have HL6 := Lib.hid (sx_call HSQ6.out.so fun p hp => sm_limit hp B HBB.out)
      go_wp2_with (first
        | (go_at_call 19; (with_reducible refine HL6.out.mono ?_); intro e9 w7 hP; have HP7 := Lib.hid (lim_post HSQ6.out hP); obtain ⟨he9, _⟩ := hP; subst he9)
        | fail)
      have HN7 : Hid (∃ G0 G1, Tn (limF B) w0 w5 w7 s v0 v1 E0 E1 X4 (i + 1) G0 G1 ∧ Pw w7 w4.heap.size (.slice (some ⟨g, 0, none⟩) n c) (rise E0 E1)) := Lib.hid (by
        have hP := HP7.out
        obtain ⟨z1, z2, z3, z4, z5⟩ := HM.out
        rw [← z5, ← z4] at hP
        obtain ⟨G0, G1, hG⟩ := HI6.out.1.step HT5.out (limF_lim B) (fun _ => rfl) z1 z2 z3 hP
        obtain ⟨O9, _, hk9, _⟩ := hP
        refine ⟨G0, G1, hG, ow_kept HI6.out.2 hk9 fun b hb hq => ?_⟩
        have r1 := HRW.out b hb
        rcases HI6.out.1.ov e' (List.mem_of_getElem? z3) b hq with ⟨d, hd, hdb⟩ | r2
        · have := ((HT4.out.ea d hd).lt b hdb).2; omega
        · omega)
      obtain ⟨G0, G1, hG⟩ := HN7.out
      have HG := Lib.hid hG
      clear hG
      go_roundg (n - (i + 1))
      case measure => omega
      case rel => exact ⟨i + 1, G0, G1, by simp, by omega, by omega, HG⟩
    · have hkz : ¬ (i : Int) < (n : Int) := by omega
      go_wp2_with fail
      go_end0
      have hmE : ∀ j, (∃ e ∈ E0 ++ E1, e.O j) → SO s v0 v1 E0 E1 j := fun j ⟨e, he, hj⟩ => ⟨e.O, by unfold TtO; exact List.mem_append_right _ (List.mem_map.2 ⟨e, he, rfl⟩), hj⟩
      have hs4 := HK4.out.size
      have hs5 := HB45.out.size
      refine ⟨rfl, F0, F1, by rw [HX4.out]; exact HI.out.1.tt, HI.out.1.l0, HI.out.1.l1, ?_, fun b hb => ?_⟩
      · exact ((HK4.out.mono fun j hj => .inl ⟨(· = s), by unfold TtO; simp, hj⟩).trans' (Kept.of_below HB45.out fun _ => False) (fun _ e => e.elim)).trans' HI.out.1.kp fun j hj => .inl (hmE j hj)
      · obtain ⟨Q, hQ, hq⟩ := hb
        unfold TtO at hQ
        rcases List.mem_append.1 hQ with hQ | hQ
        · exact .inl ⟨Q, by unfold TtO; exact List.mem_append_left _ hQ, hq⟩
        · obtain ⟨e, he, rfl⟩ := List.mem_map.1 hQ
          exact (HI.out.1.ov e he b hq).imp (hmE b) (fun h => by omega)
end
end
section
set_option linter.unusedVariables false
set_option linter.unusedSimpArgs false
open Go.RowKit
/-- A set: its numbers, the streams of both ends. -/
structure ZS where
  X : XS
  a : List TS
  b : List TS
def riseT (a b : List TS) : List TS := (List.range (max a.length b.length)).flatMap fun k => a[k]?.toList ++ b[k]?.toList
def gotT (a b : List TS) : Nat := ((riseT a b).map fun T => highQ T.r).sum % 18446744073709551616
def findT (a b : List TS) (id : Nat) : Option TS := if id / 2 % 2 = 1 then none else if id % 2 = 0 then a[id / 4]? else b[id / 4]?
def setT (Z : ZS) (id : Nat) (T : TS) : ZS := if id % 2 = 0 then { Z with a := Z.a.set (id / 4) T } else { Z with b := Z.b.set (id / 4) T }
def addT (Z : ZS) (id : Nat) (T : TS) : ZS := if id % 2 = 0 then { Z with a := Z.a ++ frLs Z.X 0 Z.a.length (id / 4 - Z.a.length) ++ [T] } else { Z with b := Z.b ++ frLs Z.X 1 Z.b.length (id / 4 - Z.b.length) ++ [T] }
/-- A frame of one stream. -/
def onsE (Z : ZS) (m : FN) (n : Nat) : Int :=
  match findT Z.a Z.b m.s.toNat with
  | some T => tlE T Z.X.limit (gotT Z.a Z.b) m n
  | none => if m.s.toNat / 2 % 2 = 1 ∨ m.s.toNat % 2 = Z.X.own then 5 else if Z.X.ms ≤ m.s.toNat / 4 then 4 else tlE (frS Z.X m.s.toNat) Z.X.limit (gotT Z.a Z.b) m n
def onsX (Z : ZS) (m : FN) (bs : List Int) : ZS :=
  match findT Z.a Z.b m.s.toNat with
  | some T => setT Z m.s.toNat (tlX T Z.X.limit (gotT Z.a Z.b) m bs)
  | none => if m.s.toNat / 2 % 2 = 1 ∨ m.s.toNat % 2 = Z.X.own then Z else if Z.X.ms ≤ m.s.toNat / 4 then Z else if tlE (frS Z.X m.s.toNat) Z.X.limit (gotT Z.a Z.b) m bs.length = 0 then addT Z m.s.toNat (tlX (frS Z.X m.s.toNat) Z.X.limit (gotT Z.a Z.b) m bs) else Z
structure ZS.ok (Z : ZS) : Prop where
  ms : Z.X.ms ≤ 99999
  msd : Z.X.msd < 18446744073709551616
  tsd : Z.X.tsd < 18446744073709551616
  lim : Z.X.limit < 18446744073709551616
  own : Z.X.own ≤ 1
  la : Z.a.length ≤ 100000
  lb : Z.b.length ≤ 100000
  ea : ∀ T ∈ Z.a, T.ok
  eb : ∀ T ∈ Z.b, T.ok
  ia : ∀ (i : Nat) (T : TS), Z.a[i]? = some T → T.id = 4 * i
  ib : ∀ (i : Nat) (T : TS), Z.b[i]? = some T → T.id = 4 * i + 1
theorem tlX_id (T : TS) (lim got : Nat) (m : FN) (bs : List Int) : (tlX T lim got m bs).id = T.id := by
  have tk : ∀ en, (tkX T lim got en m bs).id = T.id := fun en => by
    unfold tkX
    split
    · rfl
    · split <;> rfl
  unfold tlX
  split
  · exact tk _
  · split
    · exact tk _
    · split
      · rfl
      · split <;> rfl
theorem frLs_len (X : XS) (sd a : Nat) : ∀ n, (frLs X sd a n).length = n
  | 0 => rfl
  | n + 1 => by
    show (frLs X sd a n ++ [_]).length = n + 1
    rw [List.length_append, frLs_len X sd a n]
    rfl
theorem frLs_get (X : XS) (sd a : Nat) : ∀ (n i : Nat) (T : TS), (frLs X sd a n)[i]? = some T → T = frS X (4 * (a + i) + sd)
  | 0, i, T, h => by cases h
  | n + 1, i, T, h => by
    have h' : (frLs X sd a n ++ [frS X (4 * (a + n) + sd)])[i]? = some T := h
    rcases Nat.lt_or_ge i n with hl | hg
    · rw [List.getElem?_append_left (by rw [frLs_len]; exact hl)] at h'
      exact frLs_get X sd a n i T h'
    · rw [List.getElem?_append_right (by rw [frLs_len]; exact hg), frLs_len] at h'
      rcases Nat.eq_or_lt_of_le hg with e | e
      · subst e
        rw [Nat.sub_self] at h'
        injection h' with h'
        exact h'.symm
      · rw [List.getElem?_eq_none (by simp; omega)] at h'
        cases h'
theorem findT_some {a b : List TS} {id : Nat} {T : TS} (h : findT a b id = some T) : id / 2 % 2 = 0 ∧ ((id % 2 = 0 ∧ a[id / 4]? = some T) ∨ (id % 2 = 1 ∧ b[id / 4]? = some T)) := by
  unfold findT at h
  split at h
  · cases h
  · split at h
    · exact ⟨by omega, .inl ⟨by assumption, h⟩⟩
    · exact ⟨by omega, .inr ⟨by omega, h⟩⟩
theorem findT_none {a b : List TS} {id : Nat} (h : findT a b id = none) (h2 : ¬ id / 2 % 2 = 1) : (id % 2 = 0 → a.length ≤ id / 4) ∧ (id % 2 = 1 → b.length ≤ id / 4) := by
  unfold findT at h
  rw [if_neg h2] at h
  split at h
  · exact ⟨fun _ => List.getElem?_eq_none_iff.1 h, fun e => by omega⟩
  · exact ⟨fun e => by omega, fun _ => List.getElem?_eq_none_iff.1 h⟩
theorem ZS.ok.found {Z : ZS} (h : Z.ok) {id : Nat} {T : TS} (hf : findT Z.a Z.b id = some T) : T.ok ∧ T.id = id := by
  obtain ⟨h2, ⟨h3, h4⟩ | ⟨h3, h4⟩⟩ := findT_some hf
  · exact ⟨h.ea T (List.mem_of_getElem? h4), by rw [h.ia _ T h4]; omega⟩
  · exact ⟨h.eb T (List.mem_of_getElem? h4), by rw [h.ib _ T h4]; omega⟩
theorem ZS.ok.setT {Z : ZS} (h : Z.ok) {id : Nat} {T T' : TS} (hf : findT Z.a Z.b id = some T) (hk : T'.ok) (hi : T'.id = T.id) : (setT Z id T').ok := by
  obtain ⟨h2, ⟨h3, h4⟩ | ⟨h3, h4⟩⟩ := findT_some hf
  · unfold Proofs.Ytndaikeeikimeaa.setT
    rw [if_pos h3]
    refine { h with la := (by rw [List.length_set]; exact h.la), ea := fun U hU => (List.mem_or_eq_of_mem_set hU).elim (fun e => h.ea U e) (fun e => e ▸ hk), ia := fun i U hU => ?_ }
    have hU' : (Z.a.set (id / 4) T')[i]? = some U := hU
    rw [List.getElem?_set] at hU'
    split at hU'
    · rename_i e
      subst e
      split at hU'
      · injection hU' with e
        rw [← e, hi, h.ia _ T h4]
      · cases hU'
    · exact h.ia i U hU'
  · unfold Proofs.Ytndaikeeikimeaa.setT
    rw [if_neg (by omega)]
    refine { h with lb := (by rw [List.length_set]; exact h.lb), eb := fun U hU => (List.mem_or_eq_of_mem_set hU).elim (fun e => h.eb U e) (fun e => e ▸ hk), ib := fun i U hU => ?_ }
    have hU' : (Z.b.set (id / 4) T')[i]? = some U := hU
    rw [List.getElem?_set] at hU'
    split at hU'
    · rename_i e
      subst e
      split at hU'
      · injection hU' with e
        rw [← e, hi, h.ib _ T h4]
      · cases hU'
    · exact h.ib i U hU'
theorem add_get {X : XS} {sd : Nat} {l : List TS} {p i : Nat} {T U : TS} (hi : ∀ (i : Nat) (T : TS), l[i]? = some T → T.id = 4 * i + sd) (hp : l.length ≤ p) (hT : T.id = 4 * p + sd) (h : (l ++ frLs X sd l.length (p - l.length) ++ [T])[i]? = some U) : U.id = 4 * i + sd := by
  rcases Nat.lt_or_ge i l.length with h1 | h1
  · rw [List.append_assoc, List.getElem?_append_left h1] at h
    exact hi i U h
  · rcases Nat.lt_or_ge i p with h2 | h2
    · rw [List.append_assoc, List.getElem?_append_right h1, List.getElem?_append_left (by rw [frLs_len]; omega)] at h
      rw [frLs_get X sd _ _ _ U h]
      show 4 * (l.length + (i - l.length)) + sd = 4 * i + sd
      omega
    · rw [List.getElem?_append_right (by rw [List.length_append, frLs_len]; omega), List.length_append, frLs_len] at h
      rcases Nat.eq_or_lt_of_le h2 with e | e
      · rw [show i - (l.length + (p - l.length)) = 0 by omega] at h
        injection h with h
        rw [← h, hT, e]
      · rw [List.getElem?_eq_none (by simp; omega)] at h
        cases h
theorem frLs_ok {X : XS} {sd a n : Nat} {T : TS} (h : T ∈ frLs X sd a n) (hs : sd ≤ 1) (hb : a + n ≤ 200000) : T.ok := by
  obtain ⟨i, hi⟩ := List.getElem?_of_mem h
  have hl := (List.getElem?_eq_some_iff.1 hi).1
  rw [frLs_len] at hl
  rw [frLs_get X sd a n i T hi]
  exact frS_ok X _ (by omega)
theorem ZS.ok.addT {Z : ZS} (h : Z.ok) {id : Nat} {T : TS} (hf : findT Z.a Z.b id = none) (h2 : ¬ id / 2 % 2 = 1) (hm : id / 4 < Z.X.ms) (hk : T.ok) (hi : T.id = id) : (addT Z id T).ok := by
  obtain ⟨n0, n1⟩ := findT_none hf h2
  have hms := h.ms
  unfold Proofs.Ytndaikeeikimeaa.addT
  split
  · rename_i h3
    have hl := n0 h3
    refine { h with la := (by show (Z.a ++ frLs Z.X 0 Z.a.length (id / 4 - Z.a.length) ++ [T]).length ≤ 100000; rw [List.length_append, List.length_append, frLs_len]; show Z.a.length + (id / 4 - Z.a.length) + 1 ≤ 100000; omega), ea := fun U hU => ?_, ia := fun i U hU => ?_ }
    · have hU' : U ∈ Z.a ++ frLs Z.X 0 Z.a.length (id / 4 - Z.a.length) ++ [T] := hU
      rcases List.mem_append.1 hU' with hU' | hU'
      · rcases List.mem_append.1 hU' with hU' | hU'
        · exact h.ea U hU'
        · exact frLs_ok hU' (by omega) (by omega)
      · rw [List.mem_singleton.1 hU']
        exact hk
    · exact add_get (sd := 0) h.ia hl (by omega) hU
  · rename_i h3
    have hl := n1 (by omega)
    refine { h with lb := (by show (Z.b ++ frLs Z.X 1 Z.b.length (id / 4 - Z.b.length) ++ [T]).length ≤ 100000; rw [List.length_append, List.length_append, frLs_len]; show Z.b.length + (id / 4 - Z.b.length) + 1 ≤ 100000; omega), eb := fun U hU => ?_, ib := fun i U hU => ?_ }
    · have hU' : U ∈ Z.b ++ frLs Z.X 1 Z.b.length (id / 4 - Z.b.length) ++ [T] := hU
      rcases List.mem_append.1 hU' with hU' | hU'
      · rcases List.mem_append.1 hU' with hU' | hU'
        · exact h.eb U hU'
        · exact frLs_ok hU' (by omega) (by omega)
      · rw [List.mem_singleton.1 hU']
        exact hk
    · exact add_get (sd := 1) h.ib hl (by omega) hU
theorem ZS.ok.ons {Z : ZS} (h : Z.ok) {m : FN} {bs : List Int} (hm : m.wf) (hb : Byt bs) : (onsX Z m bs).ok := by
  unfold onsX
  split
  · rename_i T hf
    exact h.setT hf ((h.found hf).1.tl hm hb _ _) (tlX_id _ _ _ _ _)
  · rename_i hf
    split
    · exact h
    · split
      · exact h
      · split
        · exact h.addT hf (by omega) (by omega) ((frS_ok Z.X _ (by have := hm.s1; omega)).tl hm hb _ _) (by rw [tlX_id]; rfl)
        · exact h
end
section
set_option linter.unusedVariables false
set_option linter.unusedSimpArgs false
open Go.RowKit
def Zt (w0 W : World) (s : Nat) (O : Nat → Prop) (Z : ZS) : Prop := ∃ v0 v1 E0 E1, Tt w0 W s v0 v1 E0 E1 Z.X ∧ E0.map En.T = Z.a ∧ E1.map En.T = Z.b ∧ O = SO s v0 v1 E0 E1
/-- A set that turned, and only its blocks. -/
def ZQ (w0 : World) (s : Nat) (O : Nat → Prop) (Z' : ZS) (W W' : World) : Prop := ∃ O', Zt w0 W' s O' Z' ∧ Kept O W W' ∧ ∀ j, O' j → O j ∨ W.heap.size ≤ j
section
variable {w0 W W' W1 : World} {s : Nat} {v0 v1 : Value} {E0 E1 : List En} {X : XS} {O : Nat → Prop} {Z : ZS}
theorem Zt.lt (h : Zt w0 W s O Z) : ∀ j, O j → w0.heap.size ≤ j ∧ j < W.heap.size := by
  obtain ⟨v0, v1, E0, E1, ht, _, _, rfl⟩ := h
  rintro j ⟨Q, hQ, hj⟩
  exact ht.lts Q hQ j hj
theorem Zt.own (h : Zt w0 W s O Z) : O s := by
  obtain ⟨v0, v1, E0, E1, ht, _, _, rfl⟩ := h
  exact ⟨(· = s), by unfold TtO; simp, rfl⟩
theorem Zt.kept {S : Nat → Prop} (h : Zt w0 W s O Z) (k : Kept S W W') (hs : ∀ j, O j → ¬ S j) (hS : ∀ j, S j → w0.heap.size ≤ j) : Zt w0 W' s O Z := by
  obtain ⟨v0, v1, E0, E1, ht, ha, hb, rfl⟩ := h
  exact ⟨v0, v1, E0, E1, ht.kept k (fun Q hQ b hb => hs b ⟨Q, hQ, hb⟩) hS, ha, hb, rfl⟩
theorem Zt.below (h : Zt w0 W s O Z) (k : Below W.heap.size W W') : Zt w0 W' s O Z := h.kept (Kept.of_below k fun _ => False) (fun _ _ h => h) (fun _ h => h.elim)
theorem ZQ.below {Z' : ZS} (k : Below W.heap.size W W1) (h : ZQ w0 s O Z' W1 W') : ZQ w0 s O Z' W W' := by
  obtain ⟨O', h1, h2, h3⟩ := h
  have hs := k.size
  exact ⟨O', h1, (Kept.of_below k O).trans h2, fun j hj => (h3 j hj).imp id fun e => by omega⟩
theorem ZQ.after {Z' : ZS} {W2 : World} (h : ZQ w0 s O Z' W W1) (k : Below W1.heap.size W1 W2) : ZQ w0 s O Z' W W2 := by
  obtain ⟨O', h1, h2, h3⟩ := h
  exact ⟨O', h1.below k, h2.trans' (Kept.of_below k fun _ => False) (fun _ e => e.elim), h3⟩
theorem Zt.same (h : Zt w0 W s O Z) (k : Below W.heap.size W W') : ZQ w0 s O Z W W' := ⟨O, h.below k, Kept.of_below k O, fun j hj => .inl hj⟩
theorem rise_T (E0 E1 : List En) : (rise E0 E1).map En.T = riseT (E0.map En.T) (E1.map En.T) := by
  unfold rise riseN riseT
  rw [List.map_flatMap, List.length_map, List.length_map]
  congr 1
  funext k
  unfold at2
  rw [List.map_append, List.getElem?_map, List.getElem?_map]
  cases E0[k]? <;> cases E1[k]? <;> rfl
theorem got_T (E0 E1 : List En) : gotS (rise E0 E1) = gotT (E0.map En.T) (E1.map En.T) := by
  unfold gotS gotT
  rw [← rise_T, List.map_map]
  rfl
theorem find_T (E0 E1 : List En) (id : Nat) : findT (E0.map En.T) (E1.map En.T) id = (findE E0 E1 id).map En.T := by
  unfold findT findE
  split
  · rfl
  · split
    · exact List.getElem?_map
    · exact List.getElem?_map
theorem so_e {e : En} (h : e ∈ E0 ++ E1) {b : Nat} (hb : e.O b) : SO s v0 v1 E0 E1 b := ⟨e.O, by unfold TtO; exact List.mem_append_right _ (List.mem_map.2 ⟨e, h, rfl⟩), hb⟩
/-- One of them turns. -/
theorem Tt.zturn (h : Tt w0 W s v0 v1 E0 E1 X) {id : Nat} {e : En} (hf : findE E0 E1 id = some e) {T' : TS} (hP : StPost w0 e.x e.O T' W W') (hid : T'.id = e.T.id) :
    ZQ w0 s (SO s v0 v1 E0 E1) (setT ⟨X, E0.map En.T, E1.map En.T⟩ id T') W W' := by
  have main : ∀ (i : Nat) (hi : (E0 ++ E1)[i]? = some e) (G0 G1 : List En), (∀ O', (E0 ++ E1).set i ⟨e.x, O', T'⟩ = (E0 ++ E1).set i ⟨e.x, O', T'⟩) → (∀ O' F0 F1, F0 ++ F1 = (E0 ++ E1).set i ⟨e.x, O', T'⟩ → F0.length = E0.length → F0.map En.T = (setT ⟨X, E0.map En.T, E1.map En.T⟩ id T').a ∧ F1.map En.T = (setT ⟨X, E0.map En.T, E1.map En.T⟩ id T').b) → (setT ⟨X, E0.map En.T, E1.map En.T⟩ id T').X = X → ZQ w0 s (SO s v0 v1 E0 E1) (setT ⟨X, E0.map En.T, E1.map En.T⟩ id T') W W' := fun i hi _ _ _ hm hX => by
    obtain ⟨O', F0, F1, hF, hl, ht, hk, ho⟩ := h.turn hi hP hid
    have he : e ∈ E0 ++ E1 := List.mem_of_getElem? hi
    obtain ⟨m0, m1⟩ := hm O' F0 F1 hF hl
    refine ⟨_, ⟨v0, v1, F0, F1, by rw [hX]; exact ht, m0, m1, rfl⟩, hk.mono fun j hj => .inl (so_e he hj), ?_⟩
    rintro b ⟨Q, hQ, hb⟩
    unfold TtO at hQ
    rcases List.mem_append.1 hQ with hQ | hQ
    · exact .inl ⟨Q, by unfold TtO; exact List.mem_append_left _ hQ, hb⟩
    · obtain ⟨y, hy, rfl⟩ := List.mem_map.1 hQ
      rw [hF] at hy
      rcases List.mem_or_eq_of_mem_set hy with hy | rfl
      · exact .inl (so_e hy hb)
      · exact (ho b hb).imp (so_e he) fun x => x
  unfold findE at hf
  split at hf
  · cases hf
  · split at hf
    · rename_i hp
      have hl := (List.getElem?_eq_some_iff.1 hf).1
      refine main (id / 4) (by rw [List.getElem?_append_left hl]; exact hf) [] [] (fun _ => rfl) (fun O' F0 F1 hF hl' => ?_) (by unfold setT; rw [if_pos hp])
      rw [List.set_append_left _ _ hl] at hF
      obtain ⟨a, b⟩ := List.append_inj hF (by rw [hl', List.length_set])
      unfold setT
      rw [if_pos hp, a, b, List.map_set]
      exact ⟨rfl, rfl⟩
    · rename_i hp
      have hl := (List.getElem?_eq_some_iff.1 hf).1
      refine main (E0.length + id / 4) (by rw [List.getElem?_append_right (by omega), Nat.add_sub_cancel_left]; exact hf) [] [] (fun _ => rfl) (fun O' F0 F1 hF hl' => ?_) (by unfold setT; rw [if_neg hp])
      rw [List.set_append_right _ _ (by omega), Nat.add_sub_cancel_left] at hF
      obtain ⟨a, b⟩ := List.append_inj hF hl'
      unfold setT
      rw [if_neg hp, a, b, List.map_set]
      exact ⟨rfl, rfl⟩
/-- One that came up turned: nothing of the set did. -/
theorem Tt.besides {W2 : World} {y : Nat} {Oy Oy' : Nat → Prop} {T' : TS} (h : Tt w0 W s v0 v1 E0 E1 X) (b1 : Below W.heap.size W W1) (hy : ∀ j, Oy j → W.heap.size ≤ j) (hk : Kept Oy W1 W2) (ho : ∀ j, Oy' j → Oy j ∨ W1.heap.size ≤ j) :
    Tt w0 W2 s v0 v1 E0 E1 X ∧ Below W.heap.size W W2 ∧ (∀ Q ∈ TtO s v0 v1 E0 E1, ∀ b, Oy' b → ¬ Q b) ∧ ∀ j, Oy' j → W.heap.size ≤ j := by
  have s1 := b1.size
  have k2 : Below W.heap.size W W2 := hk.below b1 s1 hy
  have ho' : ∀ j, Oy' j → W.heap.size ≤ j := fun j hj => by rcases ho j hj with e | e; exact hy j e; omega
  exact ⟨h.below k2, k2, fun Q hQ b hb hq => by have := (h.lts Q hQ b hq).2; have := ho' b hb; omega, ho'⟩
theorem Tt.zadd0 {W2 : World} {y pl : Nat} {Oy : Nat → Prop} {T' : TS} {e : Ending} (h : Tt w0 W s v0 v1 E0 E1 X) (b2 : Below W.heap.size W W2) (hyn : ∀ j, Oy j → W.heap.size ≤ j) {id : Nat} (hp : id % 2 = 0) (hpl : id / 4 = pl)
    (hP : RePo0 w0 W2 s v0 v1 E0 E1 X y Oy T' pl e W') : ZQ w0 s (SO s v0 v1 E0 E1) (addT ⟨X, E0.map En.T, E1.map En.T⟩ id T') W W' := by
  obtain ⟨_, v', F, hF, ht, hk, ho⟩ := hP
  have s2 := b2.size
  have ms : SO s v0 v1 E0 E1 s := ⟨(· = s), by unfold TtO; simp, rfl⟩
  have mv : ∀ j, obk v0 j → SO s v0 v1 E0 E1 j := fun j hj => ⟨obk v0, by unfold TtO; simp, hj⟩
  refine ⟨_, ⟨v', v1, _, E1, (by unfold addT; rw [if_pos hp]; exact ht), ?_, (by unfold addT; rw [if_pos hp]), rfl⟩, (Kept.of_below b2 _).trans' hk fun j hj => ?_, fun j hj => ?_⟩
  · unfold addT
    rw [if_pos hp, List.map_append, List.map_append, hF, hpl, List.length_map]
    rfl
  · rcases hj with rfl | e
    · exact .inl ms
    · exact .inl (mv j e)
  · rcases ho j hj with e | e | e
    · exact .inl e
    · exact .inr (hyn j e)
    · exact .inr (by omega)
theorem Tt.zadd1 {W2 : World} {y pl : Nat} {Oy : Nat → Prop} {T' : TS} {e : Ending} (h : Tt w0 W s v0 v1 E0 E1 X) (b2 : Below W.heap.size W W2) (hyn : ∀ j, Oy j → W.heap.size ≤ j) {id : Nat} (hp : ¬ id % 2 = 0) (hpl : id / 4 = pl)
    (hP : RePo1 w0 W2 s v0 v1 E0 E1 X y Oy T' pl e W') : ZQ w0 s (SO s v0 v1 E0 E1) (addT ⟨X, E0.map En.T, E1.map En.T⟩ id T') W W' := by
  obtain ⟨_, v', F, hF, ht, hk, ho⟩ := hP
  have s2 := b2.size
  have ms : SO s v0 v1 E0 E1 s := ⟨(· = s), by unfold TtO; simp, rfl⟩
  have mv : ∀ j, obk v1 j → SO s v0 v1 E0 E1 j := fun j hj => ⟨obk v1, by unfold TtO; simp, hj⟩
  refine ⟨_, ⟨v0, v', E0, _, (by unfold addT; rw [if_neg hp]; exact ht), (by unfold addT; rw [if_neg hp]), ?_, rfl⟩, (Kept.of_below b2 _).trans' hk fun j hj => ?_, fun j hj => ?_⟩
  · unfold addT
    rw [if_neg hp, List.map_append, List.map_append, hF, hpl, List.length_map]
    rfl
  · rcases hj with rfl | e
    · exact .inl ms
    · exact .inl (mv j e)
  · rcases ho j hj with e | e | e
    · exact .inl e
    · exact .inr (hyn j e)
    · exact .inr (by omega)
end
end
end Go.Proofs.Ytndaikeeikimeaa
