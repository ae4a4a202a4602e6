/-
  inbuf.Buffer behind a pointer: what it holds (Bc, Bf); New, Read, Highest, Final, against.
-/
import Derived.Test.YthgbnknahnaemaaIb
import Derived.Test.YthgbnknahnaemaaId
import Derived.Test.YthgbnknahnaemaaQf
namespace Go.Proofs.Ythgbnknahnaemaa
set_option linter.unusedVariables false
set_option linter.unusedSimpArgs false
open Go.RowKit
structure Bc (w : World) (base p ps : Nat) (vs vw : Value) (l : RL) (W : List Int) (S : BS) : Prop where
  at_ : At w p 52 [.int .u64 S.rd, .int .u64 S.hi, .int .u64 S.fi, .bool S.en, .pointer (some ⟨ps, 0, none⟩), vw]
  set_ : SetV w base ps 2048 vs l
  own : Own w base 5 vw W
  n1 : p ≠ ps
  n2 : vs.ownBlock ≠ some p
  n3 : vw.ownBlock ≠ some p
  n4 : vw.ownBlock ≠ some ps
  n5 : ∀ k, vs.ownBlock = some k → vw.ownBlock ≠ some k
  bp : base ≤ p
  pm : Pm S.rd l W S.g
/-- The blocks of a buffer. -/
def bO (p ps : Nat) (vs vw : Value) : Nat → Prop := fun b => b = p ∨ b = ps ∨ vs.ownBlock = some b ∨ vw.ownBlock = some b
section
variable {w w' : World} {base p ps : Nat} {vs vw : Value} {l : RL} {W : List Int} {S : BS}
theorem Bc.lt (h : Bc w base p ps vs vw l W S) : ∀ b, bO p ps vs vw b → base ≤ b ∧ b < w.heap.size := by
  rintro b (rfl | rfl | hb | hb)
  · exact ⟨h.bp, h.at_.lt⟩
  · exact ⟨h.set_.bp, h.set_.at_.lt⟩
  · exact h.set_.own.lt b hb
  · exact h.own.block_lt b hb
theorem Bc.kept {T : Nat → Prop} (h : Bc w base p ps vs vw l W S) (k : Kept T w w') (hs : ∀ b, bO p ps vs vw b → ¬ T b) : Bc w' base p ps vs vw l W S :=
  { h with
    at_ := h.at_.kept k (hs p (.inl rfl))
    set_ := h.set_.kept k (hs ps (.inr (.inl rfl))) fun j hj => hs j (.inr (.inr (.inl hj)))
    own := h.own.kept k fun j hj => hs j (.inr (.inr (.inr hj))) }
theorem Bc.drewN (h : Bc w base p ps vs vw l W S) (n : Nat) : Bc (w.drewN n) base p ps vs vw l W S := h.kept ((Kept.refl (fun _ => False) w).drewN n) fun _ _ h => h
theorem Bc.c0 (h : Bc w base p ps vs vw l W S) : w.cell? ⟨p, 0, none⟩ = some (.int .u64 S.rd) := by rw [h.at_.cell]; rfl
theorem Bc.c1 (h : Bc w base p ps vs vw l W S) : w.cell? ⟨p, 1, none⟩ = some (.int .u64 S.hi) := by rw [h.at_.cell]; rfl
theorem Bc.c2 (h : Bc w base p ps vs vw l W S) : w.cell? ⟨p, 2, none⟩ = some (.int .u64 S.fi) := by rw [h.at_.cell]; rfl
theorem Bc.c3 (h : Bc w base p ps vs vw l W S) : w.cell? ⟨p, 3, none⟩ = some (.bool S.en) := by rw [h.at_.cell]; rfl
theorem Bc.c4 (h : Bc w base p ps vs vw l W S) : w.cell? ⟨p, 4, none⟩ = some (.pointer (some ⟨ps, 0, none⟩)) := by rw [h.at_.cell]; rfl
theorem Bc.c5 (h : Bc w base p ps vs vw l W S) : w.cell? ⟨p, 5, none⟩ = some vw := by rw [h.at_.cell]; rfl
end
/-- A buffer, and the blocks that it has. -/
def Bf (w : World) (base p : Nat) (O : Nat → Prop) (S : BS) : Prop := ∃ ps vs vw l W, O = bO p ps vs vw ∧ Bc w base p ps vs vw l W S
section
variable {w w' : World} {base p : Nat} {O : Nat → Prop} {S : BS}
theorem Bf.lt (h : Bf w base p O S) : ∀ b, O b → base ≤ b ∧ b < w.heap.size := by
  obtain ⟨ps, vs, vw, l, W, rfl, h⟩ := h
  exact h.lt
theorem Bf.kept {T : Nat → Prop} (h : Bf w base p O S) (k : Kept T w w') (hs : ∀ b, O b → ¬ T b) : Bf w' base p O S := by
  obtain ⟨ps, vs, vw, l, W, rfl, h⟩ := h
  exact ⟨ps, vs, vw, l, W, rfl, h.kept k hs⟩
theorem Bf.below (h : Bf w base p O S) (k : Below w.heap.size w w') : Bf w' base p O S := h.kept (Kept.of_below k (fun _ => False)) fun _ _ h => h
theorem Bf.drewN (h : Bf w base p O S) (n : Nat) : Bf (w.drewN n) base p O S := h.kept ((Kept.refl (fun _ => False) w).drewN n) fun _ _ h => h
end
/-- What a call that changes a buffer leaves. -/
def BPost (r : Value) (base p : Nat) (O : Nat → Prop) (S' : BS) (w : World) (e : Ending) (w' : World) : Prop :=
  e = .returned r ∧ ∃ O', Bf w' base p O' S' ∧ Kept O w w' ∧ ∀ j, O' j → O j ∨ w.heap.size ≤ j
/-- What New leaves. -/
def INew (w : World) (e : Ending) (w' : World) : Prop := ∃ p, e = .returned (.pointer (some ⟨p, 0, none⟩)) ∧ (∃ O, Bf w' w.heap.size p O bs0) ∧ Below w.heap.size w w'
set_option maxRecDepth 100000 in
theorem inew_any (w : World) : Calls Try.prog 7 #[] w (INew w) := by
  have HN := Lib.hid (new_any 2048 w (by omega))
  have HF : Hid (∀ w1, SetV w1 w.heap.size w.heap.size 2048 (.slice none 0 0) [] → Below w.heap.size w w1 → ∃ O, Bf (w1.alloc (.cells #[.int .u64 0, .int .u64 0, .int .u64 0, .bool false, .pointer (some ⟨w.heap.size, 0, none⟩), .slice none 0 0] 52)) w.heap.size w1.heap.size O bs0) := Lib.hid (by
    intro w1 hs hb
    have hlt := hs.at_.lt
    refine ⟨_, w.heap.size, .slice none 0 0, .slice none 0 0, [], [], rfl, ⟨At.new w1 _ _, hs.kept ((Kept.refl (fun _ => False) w1).alloc _) (fun h => h) (fun _ _ h => h), Own.none_ _ _ _, by omega, (by intro h; cases h), (by intro h; cases h), (by intro h; cases h), (by intro k h; cases h), hb.size, pm0⟩⟩)
  go_enter Try.func7, Try.ntmps7
  go_wp2_with (go_at_call 18; refine HN.out.mono ?_; rintro e w1 ⟨rfl, hs1, hb1⟩; have HO := Lib.hid (HF.out w1 hs1 hb1); have hb2 := hb1.alloc hb1.size (.cells #[.int .u64 0, .int .u64 0, .int .u64 0, .bool false, .pointer (some ⟨w.heap.size, 0, none⟩), .slice none 0 0] 52))
  go_ret
  exact ⟨_, rfl, HO.out, hb2⟩
theorem iread_any {w : World} {base p : Nat} {O : Nat → Prop} {S : BS} (h : Bf w base p O S) : Calls Try.prog 25 #[.pointer (some ⟨p, 0, none⟩)] w fun e w' => e = .returned (.int .u64 S.rd) ∧ w' = w := by
  obtain ⟨ps, vs, vw, l, W, _, h⟩ := h
  have h0 := h.c0
  clear h
  go_enter Try.func25, Try.ntmps25
  go_wp2
  go_ret
  exact ⟨rfl, rfl⟩
theorem ihigh_any {w : World} {base p : Nat} {O : Nat → Prop} {S : BS} (h : Bf w base p O S) : Calls Try.prog 16 #[.pointer (some ⟨p, 0, none⟩)] w fun e w' => e = .returned (.int .u64 S.hi) ∧ w' = w := by
  obtain ⟨ps, vs, vw, l, W, _, h⟩ := h
  have h0 := h.c1
  clear h
  go_enter Try.func16, Try.ntmps16
  go_wp2
  go_ret
  exact ⟨rfl, rfl⟩
theorem ifin_any {w : World} {base p : Nat} {O : Nat → Prop} {S : BS} (h : Bf w base p O S) : Calls Try.prog 17 #[.pointer (some ⟨p, 0, none⟩)] w fun e w' => e = .returned (.tuple #[.int .u64 S.fi, .bool S.en]) ∧ ∃ d, w' = w.drewN d := by
  obtain ⟨ps, vs, vw, l, W, _, h⟩ := h
  have h0 := h.c2
  have h1 := h.c3
  clear h
  go_enter Try.func17, Try.ntmps17
  go_wp2
  go_quiet (fail)
  go_wp2
  go_ret2
  exact ⟨rfl, _, rfl⟩
/-- What speaks against a piece up to n. -/
def agB (S : BS) (n : Nat) (fin : Bool) : Bool := (S.en && (decide (S.fi < n) || (fin && !decide (n = S.fi)))) || (fin && decide (n < S.hi))
set_option maxHeartbeats 2000000 in
theorem iag_any {w : World} {base p : Nat} {O : Nat → Prop} {S : BS} (h : Bf w base p O S) (n : Nat) (fin : Bool) : Calls Try.prog 22 #[.pointer (some ⟨p, 0, none⟩), .int .u64 n, .bool fin] w fun e w' => e = .returned (.bool (agB S n fin)) ∧ w' = w := by
  obtain ⟨ps, vs, vw, l, W, _, h⟩ := h
  have h1 := h.c1
  have h2 := h.c2
  have h3 := h.c3
  clear h
  unfold agB
  obtain ⟨rd, hi, fi, en, g⟩ := S
  simp only at h1 h2 h3 ⊢
  cases en <;> cases fin
  · go_enter Try.func22, Try.ntmps22
    go_wp2
    go_ret
    exact ⟨by simp, rfl⟩
  · go_enter Try.func22, Try.ntmps22
    go_wp2
    go_ret
    exact ⟨by simp, rfl⟩
  · by_cases hc : fi < n
    · have hcz : (fi : Int) < (n : Int) := by omega
      go_enter Try.func22, Try.ntmps22
      go_wp2
      go_ret
      exact ⟨by simp [hc], rfl⟩
    · have hcz : ¬ (fi : Int) < (n : Int) := by omega
      go_enter Try.func22, Try.ntmps22
      go_wp2
      go_ret
      exact ⟨by simp [hc], rfl⟩
  · rcases Nat.lt_trichotomy fi n with hc | rfl | hc
    · have hcz : (fi : Int) < (n : Int) := by omega
      go_enter Try.func22, Try.ntmps22
      go_wp2
      go_ret
      exact ⟨by simp [hc], rfl⟩
    · have hcz : ¬ (fi : Int) < (fi : Int) := by omega
      go_enter Try.func22, Try.ntmps22
      go_wp2
      go_ret
      exact ⟨by simp, rfl⟩
    · have hcz : ¬ (fi : Int) < (n : Int) := by omega
      have hne : ¬ (n : Int) = (fi : Int) := by omega
      have hnn : ¬ n = fi := by omega
      go_enter Try.func22, Try.ntmps22
      go_wp2
      go_ret
      exact ⟨by simp [hnn], rfl⟩
end Go.Proofs.Ythgbnknahnaemaa
