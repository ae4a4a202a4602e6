/-
  What was written since: the writer's state from call to call.
-/
import Derived.Test.YtehdilgnlhhjdaaMq4
import Derived.Test.YtehdilgnlhhjdaaMq3
namespace Go.Proofs.Ytehdilgnlhhjdaa
set_option linter.unusedVariables false
open Go.RowKit
/-- What was written since w: the writer at p held v there, and holds v' in w'. -/
def WSt (w : World) (base p : Nat) (T : TypeId) (v v' : Value) (bs' : List Int) (w' : World) : Prop :=
  Wtr w' base p T v' bs' ∧ (v'.ownBlock = v.ownBlock ∨ ∃ k, w.heap.size ≤ k ∧ v'.ownBlock = some k) ∧ Kept (WS p v) w w'
section
variable {w w1 w2 : World} {base p : Nat} {T : TypeId} {v v1 r : Value} {bs bs1 bs2 : List Int} {e : Ending}
theorem WSt.refl (h : Wtr w base p T v bs) : WSt w base p T v v bs w := ⟨h, .inl rfl, Kept.refl _ _⟩
theorem WSt.step (h : WSt w base p T v v1 bs1 w1) (k : WPost r w1 base p T v1 bs2 e w2) : ∃ v2, e = .returned r ∧ WSt w base p T v v2 bs2 w2 := by
  obtain ⟨h1, h2, h3⟩ := h
  obtain ⟨v2, he, k1, k2, k3⟩ := k
  have hs := h3.size
  refine ⟨v2, he, k1, ?_, h3.trans' k3 fun j hj => ?_⟩
  · rcases k2 with k2 | ⟨i, hi, k2⟩
    · rcases h2 with h2 | ⟨i, hi, h2⟩
      · exact .inl (k2.trans h2)
      · exact .inr ⟨i, hi, k2.trans h2⟩
    · exact .inr ⟨i, by omega, k2⟩
  · rcases hj with hj | hj
    · exact .inl (.inl hj)
    · rcases h2 with h2 | ⟨i, hi, h2⟩
      · exact .inl (.inr (h2 ▸ hj))
      · rw [h2] at hj; injection hj with hj; omega
theorem WSt.below (h : WSt w base p T v v1 bs1 w1) (hb : Below w1.heap.size w1 w2) : WSt w base p T v v1 bs1 w2 := by
  obtain ⟨h1, h2, h3⟩ := h
  exact ⟨h1.kept (Kept.of_below hb (fun _ => False)) (fun h => h) (fun _ _ h => h), h2, h3.trans (Kept.of_below hb _)⟩
theorem WSt.alloc (h : WSt w base p T v v1 bs1 w1) (o : Obj) : WSt w base p T v v1 bs1 (w1.alloc o) := h.below ((Below.refl _ _).alloc (Nat.le_refl _) _)
theorem WSt.post (h : WSt w base p T v v1 bs1 w1) (r : Value) : WPost r w base p T v bs1 (.returned r) w1 := ⟨v1, rfl, h.1, h.2.1, h.2.2⟩
/-- What lay there, elsewhere than the writer, lies there still. -/
theorem WSt.apart (h : WSt w base p T v v1 bs1 w1) : Wtr w base p T v bs → ∀ j, j < w.heap.size → ¬ WS p v j → ¬ WS p v1 j := fun _ j hj hn hs => by
  rcases hs with hs | hs
  · exact hn (.inl hs)
  · rcases h.2.1 with h2 | ⟨i, hi, h2⟩
    · exact hn (.inr (h2 ▸ hs))
    · rw [h2] at hs; injection hs with hs; omega
/-- A new block lies apart from the writer. -/
theorem Wtr.not_new (h : Wtr w base p T v bs) {g : Nat} (hg : w.heap.size ≤ g) : ¬ WS p v g := fun hs => by
  rcases hs with hs | hs
  · have := h.1.lt; omega
  · have := (h.2.2.1.block_lt g hs).2; omega
end
/-- As WSt, but what the writer holds anew lies from block M on. -/
def WSx (w : World) (M base p : Nat) (T : TypeId) (v v' : Value) (bs' : List Int) (w' : World) : Prop :=
  Wtr w' base p T v' bs' ∧ (v'.ownBlock = v.ownBlock ∨ ∃ k, M ≤ k ∧ v'.ownBlock = some k) ∧ Kept (WS p v) w w' ∧ M ≤ w'.heap.size
section
variable {w w1 w2 : World} {M base p : Nat} {T : TypeId} {v v1 r : Value} {bs bs1 bs2 : List Int} {e : Ending}
theorem WSx.refl (h : Wtr w base p T v bs) (hb : Below w.heap.size w w1) : WSx w w1.heap.size base p T v v bs w1 := ⟨h.kept (Kept.of_below hb (fun _ => False)) (fun h => h) (fun _ _ h => h), .inl rfl, Kept.of_below hb _, Nat.le_refl _⟩
theorem WSx.step (h : WSx w M base p T v v1 bs1 w1) (hM : w.heap.size ≤ M) (k : WPost r w1 base p T v1 bs2 e w2) : ∃ v2, e = .returned r ∧ WSx w M base p T v v2 bs2 w2 ∧ Kept (WS p v1) w1 w2 := by
  obtain ⟨h1, h2, h3, h4⟩ := h
  obtain ⟨v2, he, k1, k2, k3⟩ := k
  have hs := k3.size
  refine ⟨v2, he, ⟨k1, ?_, h3.trans' k3 fun j hj => ?_, by omega⟩, k3⟩
  · rcases k2 with k2 | ⟨i, hi, k2⟩
    · rcases h2 with h2 | ⟨i, hi, h2⟩
      · exact .inl (k2.trans h2)
      · exact .inr ⟨i, hi, k2.trans h2⟩
    · exact .inr ⟨i, by omega, k2⟩
  · rcases hj with hj | hj
    · exact .inl (.inl hj)
    · rcases h2 with h2 | ⟨i, hi, h2⟩
      · exact .inl (.inr (h2 ▸ hj))
      · rw [h2] at hj; injection hj with hj; omega
theorem WSx.below (h : WSx w M base p T v v1 bs1 w1) (hb : Below w1.heap.size w1 w2) : WSx w M base p T v v1 bs1 w2 := by
  obtain ⟨h1, h2, h3, h4⟩ := h
  have := hb.size
  exact ⟨h1.kept (Kept.of_below hb (fun _ => False)) (fun h => h) (fun _ _ h => h), h2, h3.trans (Kept.of_below hb _), by omega⟩
theorem WSx.alloc (h : WSx w M base p T v v1 bs1 w1) (o : Obj) : WSx w M base p T v v1 bs1 (w1.alloc o) := h.below ((Below.refl _ _).alloc (Nat.le_refl _) _)
theorem WSx.apart (h : WSx w M base p T v v1 bs1 w1) {j : Nat} (hj : j < M) (hn : ¬ WS p v j) : ¬ WS p v1 j := fun hs => by
  rcases hs with hs | hs
  · exact hn (.inl hs)
  · rcases h.2.1 with h2 | ⟨i, hi, h2⟩
    · exact hn (.inr (h2 ▸ hs))
    · rw [h2] at hs; injection hs with hs; omega
theorem WSx.cell (h : WSx w M base p T v v1 bs1 w1) {g : Nat} (hg : w.heap.size ≤ g) (hgM : g < M) (hn : ¬ WS p v g) (j : Nat) (u : Value) : WSx w M base p T v v1 bs1 (w1.setCell ⟨g, j, none⟩ u) := by
  have ha := h.apart hgM hn
  obtain ⟨h1, h2, h3, h4⟩ := h
  refine ⟨h1.kept (S := (· = g)) ((Kept.refl _ _).setAt j u) (fun e => ha (.inl e.symm)) (fun i hi e => ha (.inr (e ▸ hi))), h2, h3.setCell (.inr hg) _, by simpa [World.setCell] using h4⟩
theorem WSx.post (h : WSx w M base p T v v1 bs1 w1) (hM : w.heap.size ≤ M) (r : Value) : WPost r w base p T v bs1 (.returned r) w1 := by
  refine ⟨v1, rfl, h.1, ?_, h.2.2.1⟩
  rcases h.2.1 with h2 | ⟨i, hi, h2⟩
  · exact .inl h2
  · exact .inr ⟨i, by omega, h2⟩
end
theorem WSx.row {w w1 : World} {M base p : Nat} {T : TypeId} {v v1 : Value} {bs1 : List Int} (h : WSx w M base p T v v1 bs1 w1) (hM : w.heap.size ≤ M) {d : Sl} {ds : List Int} (hd : InD w (fun b => ¬ WS p v b) d ds) :
    Rd w1 w1.heap.size d.A d.n ds ∧ ∀ b off, 0 < d.n → d.A = some ⟨b, off, none⟩ → ¬ WS p v1 b := by
  have hk := hd.rd.kept h.2.2.1 (fun b hb => hb)
  refine ⟨hk.1, fun b off hn e => ?_⟩
  obtain ⟨b', off', e', hb, _⟩ := hd.rd.1.2.2 hn
  rw [e] at e'
  injection e' with e'
  injection e' with e1 e2
  exact h.apart (by omega) (hd.rd.2 b off hn e)
theorem textB_le (xs : List Int) : (textB xs).length ≤ xs.length + 8 := by
  unfold textB; rw [List.length_append, putS_len]; have := size_le (xs.length : Int); omega
end Go.Proofs.Ytehdilgnlhhjdaa
