/-
  A buffer of the law's own (Oz); the law's known.
-/
import Derived.Test.YtndaikeeikimeaaMq10
import Derived.Test.YtndaikeeikimeaaMq11
import Derived.Lib.SlBytesConst
import Derived.Test.YtndaikeeikimeaaMq5
import Derived.Test.YtndaikeeikimeaaMq0
import Derived.OpenShut
import Derived.Test.YtndaikeeikimeaaProg
import Derived.Deep.Slices
import Derived.ChangeSlices
import Derived.WalkKit
import Derived.SizedLaws
import Derived.Laws.BitsAllLaws
import Derived.Laws.Bits64b
import Derived.Laws.DeepNot64
namespace Go.Proofs.Ytndaikeeikimeaa
section
set_option linter.unusedVariables false
set_option linter.unusedSimpArgs false
open Go.RowKit
/-- A buffer that the call made behind the world w0; F: blocks that it has nothing to do with. -/
structure Oz (w0 W : World) (p : Nat) (S : OS) (F : Nat → Prop) : Prop where
  ok : S.ok
  bf : ∃ O, Of W w0.heap.size p O S ∧ ∀ b, F b → ¬ O b ∧ b < W.heap.size
  bl : Below w0.heap.size w0 W
section
variable {w0 W W' : World} {p : Nat} {S : OS} {F : Nat → Prop}
theorem Oz.below (h : Oz w0 W p S F) (k : Below W.heap.size W W') : Oz w0 W' p S F := by
  obtain ⟨O, h1, h2⟩ := h.bf
  exact ⟨h.ok, ⟨O, h1.below k, fun b hb => ⟨(h2 b hb).1, Nat.lt_of_lt_of_le (h2 b hb).2 k.size⟩⟩, h.bl.trans (k.mono h.bl.size)⟩
theorem Oz.drewN (h : Oz w0 W p S F) (n : Nat) : Oz w0 (W.drewN n) p S F := h.below ⟨rfl, rfl, rfl, Nat.le_refl _, fun _ _ => rfl⟩
theorem Oz.weak {F' : Nat → Prop} (h : Oz w0 W p S F) (hF : ∀ b, F' b → F b) : Oz w0 W p S F' := by
  obtain ⟨O, h1, h2⟩ := h.bf
  exact ⟨h.ok, ⟨O, h1, fun b hb => h2 b (hF b hb)⟩, h.bl⟩
/-- Blocks that came up later are none of its. -/
theorem Oz.fresh {F' : Nat → Prop} (h : Oz w0 W p S F) (k : Below W.heap.size W W') (hF : ∀ b, F' b → F b ∨ (W.heap.size ≤ b ∧ b < W'.heap.size)) : Oz w0 W' p S F' := by
  obtain ⟨O, h1, h2⟩ := h.bf
  refine ⟨h.ok, ⟨O, h1.below k, fun b hb => ?_⟩, h.bl.trans (k.mono h.bl.size)⟩
  rcases hF b hb with h' | ⟨h', h''⟩
  · exact ⟨(h2 b h').1, Nat.lt_of_lt_of_le (h2 b h').2 k.size⟩
  · exact ⟨fun e => by have := (h1.lt b e).2; omega, h''⟩
theorem oz_new (w0 : World) : Calls Try.prog 38 #[] w0 fun e w' => ∃ p, e = .returned (.pointer (some ⟨p, 0, none⟩)) ∧ Oz w0 w' p os0 (fun _ => False) :=
  (onew_any w0).mono fun e w' ⟨p, h1, ⟨O, h2⟩, h3⟩ => ⟨p, h1, os0_ok, ⟨O, h2, fun b hb => hb.elim⟩, h3⟩
end
end
section
set_option linter.unusedVariables false
set_option linter.unusedSimpArgs false
/-- Nothing is lost, the first are acknowledged, Finish was not called. -/
structure Fr (S : OS) (total base : Nat) : Prop where
  ok : S.ok
  len : S.bs.length = total
  ak : ∀ j, S.ak j = decide (j < base)
  ag : ∀ j, S.ag j = false
  ov : S.ov = false
  bg : base ≤ S.gn
section
variable {S : OS} {total base : Nat}
theorem Fr.le (h : Fr S total base) : base ≤ S.gn ∧ S.gn ≤ total := ⟨h.bg, by have := h.ok.gl; have := h.len; omega⟩
theorem Fr.first (h : Fr S total base) : firstO S = S.gn := runF_is (Nat.le_refl _) (fun j hj => by rw [h.ag]; rfl) fun hl => absurd hl (by omega)
theorem Fr.end_ (h : Fr S total base) : endO S = false := by unfold endO; rw [h.ov]; rfl
/-- What is not sent yet goes. -/
theorem Fr.next (h : Fr S total base) {limit : Nat} (hl : total ≤ limit) (most : Nat) : nextR S most limit = if min total (S.gn + most) = S.gn then ⟨0, 0, false, false⟩ else ⟨S.gn, min total (S.gn + most) - S.gn, false, true⟩ := by
  have hle := h.le
  unfold nextR fromO
  rw [h.first, if_neg (Nat.lt_irrefl _), h.end_, h.len]
  have e : max S.gn (min (min total limit) (S.gn + most)) = min total (S.gn + most) := by omega
  dsimp only
  rw [e]
  by_cases hc : min total (S.gn + most) = S.gn
  · rw [if_pos hc, if_pos hc.symm, if_neg (by simp)]
  · rw [if_neg hc, if_neg (fun k => hc k.symm)]
    simp
end
/-- A row of flags. -/
def tabB (f : Nat → Bool) (n : Nat) : List Bool := (List.range n).map f
theorem tabB_len (f : Nat → Bool) (n : Nat) : (tabB f n).length = n := by simp [tabB]
/-- The document's rows of flags keep what is acknowledged, what is to be sent again. -/
structure Rf (S : OS) (C A : List Bool) : Prop where
  c : C = tabB S.ak S.bs.length
  a : ∃ aw : Nat → Bool, A = tabB aw S.bs.length ∧ (∀ j, S.ag j = (aw j && !S.ak j)) ∧ ∀ j, aw j = true → j < S.gn
section
variable {S : OS} {C A : List Bool}
theorem Rf.len (r : Rf S C A) : C.length = S.bs.length ∧ A.length = S.bs.length := by
  obtain ⟨h1, aw, h2, _⟩ := r
  rw [h1, h2, tabB_len, tabB_len]
  exact ⟨rfl, rfl⟩
theorem Rf.lost (h1 : C = tabB S.ak S.bs.length) {aw : Nat → Bool} (h2 : A = tabB aw S.bs.length) (h3 : ∀ j, S.ag j = (aw j && !S.ak j)) (h4 : ∀ j, aw j = true → j < S.gn) (off n : Nat) (fin : Bool) : Rf (lostO S off n fin) C (tabB (fun j => aw j || inT S off n j) S.bs.length) := by
  refine ⟨h1, fun j => aw j || inT S off n j, rfl, fun j => ?_, fun j hj => ?_⟩
  · show (S.ag j || (inT S off n j && !S.ak j)) = ((aw j || inT S off n j) && !S.ak j)
    rw [h3]
    cases aw j <;> cases S.ak j <;> cases inT S off n j <;> rfl
  · rcases (Bool.or_eq_true _ _).mp hj with k | k
    · exact h4 j k
    · exact (inT_gn k).2.2
end
end
section
set_option linter.unusedVariables false
open Go.RowKit
theorem cell_lt {w : World} {b off : Nat} {v : Value} (h : w.cell? ⟨b, off, none⟩ = some v) : b < w.heap.size := by
  rcases Nat.lt_or_ge b w.heap.size with hlt | hge
  · exact hlt
  · have e : w.heap[b]? = none := Array.getElem?_eq_none hge
    simp [World.cell?, e] at h
end
section
set_option linter.unusedVariables false
open Go.RowKit Go.ChangeShapes Go.WideShapes Go.Deep
section
variable {H : Type} {enc : TypeId × Value → H} {P : Program} {w : World}
end
end
section
set_option linter.unusedVariables false
set_option linter.unusedSimpArgs false
open Go.RowKit Go.ChangeShapes Go.WideShapes Go.Deep
/-- A slice of signed numbers that can be read. -/
structure InN (w : World) (A : Option Addr) (n : Nat) (xs : List Int) : Prop where
  len : xs.length = n
  wd : ∀ x ∈ xs, -9223372036854775808 ≤ x ∧ x < 9223372036854775808
  at_ : 0 < n → ∃ b off, A = some ⟨b, off, none⟩ ∧ b < w.heap.size ∧ ∀ i x, xs[i]? = some x → w.cell? ⟨b, off + i, none⟩ = some (.int .i64 x)
theorem InN.below {w w' : World} {A : Option Addr} {n : Nat} {xs : List Int} (h : InN w A n xs) (k : Below w.heap.size w w') : InN w' A n xs := ⟨h.len, h.wd, fun hn => by
  obtain ⟨b, off, e, hb, hc⟩ := h.at_ hn
  exact ⟨b, off, e, Nat.lt_of_lt_of_le hb k.size, fun i x hi => (k.cell (p := ⟨b, _, none⟩) hb).trans (hc i x hi)⟩⟩
theorem InN.nil_ (w : World) (A : Option Addr) : InN w A 0 [] := ⟨rfl, fun x h => (by cases h), fun h => absurd h (by omega)⟩
end
section
set_option linter.unusedVariables false
set_option linter.unusedSimpArgs false
open Go.RowKit Go.ChangeShapes Go.WideShapes Go.Deep
/-- A slice of bools that can be read. -/
structure BoP (w : World) (A : Option Addr) (n : Nat) (bs : List Bool) : Prop where
  len : bs.length = n
  at_ : 0 < n → ∃ b off, A = some ⟨b, off, none⟩ ∧ b < w.heap.size ∧ ∀ i x, bs[i]? = some x → w.cell? ⟨b, off + i, none⟩ = some (.bool x)
theorem BoP.below {w w' : World} {A : Option Addr} {n : Nat} {bs : List Bool} (h : BoP w A n bs) (k : Below w.heap.size w w') : BoP w' A n bs := ⟨h.len, fun hn => by
  obtain ⟨b, off, e, hb, hc⟩ := h.at_ hn
  exact ⟨b, off, e, Nat.lt_of_lt_of_le hb k.size, fun i x hi => (k.cell (p := ⟨b, _, none⟩) hb).trans (hc i x hi)⟩⟩
section
variable {H : Type} {enc : TypeId × Value → H} {w : World}
end
end
section
set_option linter.unusedVariables false
open Go.RowKit
end
end Go.Proofs.Ytndaikeeikimeaa
