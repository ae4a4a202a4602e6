/-
  Package octet's Writer: what each call writes behind whatever was written. Condition: fewer than 2^46 bytes in all.
-/
import Derived.Test.YtahalbmcijbbmaaRdr
import Derived.Test.YtahalbmcijbbmaaMq0
import Derived.Test.YtahalbmcijbbmaaRight2
namespace Go.Proofs.Ytahalbmcijbbmaa
section
set_option linter.unusedVariables false
open Go.RowKit
def Wtr (w : World) (base p : Nat) (T : TypeId) (v : Value) (bs : List Int) : Prop :=
  At w p T [v] ∧ base ≤ p ∧ Own w base 5 v bs ∧ v.ownBlock ≠ some p
/-- Only block p, and the row that it held, may have turned. -/
abbrev WS (p : Nat) (v : Value) : Nat → Prop := fun j => j = p ∨ v.ownBlock = some j
def WPost (r : Value) (w : World) (base p : Nat) (T : TypeId) (v : Value) (bs : List Int) (e : Ending) (w' : World) : Prop :=
  ∃ v', e = .returned r ∧ Wtr w' base p T v' bs ∧ (v'.ownBlock = v.ownBlock ∨ ∃ k, w.heap.size ≤ k ∧ v'.ownBlock = some k) ∧ Kept (WS p v) w w'
set_option maxRecDepth 100000 in
theorem Own.shape {w : World} {base : Nat} {e : TypeId} {v : Value} {bs : List Int} (h : Own w base e v bs) : ∃ A n c, v = .slice A n c := by
  obtain ⟨A, c, h, _⟩ := h.open_
  exact ⟨A, _, c, h⟩
set_option maxRecDepth 100000 in
/-- What append leaves, and the store behind it. -/
theorem Wtr.put {w w1 w2 : World} {base p : Nat} {T : TypeId} {v v' : Value} {bs bs' : List Int} (h : Wtr w base p T v bs) (hw1 : Below w.heap.size w w1) (hown : Own w2 base 5 v' bs') (hg : w1.grownBy w2 v.ownBlock)
    (hv : v'.ownBlock = v.ownBlock ∨ v'.ownBlock = some w1.heap.size) :
    Wtr (w2.setCell ⟨p, 0, none⟩ v') base p T v' bs' ∧ (v'.ownBlock = v.ownBlock ∨ ∃ k, w.heap.size ≤ k ∧ v'.ownBlock = some k) ∧ Kept (WS p v) w (w2.setCell ⟨p, 0, none⟩ v') ∧ w2.cell? ⟨p, 0, none⟩ = some v ∧ w2.frozen? ⟨p, 0, none⟩ = false := by
  obtain ⟨hA, hbp, ho, hne⟩ := h
  have hlt := hA.lt
  have hsz := hw1.size
  have k1 : Kept (WS p v) w w1 := Kept.of_below hw1 _
  have k2 : Kept (fun j => v.ownBlock = some j) w1 w2 := Kept.of_grown hg (fun k hk => .inl hk)
  have A1 : At w1 p T [v] := hA.below hw1 hlt
  have A2 : At w2 p T [v] := A1.kept k2 hne
  have hne' : v'.ownBlock ≠ some p := by
    rcases hv with h | h
    · rw [h]; exact hne
    · rw [h]; intro e; injection e; omega
  have kk : Kept (WS p v) w w2 := k1.trans' k2 fun j hj => .inl (.inr hj)
  refine ⟨⟨A2.set 0 v', hbp, hown.kept ((Kept.refl (· = p) _).setAt 0 v') (fun j hj e => hne' (by rw [hj, e])), hne'⟩, ?_, kk.setCell (.inl (.inl rfl)) _, A2.cell 0, A2.frozen 0⟩
  rcases hv with h | h
  · exact .inl h
  · exact .inr ⟨_, hsz, h⟩
set_option maxRecDepth 100000 in
theorem Wtr.kept {S : Nat → Prop} {w w' : World} {base p : Nat} {T : TypeId} {v : Value} {bs : List Int} (h : Wtr w base p T v bs) (k : Kept S w w') (hp : ¬ S p) (hs : ∀ j, v.ownBlock = some j → ¬ S j) : Wtr w' base p T v bs :=
  ⟨h.1.kept k hp, h.2.1, h.2.2.1.kept k hs, h.2.2.2⟩
set_option maxRecDepth 100000 in
/-- What a call does behind one that only made memory. -/
theorem WPost.after {r : Value} {w w1 : World} {base p : Nat} {T : TypeId} {v : Value} {bs : List Int} {e : Ending} {w' : World} (hb : Below w.heap.size w w1) (h : WPost r w1 base p T v bs e w') : WPost r w base p T v bs e w' := by
  obtain ⟨v', h1, h2, h3, h4⟩ := h
  have hs := hb.size
  refine ⟨v', h1, h2, ?_, (Kept.of_below hb _).trans h4⟩
  rcases h3 with h3 | ⟨k, hk, h3⟩
  · exact .inl h3
  · exact .inr ⟨k, by omega, h3⟩
end
section
set_option linter.unusedVariables false
open Go.RowKit
/-- What was written since w: the writer at p held v there, and holds v' in w'. -/
def WSt (w : World) (base p : Nat) (T : TypeId) (v v' : Value) (bs' : List Int) (w' : World) : Prop :=
  Wtr w' base p T v' bs' ∧ (v'.ownBlock = v.ownBlock ∨ ∃ k, w.heap.size ≤ k ∧ v'.ownBlock = some k) ∧ Kept (WS p v) w w'
section
variable {w w1 w2 : World} {base p : Nat} {T : TypeId} {v v1 r : Value} {bs bs1 bs2 : List Int} {e : Ending}
theorem WSt.refl (h : Wtr w base p T v bs) : WSt w base p T v v bs w := ⟨h, .inl rfl, Kept.refl _ _⟩
theorem WSt.step (h : WSt w base p T v v1 bs1 w1) (k : WPost r w1 base p T v1 bs2 e w2) : ∃ v2, e = .returned r ∧ WSt w base p T v v2 bs2 w2 := by
  obtain ⟨h1, h2, h3⟩ := h
  obtain ⟨v2, he, k1, k2, k3⟩ := k
  have hs := h3.size
  refine ⟨v2, he, k1, ?_, h3.trans' k3 fun j hj => ?_⟩
  · rcases k2 with k2 | ⟨i, hi, k2⟩
    · rcases h2 with h2 | ⟨i, hi, h2⟩
      · exact .inl (k2.trans h2)
      · exact .inr ⟨i, hi, k2.trans h2⟩
    · exact .inr ⟨i, by omega, k2⟩
  · rcases hj with hj | hj
    · exact .inl (.inl hj)
    · rcases h2 with h2 | ⟨i, hi, h2⟩
      · exact .inl (.inr (h2 ▸ hj))
      · rw [h2] at hj; injection hj with hj; omega
theorem WSt.below (h : WSt w base p T v v1 bs1 w1) (hb : Below w1.heap.size w1 w2) : WSt w base p T v v1 bs1 w2 := by
  obtain ⟨h1, h2, h3⟩ := h
  exact ⟨h1.kept (Kept.of_below hb (fun _ => False)) (fun h => h) (fun _ _ h => h), h2, h3.trans (Kept.of_below hb _)⟩
theorem WSt.alloc (h : WSt w base p T v v1 bs1 w1) (o : Obj) : WSt w base p T v v1 bs1 (w1.alloc o) := h.below ((Below.refl _ _).alloc (Nat.le_refl _) _)
theorem WSt.post (h : WSt w base p T v v1 bs1 w1) (r : Value) : WPost r w base p T v bs1 (.returned r) w1 := ⟨v1, rfl, h.1, h.2.1, h.2.2⟩
/-- What lay there, elsewhere than the writer, lies there still. -/
theorem WSt.apart (h : WSt w base p T v v1 bs1 w1) : Wtr w base p T v bs → ∀ j, j < w.heap.size → ¬ WS p v j → ¬ WS p v1 j := fun _ j hj hn hs => by
  rcases hs with hs | hs
  · exact hn (.inl hs)
  · rcases h.2.1 with h2 | ⟨i, hi, h2⟩
    · exact hn (.inr (h2 ▸ hs))
    · rw [h2] at hs; injection hs with hs; omega
end
/-- As WSt, but what the writer holds anew lies from block M on. -/
def WSx (w : World) (M base p : Nat) (T : TypeId) (v v' : Value) (bs' : List Int) (w' : World) : Prop :=
  Wtr w' base p T v' bs' ∧ (v'.ownBlock = v.ownBlock ∨ ∃ k, M ≤ k ∧ v'.ownBlock = some k) ∧ Kept (WS p v) w w' ∧ M ≤ w'.heap.size
section
variable {w w1 w2 : World} {M base p : Nat} {T : TypeId} {v v1 r : Value} {bs bs1 bs2 : List Int} {e : Ending}
theorem WSx.refl (h : Wtr w base p T v bs) (hb : Below w.heap.size w w1) : WSx w w1.heap.size base p T v v bs w1 := ⟨h.kept (Kept.of_below hb (fun _ => False)) (fun h => h) (fun _ _ h => h), .inl rfl, Kept.of_below hb _, Nat.le_refl _⟩
theorem WSx.step (h : WSx w M base p T v v1 bs1 w1) (hM : w.heap.size ≤ M) (k : WPost r w1 base p T v1 bs2 e w2) : ∃ v2, e = .returned r ∧ WSx w M base p T v v2 bs2 w2 ∧ Kept (WS p v1) w1 w2 := by
  obtain ⟨h1, h2, h3, h4⟩ := h
  obtain ⟨v2, he, k1, k2, k3⟩ := k
  have hs := k3.size
  refine ⟨v2, he, ⟨k1, ?_, h3.trans' k3 fun j hj => ?_, by omega⟩, k3⟩
  · rcases k2 with k2 | ⟨i, hi, k2⟩
    · rcases h2 with h2 | ⟨i, hi, h2⟩
      · exact .inl (k2.trans h2)
      · exact .inr ⟨i, hi, k2.trans h2⟩
    · exact .inr ⟨i, by omega, k2⟩
  · rcases hj with hj | hj
    · exact .inl (.inl hj)
    · rcases h2 with h2 | ⟨i, hi, h2⟩
      · exact .inl (.inr (h2 ▸ hj))
      · rw [h2] at hj; injection hj with hj; omega
theorem WSx.below (h : WSx w M base p T v v1 bs1 w1) (hb : Below w1.heap.size w1 w2) : WSx w M base p T v v1 bs1 w2 := by
  obtain ⟨h1, h2, h3, h4⟩ := h
  have := hb.size
  exact ⟨h1.kept (Kept.of_below hb (fun _ => False)) (fun h => h) (fun _ _ h => h), h2, h3.trans (Kept.of_below hb _), by omega⟩
theorem WSx.alloc (h : WSx w M base p T v v1 bs1 w1) (o : Obj) : WSx w M base p T v v1 bs1 (w1.alloc o) := h.below ((Below.refl _ _).alloc (Nat.le_refl _) _)
theorem WSx.apart (h : WSx w M base p T v v1 bs1 w1) {j : Nat} (hj : j < M) (hn : ¬ WS p v j) : ¬ WS p v1 j := fun hs => by
  rcases hs with hs | hs
  · exact hn (.inl hs)
  · rcases h.2.1 with h2 | ⟨i, hi, h2⟩
    · exact hn (.inr (h2 ▸ hs))
    · rw [h2] at hs; injection hs with hs; omega
theorem WSx.cell (h : WSx w M base p T v v1 bs1 w1) {g : Nat} (hg : w.heap.size ≤ g) (hgM : g < M) (hn : ¬ WS p v g) (j : Nat) (u : Value) : WSx w M base p T v v1 bs1 (w1.setCell ⟨g, j, none⟩ u) := by
  have ha := h.apart hgM hn
  obtain ⟨h1, h2, h3, h4⟩ := h
  refine ⟨h1.kept (S := (· = g)) ((Kept.refl _ _).setAt j u) (fun e => ha (.inl e.symm)) (fun i hi e => ha (.inr (e ▸ hi))), h2, h3.setCell (.inr hg) _, by simpa [World.setCell] using h4⟩
theorem WSx.post (h : WSx w M base p T v v1 bs1 w1) (hM : w.heap.size ≤ M) (r : Value) : WPost r w base p T v bs1 (.returned r) w1 := by
  refine ⟨v1, rfl, h.1, ?_, h.2.2.1⟩
  rcases h.2.1 with h2 | ⟨i, hi, h2⟩
  · exact .inl h2
  · exact .inr ⟨i, by omega, h2⟩
end
end
section
set_option linter.unusedVariables false
set_option linter.unusedSimpArgs false
open Go.RowKit
/-- The slice value with address A and n elements reads as the numbers xs, which are small, in a block that P allows. -/
def UsP (w : World) (P : Nat → Prop) (A : Option Addr) (n : Nat) (xs : List Int) : Prop :=
  xs.length = n ∧ (∀ x ∈ xs, 0 ≤ x ∧ x < 18446744073709551616) ∧ (0 < n → ∃ b off, A = some ⟨b, off, none⟩ ∧ b < w.heap.size ∧ P b ∧ ∀ i x, xs[i]? = some x → w.cell? ⟨b, off + i, none⟩ = some (.int .u64 x))
theorem UsP.kept {S P : Nat → Prop} {w w' : World} {n : Nat} {A : Option Addr} {xs : List Int} (h : UsP w P A n xs) (k : Kept S w w') (hs : ∀ b, P b → ¬ S b) : UsP w' P A n xs := by
  refine ⟨h.1, h.2.1, fun hn => ?_⟩
  obtain ⟨b, off, e, hb, hp, hc⟩ := h.2.2 hn
  refine ⟨b, off, e, Nat.lt_of_lt_of_le hb k.size, hp, fun i r hr => ?_⟩
  rw [k.cell (p := ⟨b, _, none⟩) hb (hs b hp)]
  exact hc i r hr
theorem UsP.new (w : World) (P : Nat → Prop) (T : TypeId) (xs : List Int) (hx : ∀ x ∈ xs, 0 ≤ x ∧ x < 18446744073709551616) (cs : Array Value) (hcs : cs = (xs.map (Value.int .u64)).toArray) (g : Nat) (hg : g = w.heap.size) (hP : P g) :
    UsP (w.alloc (.cells cs T)) P (some ⟨g, 0, none⟩) xs.length xs := by
  subst hcs; subst hg
  refine ⟨rfl, hx, fun _ => ⟨_, 0, rfl, by simp, hP, fun i x hi => ?_⟩⟩
  have := (At.new w T (xs.map (Value.int .u64))).cell i
  rw [Nat.zero_add, this, List.getElem?_map, hi]; rfl
end
end Go.Proofs.Ytahalbmcijbbmaa
