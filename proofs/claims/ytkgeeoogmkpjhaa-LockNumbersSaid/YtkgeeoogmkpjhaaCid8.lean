/-
  Eight bytes out of a reader, as a name.
-/
import Derived.Test.YtkgeeoogmkpjhaaRRdr3
import Derived.Test.YtkgeeoogmkpjhaaStru
import Derived.Laws.CopyOwn
namespace Go.Proofs.Ytkgeeoogmkpjhaa
set_option linter.unusedVariables false
set_option linter.unusedSimpArgs false
open Go.RowKit
/-- Eight bytes, zeros where they lack. -/
def cid8 (bs : List Int) : List Int := [bs.getD 0 0, bs.getD 1 0, bs.getD 2 0, bs.getD 3 0, bs.getD 4 0, bs.getD 5 0, bs.getD 6 0, bs.getD 7 0]
theorem takeR8 (s : St) : (takeR s 8).length = 8 ∨ takeR s 8 = [] := by
  unfold takeR
  split
  · left; simp; omega
  · right; rfl
theorem cid8_full (bs : List Int) (h : bs.length = 8) : cid8 bs = bs := by
  match bs, h with
  | [a, b, c, d, e, f, g, i], _ => rfl
def CidPost (w : World) (p : Nat) (T : TypeId) (P : Nat → Prop) (s : St) (e : Ending) (w' : World) : Prop :=
  e = .returned (.agg ((cid8 (takeR s 8)).map (Value.int .u8)).toArray) ∧ Rdr w' p T P (takeN s 8) ∧ Kept (· = p) w w'
theorem Kept.of_belowB {B : Nat} {w w' : World} (h : Below B w w') : Kept (fun j => B ≤ j) w w' := ⟨h.os, h.tape, h.output, h.size, fun j _ hn => h.block j (by omega)⟩
theorem Rdr.mono {w : World} {p : Nat} {T : TypeId} {P P' : Nat → Prop} {s : St} (h : Rdr w p T P s) (hp : ∀ b, b < w.heap.size → P b → P' b) : Rdr w p T P' s := by
  obtain ⟨A, n, c, h1, h2, h3, h4, h5, h6⟩ := h
  exact ⟨A, n, c, h1, h2, h3, h4, h5.mono hp, h6⟩
end Go.Proofs.Ytkgeeoogmkpjhaa
