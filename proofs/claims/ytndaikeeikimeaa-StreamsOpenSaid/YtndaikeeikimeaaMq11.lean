/-
  outbuf.Buffer: Lost.
-/
import Derived.Test.YtndaikeeikimeaaMq10
import Derived.Deep.LoopGhost
import Derived.Deep.CutRange
import Derived.Test.YtndaikeeikimeaaMq9
import Derived.Test.YtndaikeeikimeaaProg
import Derived.Test.YtndaikeeikimeaaMq0
import Derived.ChangeKeysEq
namespace Go.Proofs.Ytndaikeeikimeaa
section
set_option linter.unusedVariables false
set_option linter.unusedSimpArgs false
open Go.RowKit
/-- What Lost keeps while it adds gap by gap: r stands at block g. -/
structure Lz (w wr : World) (base p pa pl : Nat) (va vl vw : Value) (la : RL) (S : OS) (lo f hi g : Nat) : Prop where
  om : ∃ vl' l, Om wr base p pa pl va vl' vw la l (S.bs.drop (baseO S)) (baseO S) S.gn S.ov (endO S) S.en S.ea ∧ Gd l ∧ Says l (lostT S lo f) ∧ ∀ j, oO p pa pl va vl' vw j → j ≠ g ∧ (oO p pa pl va vl vw j ∨ w.heap.size ≤ j)
  k : Kept (oO p pa pl va vl vw) w wr
  r : At wr g 105 [.int .u64 f, .int .u64 hi]
  ge : w.heap.size ≤ g
theorem Lz.below {w wr wr' : World} {base p pa pl : Nat} {va vl vw : Value} {la : RL} {S : OS} {lo f hi g : Nat} (h : Lz w wr base p pa pl va vl vw la S lo f hi g) (k : Below wr.heap.size wr wr') : Lz w wr' base p pa pl va vl vw la S lo f hi g := by
  obtain ⟨vl', l, h1, h2, h3, h4⟩ := h.om
  exact ⟨⟨vl', l, h1.below k, h2, h3, h4⟩, h.k.trans (Kept.of_below k _), h.r.below k h.r.lt, h.ge⟩
end
section
set_option linter.unusedVariables false
open Go.RowKit
end
end Go.Proofs.Ytndaikeeikimeaa
