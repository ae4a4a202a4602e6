/-
  receiver.Receiver: Next.
-/
import Derived.Test.YtahalbmcijbbmaaKj
import Derived.Test.YtahalbmcijbbmaaEnc
import Derived.Test.YtahalbmcijbbmaaProg
import Derived.Test.YtahalbmcijbbmaaBytes
import Derived.ChangeKeysEq
namespace Go.Proofs.Ytahalbmcijbbmaa
section
set_option linter.unusedVariables false
set_option linter.unusedSimpArgs false
open Go.RowKit
section
variable {w w' w1 : World} {base p pb : Nat} {O Ob Ob' : Nat → Prop} {X X' : QS}
/-- What Next meets behind due: the frame's block, its own two. -/
structure NxW (w : World) (base p g g6 : Nat) (O : Nat → Prop) (X : QS) (LF : List Value) (W : World) : Prop where
  b : Below w.heap.size w W
  q : Qp W base p O X
  ag : At W g 46 (frL (FN.zero 0) .nil .nil)
  a6 : At W g6 46 LF
  g0 : w.heap.size ≤ g
  g1 : g ≠ g6
  g2 : w.heap.size ≤ g6
theorem NxW.below {g g6 : Nat} {LF : List Value} {W W' : World} (h : NxW w base p g g6 O X LF W) (k : Below W.heap.size W W') : NxW w base p g g6 O X LF W' :=
  ⟨h.b.trans (k.mono h.b.size), h.q.below k, h.ag.below k h.ag.lt, h.a6.below k h.a6.lt, h.g0, h.g1, h.g2⟩
/-- The frame's own block is stored last. -/
theorem NxW.fin {g g6 : Nat} {LF : List Value} {W W9 : World} (h : NxW w base p g g6 O X LF W) (hq : Qp w base p O X) (k : Kept (· = g) W W9) (r : Value) : QPost r base p O X w (.returned r) W9 :=
  hq.same (k.below h.b h.b.size fun j hj => by have := h.g0; omega) r
end
end
section
set_option linter.unusedVariables false
open Go.RowKit
theorem bb_refl (a : ByteArray) : (a == a) = true := by rw [beq_toListBytes]; simp
end
end Go.Proofs.Ytahalbmcijbbmaa
