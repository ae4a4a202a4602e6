/-
  The document's own reader (narthexref2) answers what package octet's does; Two and Text and Of of package octet.
-/
import Derived.Test.YtkgeeoogmkpjhaaRdr
import Derived.Test.YtkgeeoogmkpjhaaRefGet
namespace Go.Proofs.Ytkgeeoogmkpjhaa
set_option linter.unusedVariables false
open Go.RowKit
set_option maxRecDepth 100000 in
theorem Rdr.drewN {w : World} {p : Nat} {T : TypeId} {P : Nat → Prop} {s : St} (h : Rdr w p T P s) (n : Nat) : Rdr (w.drewN n) p T P s := h.kept ((Kept.refl (fun _ => False) w).drewN n) (fun h => h) (fun _ _ h => h)
set_option maxRecDepth 100000 in
theorem or_u16 (x y : Int) (hx0 : 0 ≤ x) (hx1 : x < 256) (hy0 : 0 ≤ y) (hy1 : y < 256) : bits BinOp.or IntKind.u16 (x * 256) y = x * 256 + y := by
  rw [u16_or _ _ (by omega) (by omega) hy0 (by omega), nat_join 8 _ _ (by omega) (by omega)]; omega
set_option maxRecDepth 100000 in
theorem takeR2 (s : St) : (takeR s 2).length = 2 ∨ (takeR s 2).length = 0 := by
  unfold takeR; split <;> simp; omega
end Go.Proofs.Ytkgeeoogmkpjhaa
