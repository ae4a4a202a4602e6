/-
  same: what package lock seals and derives is what the document's own does.
-/
import Derived.Test.YtehdilgnlhhjdaaMq14
namespace Go.Proofs.Ytehdilgnlhhjdaa
set_option linter.unusedVariables false
set_option linter.unusedSimpArgs false
open Go.RowKit Go.ChangeShapes Go.WideShapes Go.Deep
/-- What stays while same runs. -/
structure SmS (w : World) (g9 : Nat) (K1 K2 : Int) (Ah : Option Addr) (nh ch : Nat) (head : List Int) (Ab : Option Addr) (nb : Nat) (body : List Int) (T : ByteArray) (W : World) : Prop where
  b : Below w.heap.size w W
  a : At W g9 40 [.int .u64 K1, .int .u64 K2]
  rh : Rd W W.heap.size Ah nh head
  rb : Rd W W.heap.size Ab nb body
  t : (convert 28 9 (.slice Ah nh ch)).run Try.prog W = .ok (.string T) W
section
variable {w : World} {g9 : Nat} {K1 K2 : Int} {Ah : Option Addr} {nh ch : Nat} {head : List Int} {Ab : Option Addr} {nb : Nat} {body : List Int} {T : ByteArray} {W W' : World}
theorem SmS.mk' (hT : strOfNums head = T) (b : Below w.heap.size w W) (a : At W g9 40 [.int .u64 K1, .int .u64 K2]) (rh : Rd W W.heap.size Ah nh head) (rb : Rd W W.heap.size Ab nb body) : SmS w g9 K1 K2 Ah nh ch head Ab nb body T W :=
  ⟨b, a, rh, rb, by rw [← hT]; exact run_text (P := Try.prog) (c := ch) rh 28 5 9 Try.underlying28 Try.underlying5 Try.underlying9⟩
theorem SmS.below (hT : strOfNums head = T) (h : SmS w g9 K1 K2 Ah nh ch head Ab nb body T W) (k : Below W.heap.size W W') : SmS w g9 K1 K2 Ah nh ch head Ab nb body T W' :=
  .mk' hT (h.b.trans (k.mono h.b.size)) (h.a.below k h.a.lt) ((h.rh.below k).more k.size) ((h.rb.below k).more k.size)
theorem SmS.drew (h : SmS w g9 K1 K2 Ah nh ch head Ab nb body T W) (hT : strOfNums head = T) : SmS w g9 K1 K2 Ah nh ch head Ab nb body T W.drew := h.below hT (Below.refl _ _).drew
theorem SmS.c0 (h : SmS w g9 K1 K2 Ah nh ch head Ab nb body T W) : W.cell? ⟨g9, 0, none⟩ = some (.int .u64 K1) := by rw [h.a.cell]; rfl
theorem SmS.c1 (h : SmS w g9 K1 K2 Ah nh ch head Ab nb body T W) : W.cell? ⟨g9, 1, none⟩ = some (.int .u64 K2) := by rw [h.a.cell]; rfl
end
end Go.Proofs.Ytehdilgnlhhjdaa
