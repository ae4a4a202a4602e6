/-
  PacketBack: true at every input; the arguments read behind the call as they did. No condition beyond the given row's own.
-/
import Derived.Test.YtijjiifekilapaaRows
import Derived.Test.YtijjiifekilapaaJq
import Derived.Below
import Derived.WalkKit
import Derived.ProofKit
import Derived.OpenShut
import Derived.ShutString
import Derived.ChangeOld
namespace Go.Proofs.Ytijjiifekilapaa.packetBack
open Go.ChangeShapes Go.WideShapes Go.ChangeAt Go.RowKit
set_option linter.unusedVariables false

theorem own : ownKnob Try.prog.godebug = none := by kernel_rfl
theorem laidOut : laidOutB Try.prog = true := by kernel_rfl

theorem walk (a0 : Int) (S1 T1 F1 X1 : Int) (A1 : Option Addr) (n1 c1 : Nat) (bs1 : List Int) (ph1 : Bool) (S2 T2 F2 X2 : Int) (A2 : Option Addr) (n2 c2 : Nat) (bs2 : List Int) (ph2 : Bool) (a3 : Int) (A4 : Option Addr) (n4 c4 : Nat) (bs4 : List Int) (w : World) (w0 : (Lit.int .u64 a0).wf = true) (w1 : XIn w S1 T1 F1 X1 A1 n1 c1 bs1) (w2 : XIn w S2 T2 F2 X2 A2 n2 c2 bs2) (w3 : (Lit.int .u64 a3).wf = true) (w4 : InRow w A4 n4 c4 bs4) :
    Calls Try.prog 4 #[.int .u64 a0, .agg (xL S1 T1 F1 X1 ⟨A1, n1, c1⟩ ph1).toArray, .agg (xL S2 T2 F2 X2 ⟨A2, n2, c2⟩ ph2).toArray, .int .u64 a3, .slice A4 n4 c4] w fun e w' => e = .returned (.bool true) ∧ Below w.heap.size w w' := by
  exact pback9_law a0 S1 T1 F1 X1 A1 n1 c1 bs1 ph1 S2 T2 F2 X2 A2 n2 c2 bs2 ph2 a3 A4 n4 c4 bs4 w w0 w1 w2 w3 w4

set_option maxRecDepth 100000 in
theorem lifted (os : Os) (started : os.Started) (H : Type) (enc : TypeId × Value → H) :
    ReturnsInHanded {} Try.checked os 4 .any (Rows.packetBackSpec.pre6 enc Try.prog Try.f4 Rows.packetBackRow.domain false) (Rows.packetBackSpec.post enc Try.prog Try.f4 false true false false) := by
  refine returnsInHanded_of_change (C := Try.checked) own started (by kernel_rfl) Try.func4
    (ChangeSpec.witness6 (enc := enc) (C := Try.checked) false ⟨#[], #[.int .u64 0, .agg #[.int .i64 0, .int .i64 0, .int .i64 0, .int .i64 0, .slice none 0 0, .bool false], .agg #[.int .i64 0, .int .i64 0, .int .i64 0, .int .i64 0, .slice none 0 0, .bool false], .int .u64 0, .slice none 0 0], []⟩ 8 (by kernel_rfl) (by kernel_rfl) (by kernel_rfl) (by kernel_rfl)) ?_
  intro W base args ds gs before hval0 hW hcnd _
  have hval : ∀ (j : Nat) t v, Try.f4.params[j]? = some t → args[j]? = some v → Value.okWide Try.prog W .any base t v := hval0
  have hW' := hW
  obtain ⟨p, q, hA0, hV, rfl, hfz, hnd⟩ := hW
  have hA : DataW.TrodAll enc Try.prog W 0 (fun _ => true) true Try.f4.params.toList args.toList ds p := hA0
  rw [Try.params4] at hA hval
  obtain ⟨v0, vs0, d0, ds0, p0, q0, hargs, rfl, rfl, h0, r0⟩ := trodAll_cons hA
  obtain ⟨v1, vs1, d1, ds1, p1, q1, rfl, rfl, rfl, h1, r1⟩ := trodAll_cons r0
  obtain ⟨v2, vs2, d2, ds2, p2, q2, rfl, rfl, rfl, h2, r2⟩ := trodAll_cons r1
  obtain ⟨v3, vs3, d3, ds3, p3, q3, rfl, rfl, rfl, h3, r3⟩ := trodAll_cons r2
  obtain ⟨v4, vs4, d4, ds4, p4, q4, rfl, rfl, rfl, h4, r4⟩ := trodAll_cons r3
  obtain ⟨rfl, rfl, rfl⟩ := trodAll_nil r4
  obtain rfl : args = #[v0, v1, v2, v3, v4] := by cases args; simp_all
  obtain ⟨rfl, rfl⟩ := trodVars_none hV
  obtain ⟨a0, rfl, rfl, rfl, w0⟩ := open_int Try.underlying22 (hval 0 22 v0 rfl rfl) h0
  obtain ⟨cs1, rfl, hcs1⟩ := okWide_struct Try.underlying39 (hval 1 39 v1 rfl rfl)
  have k1 := h1
  have lt1 : ∀ x ∈ p1, x.block < W.heap.size := by obtain ⟨m, hm⟩ := k1; exact DataW.trod_lt m _ _ _ hm
  obtain ⟨S1, T1, F1, X1, A1, n1, c1, bs1, ph1, e1, w1⟩ : ∃ S T F X A n c bs ph, cs1 = (xL S T F X ⟨A, n, c⟩ ph).toArray ∧ XIn W S T F X A n c bs := by
    obtain ⟨fuel, hf⟩ := h1
    have hl : (Value.agg cs1).cells.toList.length = 6 := by
      have e6 : Try.prog.cellsOf 39 = 6 := by kernel_rfl
      rw [e6] at hcs1
      simpa [Value.cells] using hcs1
    obtain ⟨S, T, F, X, A, n, c, bs, ph, hcs, hw⟩ := xh_of_trod hf hl
    exact ⟨S, T, F, X, A, n, c, bs, ph, by simpa [Value.cells] using congrArg List.toArray hcs, hw⟩
  subst e1
  obtain ⟨cs2, rfl, hcs2⟩ := okWide_struct Try.underlying39 (hval 2 39 v2 rfl rfl)
  have k2 := h2
  have lt2 : ∀ x ∈ p2, x.block < W.heap.size := by obtain ⟨m, hm⟩ := k2; exact DataW.trod_lt m _ _ _ hm
  obtain ⟨S2, T2, F2, X2, A2, n2, c2, bs2, ph2, e2, w2⟩ : ∃ S T F X A n c bs ph, cs2 = (xL S T F X ⟨A, n, c⟩ ph).toArray ∧ XIn W S T F X A n c bs := by
    obtain ⟨fuel, hf⟩ := h2
    have hl : (Value.agg cs2).cells.toList.length = 6 := by
      have e6 : Try.prog.cellsOf 39 = 6 := by kernel_rfl
      rw [e6] at hcs2
      simpa [Value.cells] using hcs2
    obtain ⟨S, T, F, X, A, n, c, bs, ph, hcs, hw⟩ := xh_of_trod hf hl
    exact ⟨S, T, F, X, A, n, c, bs, ph, by simpa [Value.cells] using congrArg List.toArray hcs, hw⟩
  subst e2
  obtain ⟨a3, rfl, rfl, rfl, w3⟩ := open_int Try.underlying22 (hval 3 22 v3 rfl rfl) h3
  obtain ⟨A4, n4, c4, rfl⟩ := okWide_slice Try.underlying28 (hval 4 28 v4 rfl rfl)
  have k4 := h4
  have lt4 : ∀ x ∈ p4, x.block < W.heap.size := by obtain ⟨m, hm⟩ := k4; exact DataW.trod_lt m _ _ _ hm
  obtain ⟨bs4, w4⟩ : ∃ l, InRow W A4 n4 c4 l := by
    obtain ⟨fuel, hf⟩ := h4
    obtain ⟨B1, n1, c1, l1, hcs, hw⟩ := inRow_of_trod Try.underlying28 Try.underlying5 (by kernel_rfl) hf
    simp [Value.cells] at hcs
    obtain ⟨rfl, rfl, rfl⟩ := hcs
    exact ⟨l1, hw⟩
  clear hA0 hval0
  refine (walk a0 S1 T1 F1 X1 A1 n1 c1 bs1 ph1 S2 T2 F2 X2 A2 n2 c2 bs2 ph2 a3 A4 n4 c4 bs4 W w0 w1 w2 w3 w4).mono fun e W' ⟨he, bel⟩ => ?_
  subst he
  exact ⟨_, rfl, _, _, _, [], _, [], hW', trodAll_mk1 (shut_bool Try.underlying4 _), (trodAll_cons_mk (shut_int Try.underlying22 w0) (trodAll_cons_mk (Below.trod laidOut (by kernel_rfl) (of_decide_eq_true (by kernel_rfl)) k1 bel lt1) (trodAll_cons_mk (Below.trod laidOut (by kernel_rfl) (of_decide_eq_true (by kernel_rfl)) k2 bel lt2) (trodAll_cons_mk (shut_int Try.underlying22 w3) (trodAll_cons_mk (Below.trod laidOut (by kernel_rfl) (of_decide_eq_true (by kernel_rfl)) k4 bel lt4) trodAll_mk0))))), rfl, bel.frame _, fun h => by cases h⟩

theorem over : Rows.packetBackRow.holds Try.pinned (OpenSpec.ofChange Rows.packetBackSpec) :=
  OpenClaim.holds_of_wide 4 Try.f4 rfl rfl rfl rfl rfl rfl rfl ⟨rfl, rfl, rfl, rfl, rfl⟩ rfl rfl rfl rfl rfl (by kernel_rfl) Try.func4 (by kernel_rfl)
    (of_decide_eq_true (by kernel_rfl)) (by unfold Func.isWrapper; first | (rw [if_pos (by decide +kernel)]; kernel_rfl) | (rw [if_neg (by decide +kernel)]; exact ⟨rfl, rfl⟩))
    (fun os started H enc _ => lifted os started H enc)

/-- The statement. -/
theorem proved : Rows.PacketBackSaid := over
end Go.Proofs.Ytijjiifekilapaa.packetBack
