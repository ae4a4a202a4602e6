/-
  HeadTells: true at every input; the arguments read behind the call as they did. No condition beyond the given row's own.
-/
import Derived.Test.YtbioajgmceodhaaRows
import Derived.Test.YtbioajgmceodhaaHtells
import Derived.Below
import Derived.WalkKit
import Derived.ProofKit
import Derived.OpenShut
import Derived.ShutString
import Derived.ChangeOld
namespace Go.Proofs.Ytbioajgmceodhaa.headTells
open Go.ChangeShapes Go.WideShapes Go.ChangeAt Go.RowKit
set_option linter.unusedVariables false

theorem own : ownKnob Try.prog.godebug = none := by kernel_rfl
theorem laidOut : laidOutB Try.prog = true := by kernel_rfl

theorem walk (S0 T0 F0 X0 : Int) (A0 : Option Addr) (n0 c0 : Nat) (bs0 : List Int) (ph0 : Bool) (m1 : HN) (A1 : Option Addr) (n1 c1 : Nat) (bs1 : List Int) (a2 : Int) (A3 : Option Addr) (n3 c3 : Nat) (bs3 : List Int) (a4 : Int) (a5 : Int) (w : World) (w0 : XIn w S0 T0 F0 X0 A0 n0 c0 bs0) (w1 : HdIn w m1 A1 n1 c1 bs1) (w2 : (Lit.int .i64 a2).wf = true) (w3 : InRow w A3 n3 c3 bs3) (w4 : (Lit.int .i64 a4).wf = true) (w5 : (Lit.int .u8 a5).wf = true) :
    Calls Try.prog 3 #[.agg (xL S0 T0 F0 X0 ⟨A0, n0, c0⟩ ph0).toArray, .agg (hdL m1 ⟨A1, n1, c1⟩).toArray, .int .i64 a2, .slice A3 n3 c3, .int .i64 a4, .int .u8 a5] w fun e w' => e = .returned (.bool true) ∧ Below w.heap.size w w' := by
  exact htells_law S0 T0 F0 X0 A0 n0 c0 bs0 ph0 m1 A1 n1 c1 bs1 a2 A3 n3 c3 bs3 a4 a5 w w0 w1 w2 w3 w4 w5

set_option maxRecDepth 100000 in
theorem lifted (os : Os) (started : os.Started) (H : Type) (enc : TypeId × Value → H) :
    ReturnsInHanded {} Try.checked os 3 .any (Rows.headTellsSpec.pre6 enc Try.prog Try.f3 Rows.headTellsRow.domain false) (Rows.headTellsSpec.post enc Try.prog Try.f3 false true false false) := by
  refine returnsInHanded_of_change (C := Try.checked) own started (by kernel_rfl) Try.func3
    (ChangeSpec.witness6 (enc := enc) (C := Try.checked) false ⟨#[], #[.agg #[.int .i64 0, .int .i64 0, .int .i64 0, .int .i64 0, .slice none 0 0, .bool false], .agg #[.int .i64 0, .int .u8 0, .int .u8 0, .int .u8 0, .int .u8 0, .int .u8 0, .int .u8 0, .int .u8 0, .int .u8 0, .int .u8 0, .int .u8 0, .int .u8 0, .int .u8 0, .int .u8 0, .int .u8 0, .int .u8 0, .int .u8 0, .slice none 0 0, .int .i64 0, .bool false], .int .i64 0, .slice none 0 0, .int .i64 0, .int .u8 0], []⟩ 8 (by kernel_rfl) (by kernel_rfl) (by kernel_rfl) (by kernel_rfl)) ?_
  intro W base args ds gs before hval0 hW hcnd _
  have hval : ∀ (j : Nat) t v, Try.f3.params[j]? = some t → args[j]? = some v → Value.okWide Try.prog W .any base t v := hval0
  have hW' := hW
  obtain ⟨p, q, hA0, hV, rfl, hfz, hnd⟩ := hW
  have hA : DataW.TrodAll enc Try.prog W 0 (fun _ => true) true Try.f3.params.toList args.toList ds p := hA0
  rw [Try.params3] at hA hval
  obtain ⟨v0, vs0, d0, ds0, p0, q0, hargs, rfl, rfl, h0, r0⟩ := trodAll_cons hA
  obtain ⟨v1, vs1, d1, ds1, p1, q1, rfl, rfl, rfl, h1, r1⟩ := trodAll_cons r0
  obtain ⟨v2, vs2, d2, ds2, p2, q2, rfl, rfl, rfl, h2, r2⟩ := trodAll_cons r1
  obtain ⟨v3, vs3, d3, ds3, p3, q3, rfl, rfl, rfl, h3, r3⟩ := trodAll_cons r2
  obtain ⟨v4, vs4, d4, ds4, p4, q4, rfl, rfl, rfl, h4, r4⟩ := trodAll_cons r3
  obtain ⟨v5, vs5, d5, ds5, p5, q5, rfl, rfl, rfl, h5, r5⟩ := trodAll_cons r4
  obtain ⟨rfl, rfl, rfl⟩ := trodAll_nil r5
  obtain rfl : args = #[v0, v1, v2, v3, v4, v5] := by cases args; simp_all
  obtain ⟨rfl, rfl⟩ := trodVars_none hV
  obtain ⟨cs0, rfl, hcs0⟩ := okWide_struct Try.underlying24 (hval 0 24 v0 rfl rfl)
  have k0 := h0
  have lt0 : ∀ x ∈ p0, x.block < W.heap.size := by obtain ⟨m, hm⟩ := k0; exact DataW.trod_lt m _ _ _ hm
  obtain ⟨S0, T0, F0, X0, A0, n0, c0, bs0, ph0, e0, w0⟩ : ∃ S T F X A n c bs ph, cs0 = (xL S T F X ⟨A, n, c⟩ ph).toArray ∧ XIn W S T F X A n c bs := by
    obtain ⟨fuel, hf⟩ := h0
    have hl : (Value.agg cs0).cells.toList.length = 6 := by
      have e6 : Try.prog.cellsOf 24 = 6 := by kernel_rfl
      rw [e6] at hcs0
      simpa [Value.cells] using hcs0
    obtain ⟨S, T, F, X, A, n, c, bs, ph, hcs, hw⟩ := xh_of_trod hf hl
    exact ⟨S, T, F, X, A, n, c, bs, ph, by simpa [Value.cells] using congrArg List.toArray hcs, hw⟩
  subst e0
  obtain ⟨cs1, rfl, hcs1⟩ := okWide_struct Try.underlying28 (hval 1 28 v1 rfl rfl)
  have k1 := h1
  have lt1 : ∀ x ∈ p1, x.block < W.heap.size := by obtain ⟨m, hm⟩ := k1; exact DataW.trod_lt m _ _ _ hm
  obtain ⟨m1, A1, n1, c1, bs1, e1, w1⟩ : ∃ m A n c bs, cs1 = (hdL m ⟨A, n, c⟩).toArray ∧ HdIn W m A n c bs := by
    obtain ⟨fuel, hf⟩ := h1
    have hl : (Value.agg cs1).cells.toList.length = 20 := by
      have e6 : Try.prog.cellsOf 28 = 20 := by kernel_rfl
      rw [e6] at hcs1
      simpa [Value.cells] using hcs1
    obtain ⟨m, A, n, c, bs, hcs, hw⟩ := hd_of_trod hf hl
    exact ⟨m, A, n, c, bs, by simpa [Value.cells] using congrArg List.toArray hcs, hw⟩
  subst e1
  obtain ⟨a2, rfl, rfl, rfl, w2⟩ := open_int Try.underlying3 (hval 2 3 v2 rfl rfl) h2
  obtain ⟨A3, n3, c3, rfl⟩ := okWide_slice Try.underlying22 (hval 3 22 v3 rfl rfl)
  have k3 := h3
  have lt3 : ∀ x ∈ p3, x.block < W.heap.size := by obtain ⟨m, hm⟩ := k3; exact DataW.trod_lt m _ _ _ hm
  obtain ⟨bs3, w3⟩ : ∃ l, InRow W A3 n3 c3 l := by
    obtain ⟨fuel, hf⟩ := h3
    obtain ⟨B1, n1, c1, l1, hcs, hw⟩ := inRow_of_trod Try.underlying22 Try.underlying5 (by kernel_rfl) hf
    simp [Value.cells] at hcs
    obtain ⟨rfl, rfl, rfl⟩ := hcs
    exact ⟨l1, hw⟩
  obtain ⟨a4, rfl, rfl, rfl, w4⟩ := open_int Try.underlying3 (hval 4 3 v4 rfl rfl) h4
  obtain ⟨a5, rfl, rfl, rfl, w5⟩ := open_int Try.underlying5 (hval 5 5 v5 rfl rfl) h5
  clear hA0 hval0
  refine (walk S0 T0 F0 X0 A0 n0 c0 bs0 ph0 m1 A1 n1 c1 bs1 a2 A3 n3 c3 bs3 a4 a5 W w0 w1 w2 w3 w4 w5).mono fun e W' ⟨he, bel⟩ => ?_
  subst he
  exact ⟨_, rfl, _, _, _, [], _, [], hW', trodAll_mk1 (shut_bool Try.underlying4 _), (trodAll_cons_mk (Below.trod laidOut (by kernel_rfl) (of_decide_eq_true (by kernel_rfl)) k0 bel lt0) (trodAll_cons_mk (Below.trod laidOut (by kernel_rfl) (of_decide_eq_true (by kernel_rfl)) k1 bel lt1) (trodAll_cons_mk (shut_int Try.underlying3 w2) (trodAll_cons_mk (Below.trod laidOut (by kernel_rfl) (of_decide_eq_true (by kernel_rfl)) k3 bel lt3) (trodAll_cons_mk (shut_int Try.underlying3 w4) (trodAll_cons_mk (shut_int Try.underlying5 w5) trodAll_mk0)))))), rfl, bel.frame _, fun h => by cases h⟩

theorem over : Rows.headTellsRow.holds Try.pinned (OpenSpec.ofChange Rows.headTellsSpec) :=
  OpenClaim.holds_of_wide 3 Try.f3 rfl rfl rfl rfl rfl rfl rfl ⟨rfl, rfl, rfl, rfl, rfl⟩ rfl rfl rfl rfl rfl (by kernel_rfl) Try.func3 (by kernel_rfl)
    (of_decide_eq_true (by kernel_rfl)) (by unfold Func.isWrapper; first | (rw [if_pos (by decide +kernel)]; kernel_rfl) | (rw [if_neg (by decide +kernel)]; exact ⟨rfl, rfl⟩))
    (fun os started H enc _ => lifted os started H enc)

/-- The statement. -/
theorem proved : Rows.HeadTellsSaid := over
end Go.Proofs.Ytbioajgmceodhaa.headTells
