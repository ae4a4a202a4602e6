/-
  Params as values: their numbers, the value that they make; may they be (param.Right, and the document's own).
-/
import Derived.Test.YthpcfcnkpipmnaaN8
import Derived.Test.YthpcfcnkpipmnaaCid8
import Derived.IntWalk
namespace Go.Proofs.Ythpcfcnkpipmnaa
set_option linter.unusedVariables false
set_option linter.unusedSimpArgs false
open Go.RowKit Go.ChangeShapes Go.WideShapes Go.Deep
/-- Params' numbers: Idle, MaxData, MaxStreamData, MaxStreams, First. -/
structure PN where
  i : Int
  d : Int
  s : Int
  m : Int
  c : N8
def PN.zero : PN := ⟨0, 0, 0, 0, .zero⟩
def pmL (p : PN) : List Value := [.int .u64 p.i, .int .u64 p.d, .int .u64 p.s, .int .u64 p.m,
  .int .u8 p.c.a0, .int .u8 p.c.a1, .int .u8 p.c.a2, .int .u8 p.c.a3, .int .u8 p.c.a4, .int .u8 p.c.a5, .int .u8 p.c.a6, .int .u8 p.c.a7]
def pmV (p : PN) : Value := .agg (pmL p).toArray
structure PN.wf (p : PN) : Prop where
  i0 : 0 ≤ p.i
  i1 : p.i < 18446744073709551616
  d0 : 0 ≤ p.d
  d1 : p.d < 18446744073709551616
  s0 : 0 ≤ p.s
  s1 : p.s < 18446744073709551616
  m0 : 0 ≤ p.m
  m1 : p.m < 18446744073709551616
  cb : Byt p.c.l
theorem pmL_len (p : PN) : (pmL p).length = 12 := rfl
theorem pm_info : (Try.prog.info? 26).map (·.size) = some 12 := by kernel_rfl
theorem PN.wf_zero : PN.zero.wf := ⟨by decide, by decide, by decide, by decide, by decide, by decide, by decide, by decide, by
  intro x hx
  simp only [PN.zero, N8.zero, N8.l, List.mem_cons, List.not_mem_nil, or_false, or_self] at hx
  omega⟩
/-- May they be? -/
def prightB (p : PN) : Bool := decide (p.i ≤ 1073741824 ∧ p.m ≤ 1048576 ∧ p.d ≤ 1099511627776 ∧ p.s ≤ 1099511627776)
set_option maxRecDepth 100000 in
set_option maxHeartbeats 1600000 in
theorem pright_any (p : PN) (w : World) : Calls Try.prog 17 #[pmV p] w (FrPost (.bool (prightB p)) w) := by
  obtain ⟨i, d, s, m, c0, c1, c2, c3, c4, c5, c6, c7⟩ := p
  have hb : Below w.heap.size w (w.alloc (.cells (pmL ⟨i, d, s, m, c0, c1, c2, c3, c4, c5, c6, c7⟩).toArray 26)) := (Below.refl _ _).alloc (Nat.le_refl _) _
  have hg : prightB ⟨i, d, s, m, c0, c1, c2, c3, c4, c5, c6, c7⟩ = decide (i ≤ 1073741824 ∧ m ≤ 1048576 ∧ d ≤ 1099511627776 ∧ s ≤ 1099511627776) := rfl
  obtain ⟨G, hG⟩ : ∃ G, prightB ⟨i, d, s, m, c0, c1, c2, c3, c4, c5, c6, c7⟩ = G := ⟨_, rfl⟩
  rw [hG] at hg ⊢
  clear hG
  simp only [pmV, pmL] at hb ⊢
  have HB := Lib.hid hb; clear hb
  have hc : (1073741824 < i) ∨ (i ≤ 1073741824 ∧ 1048576 < m) ∨ (i ≤ 1073741824 ∧ m ≤ 1048576 ∧ 1099511627776 < d) ∨ (i ≤ 1073741824 ∧ m ≤ 1048576 ∧ d ≤ 1099511627776 ∧ 1099511627776 < s) ∨ (i ≤ 1073741824 ∧ m ≤ 1048576 ∧ d ≤ 1099511627776 ∧ s ≤ 1099511627776) := by omega
  rcases hc with h0 | ⟨h0, h1⟩ | ⟨h0, h1, h2⟩ | ⟨h0, h1, h2, h3⟩ | ⟨h0, h1, h2, h3⟩
  · have HF := Lib.hid (show G = false by rw [hg]; simp; omega)
    clear hg
    go_enter Try.func17, Try.ntmps17
    go_wp2
    go_ret
    exact ⟨by rw [HF.out]; first | rfl | (simp; omega), HB.out⟩
  · have HF := Lib.hid (show G = false by rw [hg]; simp; omega)
    clear hg
    go_enter Try.func17, Try.ntmps17
    go_wp2
    go_ret
    exact ⟨by rw [HF.out]; first | rfl | (simp; omega), HB.out⟩
  · have HF := Lib.hid (show G = false by rw [hg]; simp; omega)
    clear hg
    go_enter Try.func17, Try.ntmps17
    go_wp2
    go_ret
    exact ⟨by rw [HF.out]; first | rfl | (simp; omega), HB.out⟩
  · have HF := Lib.hid (show G = false by rw [hg]; simp; omega)
    clear hg
    go_enter Try.func17, Try.ntmps17
    go_wp2
    go_ret
    exact ⟨by rw [HF.out]; first | rfl | (simp; omega), HB.out⟩
  · have HF := Lib.hid (show G = true by rw [hg]; simp; omega)
    clear hg
    go_enter Try.func17, Try.ntmps17
    go_wp2
    go_ret
    exact ⟨by rw [HF.out]; first | rfl | (simp; omega), HB.out⟩
set_option maxRecDepth 100000 in
set_option maxHeartbeats 1600000 in
theorem rpright_any (p : PN) (w : World) : Calls Try.prog 8 #[pmV p] w (FrPost (.bool (prightB p)) w) := by
  obtain ⟨i, d, s, m, c0, c1, c2, c3, c4, c5, c6, c7⟩ := p
  have hb : Below w.heap.size w (w.alloc (.cells (pmL ⟨i, d, s, m, c0, c1, c2, c3, c4, c5, c6, c7⟩).toArray 26)) := (Below.refl _ _).alloc (Nat.le_refl _) _
  have hg : prightB ⟨i, d, s, m, c0, c1, c2, c3, c4, c5, c6, c7⟩ = decide (i ≤ 1073741824 ∧ m ≤ 1048576 ∧ d ≤ 1099511627776 ∧ s ≤ 1099511627776) := rfl
  obtain ⟨G, hG⟩ : ∃ G, prightB ⟨i, d, s, m, c0, c1, c2, c3, c4, c5, c6, c7⟩ = G := ⟨_, rfl⟩
  rw [hG] at hg ⊢
  clear hG
  simp only [pmV, pmL] at hb ⊢
  have HB := Lib.hid hb; clear hb
  have hc : (1099511627776 < d) ∨ (d ≤ 1099511627776 ∧ 1099511627776 < s) ∨ (d ≤ 1099511627776 ∧ s ≤ 1099511627776 ∧ 1048576 < m) ∨ (d ≤ 1099511627776 ∧ s ≤ 1099511627776 ∧ m ≤ 1048576 ∧ 1073741824 < i) ∨ (d ≤ 1099511627776 ∧ s ≤ 1099511627776 ∧ m ≤ 1048576 ∧ i ≤ 1073741824) := by omega
  rcases hc with h0 | ⟨h0, h1⟩ | ⟨h0, h1, h2⟩ | ⟨h0, h1, h2, h3⟩ | ⟨h0, h1, h2, h3⟩
  · have HF := Lib.hid (show G = false by rw [hg]; simp; omega)
    clear hg
    go_enter Try.func8, Try.ntmps8
    go_wp2
    go_ret
    exact ⟨by rw [HF.out]; first | rfl | (simp; omega), HB.out⟩
  · have HF := Lib.hid (show G = false by rw [hg]; simp; omega)
    clear hg
    go_enter Try.func8, Try.ntmps8
    go_wp2
    go_ret
    exact ⟨by rw [HF.out]; first | rfl | (simp; omega), HB.out⟩
  · have HF := Lib.hid (show G = false by rw [hg]; simp; omega)
    clear hg
    go_enter Try.func8, Try.ntmps8
    go_wp2
    go_ret
    exact ⟨by rw [HF.out]; first | rfl | (simp; omega), HB.out⟩
  · have HF := Lib.hid (show G = false by rw [hg]; simp; omega)
    clear hg
    go_enter Try.func8, Try.ntmps8
    go_wp2
    go_ret
    exact ⟨by rw [HF.out]; first | rfl | (simp; omega), HB.out⟩
  · have HF := Lib.hid (show G = true by rw [hg]; simp; omega)
    clear hg
    go_enter Try.func8, Try.ntmps8
    go_wp2
    go_ret
    exact ⟨by rw [HF.out]; first | rfl | (simp; omega), HB.out⟩
end Go.Proofs.Ythpcfcnkpipmnaa
