/-
  Text of both readers; Of of package octet.
-/
import Derived.Test.YtdakbedohjemeaaMq5
import Derived.Test.YtdakbedohjemeaaMq0
import Derived.Laws.CopyOwn
import Derived.Test.YtdakbedohjemeaaMq2
import Derived.IntWalk
namespace Go.Proofs.Ytdakbedohjemeaa
section
set_option linter.unusedVariables false
open Go.RowKit
set_option maxRecDepth 100000 in
theorem takeN_le (s : St) (n : Int) : (takeN s n).1.length ≤ s.1.length := by
  unfold takeN
  split
  · simp
  · simp
set_option maxRecDepth 100000 in
theorem varN_le (s : St) : (varN s).1.length ≤ s.1.length := by
  unfold varN
  split
  · simp
  · exact takeN_le _ _
set_option maxRecDepth 100000 in
theorem take_out (s : St) (x : Int) (h : (s.1.length : Int) < x) : takeR s x = [] ∧ takeN s x = ([], true) := by
  unfold takeR takeN
  rw [if_neg (by omega), if_neg (by omega)]; exact ⟨rfl, rfl⟩
set_option maxRecDepth 100000 in
theorem text_any (p : Nat) (T : TypeId) (P : Nat → Prop) (s : St) (w : World) (hr : Rdr w p T P s) (hP : ∀ b, P b → b ≠ p) (hl : s.1.length ≤ 140737488355000) :
    Calls Try.prog 90 #[.pointer (some ⟨p, 0, none⟩)] w (RawPost w p T P (textR s) (textN s)) := by
  have hbd := varR_bd s hr.byt
  have hvl := varN_le s
  have R1 := Lib.hid (show textR s = takeR (varN s) (varR s) from rfl)
  have R2 := Lib.hid (show textN s = takeN (varN s) (varR s) from rfl)
  go_enter Try.func90, Try.ntmps90
  go_wp2_with fail
  refine (var_any p T P s w hr hP).mono ?_
  rintro e w1 ⟨rfl, hr1, hk1⟩
  clear hr
  obtain ⟨x, hx⟩ : ∃ x, varR s = x := ⟨_, rfl⟩
  obtain ⟨s2, hs2⟩ : ∃ s2, varN s = s2 := ⟨_, rfl⟩
  rw [hx] at hbd R1 R2
  rw [hs2] at hr1 R1 R2 hvl
  rw [hx]
  clear hx hs2
  obtain ⟨hx0, hx1⟩ := hbd
  have HR := Lib.hid hr1
  obtain ⟨A, m, c, hA, hmc, hc, hAc, hrd, hbad⟩ := hr1
  have hc' := hc
  unfold maxLen at hc'
  have hlen := hrd.len
  have c0 := hA.cell 0
  have hto := take_out s2 x
  rw [hlen] at hvl hto
  have H := Lib.hid hA; clear hA hbad
  have HL := Lib.hid hlen; clear hlen
  rcases Int.lt_or_le (m : Int) x with hlt | hge
  · have T1 := Lib.hid (hto hlt)
    clear hto
    go_wp2_with fail
    refine (spoil_any p T _ _ w1 H.out).mono ?_
    rintro e w2 ⟨rfl, hA', hk'⟩
    go_wp2_with fail
    go_ret
    exact ⟨_, rfl, by rw [R1.out, T1.out.1]; exact Own.none_ _ _ _, by rw [R2.out, T1.out.2]; exact Rdr.of_spoil hA', hk1.trans hk'⟩
  · clear hto
    go_wp2_with fail
    refine (raw_any p T P s2 x w1 HR.out hP (by rw [HL.out]; omega)).mono ?_
    rintro e w2 ⟨v, rfl, hown, hr', hk'⟩
    go_wp2_with fail
    go_ret
    exact ⟨_, rfl, by rw [R1.out]; exact hown.base_ hk1.size, by rw [R2.out]; exact hr', hk1.trans hk'⟩
set_option maxRecDepth 100000 in
theorem of_any (A : Option Addr) (n c : Nat) (bs : List Int) (w : World) (hr : Rd w w.heap.size A n bs) (hc : n ≤ 140737488355000) (hA : A = none → c = 0) :
    Calls Try.prog 55 #[.slice A n c] w fun e w' => ∃ p, e = .returned (.pointer (some ⟨p, 0, none⟩)) ∧ w.heap.size ≤ p ∧
      Rdr w' p 108 (fun b => w.heap.size ≤ b ∧ b < p) (bs, false) ∧ Below w.heap.size w w' := by
  have HL := Lib.hid hr.1
  go_enter Try.func55, Try.ntmps55
  go_wp2_with fail
  refine (clone_any A n c bs w hr hc hA).mono ?_
  rintro e w1 ⟨v, rfl, hown, hb⟩
  have hsz := hb.size
  obtain ⟨A', c', rfl, h1, h2, h3⟩ := hown.open_n n HL.out
  have hAc : A' = none → c' = 0 := by
    intro h
    subst h
    rcases hown.1.2 with ⟨h, _⟩ | ⟨g, cap, cur, h, _⟩
    · injection h
    · injection h with h; cases h
  have hP := (hown.rdP HL.out).mono (P' := fun b => w.heap.size ≤ b ∧ b < w1.heap.size) (fun b hb' e => ⟨(hown.block_lt b e).1, hb'⟩)
  go_wp2_with fail
  go_ret
  refine ⟨_, rfl, hsz, ⟨A', n, c', At.new w1 _ _, h1, h2, hAc, hP.kept ((Kept.refl (fun _ => False) _).alloc _) (fun _ _ h => h), fun h => by cases h⟩, hb.alloc hsz _⟩
end
section
set_option linter.unusedVariables false
set_option linter.unusedSimpArgs false
open Go.RowKit
theorem Rdr.mono {w : World} {p : Nat} {T : TypeId} {P P' : Nat → Prop} {s : St} (h : Rdr w p T P s) (hp : ∀ b, b < w.heap.size → P b → P' b) : Rdr w p T P' s := by
  obtain ⟨A, n, c, h1, h2, h3, h4, h5, h6⟩ := h
  exact ⟨A, n, c, h1, h2, h3, h4, h5.mono hp, h6⟩
theorem cid_info : (Try.prog.info? 24).map (·.size) = some 8 := by kernel_rfl
end
section
set_option linter.unusedVariables false
set_option linter.unusedSimpArgs false
open Go.RowKit Go.ChangeShapes Go.WideShapes Go.Deep
/-- Params' numbers: Idle, MaxData, MaxStreamData, MaxStreams, First. -/
structure PN where
  i : Int
  d : Int
  s : Int
  m : Int
  c : N8
def PN.zero : PN := ⟨0, 0, 0, 0, .zero⟩
def pmL (p : PN) : List Value := [.int .u64 p.i, .int .u64 p.d, .int .u64 p.s, .int .u64 p.m,
  .int .u8 p.c.a0, .int .u8 p.c.a1, .int .u8 p.c.a2, .int .u8 p.c.a3, .int .u8 p.c.a4, .int .u8 p.c.a5, .int .u8 p.c.a6, .int .u8 p.c.a7]
def pmV (p : PN) : Value := .agg (pmL p).toArray
structure PN.wf (p : PN) : Prop where
  i0 : 0 ≤ p.i
  i1 : p.i < 18446744073709551616
  d0 : 0 ≤ p.d
  d1 : p.d < 18446744073709551616
  s0 : 0 ≤ p.s
  s1 : p.s < 18446744073709551616
  m0 : 0 ≤ p.m
  m1 : p.m < 18446744073709551616
  cb : Byt p.c.l
theorem pm_info : (Try.prog.info? 26).map (·.size) = some 12 := by kernel_rfl
theorem PN.wf_zero : PN.zero.wf := ⟨by decide, by decide, by decide, by decide, by decide, by decide, by decide, by decide, by
  intro x hx
  simp only [PN.zero, N8.zero, N8.l, List.mem_cons, List.not_mem_nil, or_false, or_self] at hx
  omega⟩
/-- May they be? -/
def prightB (p : PN) : Bool := decide (p.i ≤ 1073741824 ∧ p.m ≤ 1048576 ∧ p.d ≤ 1099511627776 ∧ p.s ≤ 1099511627776)
set_option maxRecDepth 100000 in
set_option maxHeartbeats 1600000 in
theorem pright_any (p : PN) (w : World) : Calls Try.prog 66 #[pmV p] w (FrPost (.bool (prightB p)) w) := by
  obtain ⟨i, d, s, m, c0, c1, c2, c3, c4, c5, c6, c7⟩ := p
  have hb : Below w.heap.size w (w.alloc (.cells (pmL ⟨i, d, s, m, c0, c1, c2, c3, c4, c5, c6, c7⟩).toArray 26)) := (Below.refl _ _).alloc (Nat.le_refl _) _
  have hg : prightB ⟨i, d, s, m, c0, c1, c2, c3, c4, c5, c6, c7⟩ = decide (i ≤ 1073741824 ∧ m ≤ 1048576 ∧ d ≤ 1099511627776 ∧ s ≤ 1099511627776) := rfl
  obtain ⟨G, hG⟩ : ∃ G, prightB ⟨i, d, s, m, c0, c1, c2, c3, c4, c5, c6, c7⟩ = G := ⟨_, rfl⟩
  rw [hG] at hg ⊢
  clear hG
  simp only [pmV, pmL] at hb ⊢
  have HB := Lib.hid hb; clear hb
  have hc : (1073741824 < i) ∨ (i ≤ 1073741824 ∧ 1048576 < m) ∨ (i ≤ 1073741824 ∧ m ≤ 1048576 ∧ 1099511627776 < d) ∨ (i ≤ 1073741824 ∧ m ≤ 1048576 ∧ d ≤ 1099511627776 ∧ 1099511627776 < s) ∨ (i ≤ 1073741824 ∧ m ≤ 1048576 ∧ d ≤ 1099511627776 ∧ s ≤ 1099511627776) := by omega
  rcases hc with h0 | ⟨h0, h1⟩ | ⟨h0, h1, h2⟩ | ⟨h0, h1, h2, h3⟩ | ⟨h0, h1, h2, h3⟩
  · have HF := Lib.hid (show G = false by rw [hg]; simp; omega)
    clear hg
    go_enter Try.func66, Try.ntmps66
    go_wp2
    go_ret
    exact ⟨by rw [HF.out]; first | rfl | (simp; omega), HB.out⟩
  · have HF := Lib.hid (show G = false by rw [hg]; simp; omega)
    clear hg
    go_enter Try.func66, Try.ntmps66
    go_wp2
    go_ret
    exact ⟨by rw [HF.out]; first | rfl | (simp; omega), HB.out⟩
  · have HF := Lib.hid (show G = false by rw [hg]; simp; omega)
    clear hg
    go_enter Try.func66, Try.ntmps66
    go_wp2
    go_ret
    exact ⟨by rw [HF.out]; first | rfl | (simp; omega), HB.out⟩
  · have HF := Lib.hid (show G = false by rw [hg]; simp; omega)
    clear hg
    go_enter Try.func66, Try.ntmps66
    go_wp2
    go_ret
    exact ⟨by rw [HF.out]; first | rfl | (simp; omega), HB.out⟩
  · have HF := Lib.hid (show G = true by rw [hg]; simp; omega)
    clear hg
    go_enter Try.func66, Try.ntmps66
    go_wp2
    go_ret
    exact ⟨by rw [HF.out]; first | rfl | (simp; omega), HB.out⟩
set_option maxRecDepth 100000 in
set_option maxHeartbeats 1600000 in
theorem rpright_any (p : PN) (w : World) : Calls Try.prog 22 #[pmV p] w (FrPost (.bool (prightB p)) w) := by
  obtain ⟨i, d, s, m, c0, c1, c2, c3, c4, c5, c6, c7⟩ := p
  have hb : Below w.heap.size w (w.alloc (.cells (pmL ⟨i, d, s, m, c0, c1, c2, c3, c4, c5, c6, c7⟩).toArray 26)) := (Below.refl _ _).alloc (Nat.le_refl _) _
  have hg : prightB ⟨i, d, s, m, c0, c1, c2, c3, c4, c5, c6, c7⟩ = decide (i ≤ 1073741824 ∧ m ≤ 1048576 ∧ d ≤ 1099511627776 ∧ s ≤ 1099511627776) := rfl
  obtain ⟨G, hG⟩ : ∃ G, prightB ⟨i, d, s, m, c0, c1, c2, c3, c4, c5, c6, c7⟩ = G := ⟨_, rfl⟩
  rw [hG] at hg ⊢
  clear hG
  simp only [pmV, pmL] at hb ⊢
  have HB := Lib.hid hb; clear hb
  have hc : (1099511627776 < d) ∨ (d ≤ 1099511627776 ∧ 1099511627776 < s) ∨ (d ≤ 1099511627776 ∧ s ≤ 1099511627776 ∧ 1048576 < m) ∨ (d ≤ 1099511627776 ∧ s ≤ 1099511627776 ∧ m ≤ 1048576 ∧ 1073741824 < i) ∨ (d ≤ 1099511627776 ∧ s ≤ 1099511627776 ∧ m ≤ 1048576 ∧ i ≤ 1073741824) := by omega
  rcases hc with h0 | ⟨h0, h1⟩ | ⟨h0, h1, h2⟩ | ⟨h0, h1, h2, h3⟩ | ⟨h0, h1, h2, h3⟩
  · have HF := Lib.hid (show G = false by rw [hg]; simp; omega)
    clear hg
    go_enter Try.func22, Try.ntmps22
    go_wp2
    go_ret
    exact ⟨by rw [HF.out]; first | rfl | (simp; omega), HB.out⟩
  · have HF := Lib.hid (show G = false by rw [hg]; simp; omega)
    clear hg
    go_enter Try.func22, Try.ntmps22
    go_wp2
    go_ret
    exact ⟨by rw [HF.out]; first | rfl | (simp; omega), HB.out⟩
  · have HF := Lib.hid (show G = false by rw [hg]; simp; omega)
    clear hg
    go_enter Try.func22, Try.ntmps22
    go_wp2
    go_ret
    exact ⟨by rw [HF.out]; first | rfl | (simp; omega), HB.out⟩
  · have HF := Lib.hid (show G = false by rw [hg]; simp; omega)
    clear hg
    go_enter Try.func22, Try.ntmps22
    go_wp2
    go_ret
    exact ⟨by rw [HF.out]; first | rfl | (simp; omega), HB.out⟩
  · have HF := Lib.hid (show G = true by rw [hg]; simp; omega)
    clear hg
    go_enter Try.func22, Try.ntmps22
    go_wp2
    go_ret
    exact ⟨by rw [HF.out]; first | rfl | (simp; omega), HB.out⟩
end
end Go.Proofs.Ytdakbedohjemeaa
