/-
  The document's own Same (narthexref4.Same).
-/
import Derived.Test.YtkahndjflhgccaaMe
import Derived.Test.YtkahndjflhgccaaEql
namespace Go.Proofs.Ytkahndjflhgccaa
set_option linter.unusedVariables false
set_option linter.unusedSimpArgs false
open Go.RowKit
/-- The same Kind, and what it asks. -/
def sameB (m m' : FN) (ds ds' : List Int) (rs rs' : RS) : Bool :=
  m.k == m'.k &&
  (if m.k = 2 then m.y == m'.y && decide (rs = rs')
  else if m.k = 4 then m.s == m'.s && (m.c == m'.c && m.f == m'.f)
  else if m.k = 5 then m.s == m'.s && m.c == m'.c
  else if m.k = 6 then m.o == m'.o && decide (ds = ds')
  else if m.k = 8 then m.s == m'.s && (m.o == m'.o && (decide (ds = ds') && m.fin == m'.fin))
  else if m.k = 16 then m.l == m'.l
  else if m.k = 18 then m.l == m'.l
  else if m.k = 20 then m.l == m'.l
  else if m.k = 17 then m.s == m'.s && m.l == m'.l
  else if m.k = 24 then m.q == m'.q && (m.l == m'.l && cidB m m')
  else if m.k = 25 then m.q == m'.q
  else if m.k = 26 then cidB m m'
  else if m.k = 27 then cidB m m'
  else if m.k = 28 then m.c == m'.c && decide (ds = ds')
  else true)
theorem sameB_refl (m : FN) (ds : List Int) (rs : RS) : sameB m m ds ds rs rs = true := by
  unfold sameB cidB
  simp
set_option maxRecDepth 100000 in
set_option maxHeartbeats 1600000 in
theorem rsame_ne (P : Nat → Prop) (k k' s o l c f q y c0 c1 c2 c3 c4 c5 c6 c7 s' o' l' c' f' q' y' c0' c1' c2' c3' c4' c5' c6' c7' : Int) (fin fin' : Bool) (d d' r r' : Sl) (ds ds' : List Int) (rs rs' : RS) (w : World)
    (hf : Fits w P ⟨k, s, o, fin, l, c, f, q, y, c0, c1, c2, c3, c4, c5, c6, c7⟩ d r ds rs) (hf' : Fits w P ⟨k', s', o', fin', l', c', f', q', y', c0', c1', c2', c3', c4', c5', c6', c7'⟩ d' r' ds' rs') (hk : (k != k') = true) :
    Calls Try.prog 10 #[frV ⟨k, s, o, fin, l, c, f, q, y, c0, c1, c2, c3, c4, c5, c6, c7⟩ d r, frV ⟨k', s', o', fin', l', c', f', q', y', c0', c1', c2', c3', c4', c5', c6', c7'⟩ d' r'] w (FrPost (.bool (sameB ⟨k, s, o, fin, l, c, f, q, y, c0, c1, c2, c3, c4, c5, c6, c7⟩ ⟨k', s', o', fin', l', c', f', q', y', c0', c1', c2', c3', c4', c5', c6', c7'⟩ ds ds' rs rs')) w) := by
  have hB : Below w.heap.size w ((w.alloc (.cells (frL ⟨k, s, o, fin, l, c, f, q, y, c0, c1, c2, c3, c4, c5, c6, c7⟩ d r).toArray 31)).alloc (.cells (frL ⟨k', s', o', fin', l', c', f', q', y', c0', c1', c2', c3', c4', c5', c6', c7'⟩ d' r').toArray 31)) := ((Below.refl _ _).alloc (Nat.le_refl _) _).alloc (by simp) _
  have HB := Lib.hid hB
  clear hB hf hf'
  obtain ⟨dA, dn, dc⟩ := d
  obtain ⟨rA, rn, rc⟩ := r
  obtain ⟨dA', dn', dc'⟩ := d'
  obtain ⟨rA', rn', rc'⟩ := r'
  simp only [frV, frL]
  have hv : sameB ⟨k, s, o, fin, l, c, f, q, y, c0, c1, c2, c3, c4, c5, c6, c7⟩ ⟨k', s', o', fin', l', c', f', q', y', c0', c1', c2', c3', c4', c5', c6', c7'⟩ ds ds' rs rs' = false := by unfold sameB; rw [show (k == k') = false by simpa [bne] using hk, Bool.false_and]
  have HV := Lib.hid hv
  clear hv
  go_enter Try.func10, Try.ntmps10
  go_wp2
  go_ret
  refine ⟨?_, HB.out⟩
  rw [HV.out]
  rfl
set_option maxRecDepth 100000 in
set_option maxHeartbeats 1600000 in
theorem rsame_0 (P : Nat → Prop) (s o l c f q y c0 c1 c2 c3 c4 c5 c6 c7 s' o' l' c' f' q' y' c0' c1' c2' c3' c4' c5' c6' c7' : Int) (fin fin' : Bool) (d d' r r' : Sl) (ds ds' : List Int) (rs rs' : RS) (w : World)
    (hf : Fits w P ⟨0, s, o, fin, l, c, f, q, y, c0, c1, c2, c3, c4, c5, c6, c7⟩ d r ds rs) (hf' : Fits w P ⟨0, s', o', fin', l', c', f', q', y', c0', c1', c2', c3', c4', c5', c6', c7'⟩ d' r' ds' rs') :
    Calls Try.prog 10 #[frV ⟨0, s, o, fin, l, c, f, q, y, c0, c1, c2, c3, c4, c5, c6, c7⟩ d r, frV ⟨0, s', o', fin', l', c', f', q', y', c0', c1', c2', c3', c4', c5', c6', c7'⟩ d' r'] w (FrPost (.bool (sameB ⟨0, s, o, fin, l, c, f, q, y, c0, c1, c2, c3, c4, c5, c6, c7⟩ ⟨0, s', o', fin', l', c', f', q', y', c0', c1', c2', c3', c4', c5', c6', c7'⟩ ds ds' rs rs')) w) := by
  have hB : Below w.heap.size w ((w.alloc (.cells (frL ⟨0, s, o, fin, l, c, f, q, y, c0, c1, c2, c3, c4, c5, c6, c7⟩ d r).toArray 31)).alloc (.cells (frL ⟨0, s', o', fin', l', c', f', q', y', c0', c1', c2', c3', c4', c5', c6', c7'⟩ d' r').toArray 31)) := ((Below.refl _ _).alloc (Nat.le_refl _) _).alloc (by simp) _
  have HB := Lib.hid hB
  clear hB hf hf'
  obtain ⟨dA, dn, dc⟩ := d
  obtain ⟨rA, rn, rc⟩ := r
  obtain ⟨dA', dn', dc'⟩ := d'
  obtain ⟨rA', rn', rc'⟩ := r'
  simp only [frV, frL]
  have hv : sameB ⟨0, s, o, fin, l, c, f, q, y, c0, c1, c2, c3, c4, c5, c6, c7⟩ ⟨0, s', o', fin', l', c', f', q', y', c0', c1', c2', c3', c4', c5', c6', c7'⟩ ds ds' rs rs' = true := by simp [sameB]
  have HV := Lib.hid hv
  clear hv
  go_enter Try.func10, Try.ntmps10
  go_wp2
  go_ret
  refine ⟨?_, HB.out⟩
  rw [HV.out]
  rfl
set_option maxRecDepth 100000 in
set_option maxHeartbeats 1600000 in
theorem rsame_1 (P : Nat → Prop) (s o l c f q y c0 c1 c2 c3 c4 c5 c6 c7 s' o' l' c' f' q' y' c0' c1' c2' c3' c4' c5' c6' c7' : Int) (fin fin' : Bool) (d d' r r' : Sl) (ds ds' : List Int) (rs rs' : RS) (w : World)
    (hf : Fits w P ⟨1, s, o, fin, l, c, f, q, y, c0, c1, c2, c3, c4, c5, c6, c7⟩ d r ds rs) (hf' : Fits w P ⟨1, s', o', fin', l', c', f', q', y', c0', c1', c2', c3', c4', c5', c6', c7'⟩ d' r' ds' rs') :
    Calls Try.prog 10 #[frV ⟨1, s, o, fin, l, c, f, q, y, c0, c1, c2, c3, c4, c5, c6, c7⟩ d r, frV ⟨1, s', o', fin', l', c', f', q', y', c0', c1', c2', c3', c4', c5', c6', c7'⟩ d' r'] w (FrPost (.bool (sameB ⟨1, s, o, fin, l, c, f, q, y, c0, c1, c2, c3, c4, c5, c6, c7⟩ ⟨1, s', o', fin', l', c', f', q', y', c0', c1', c2', c3', c4', c5', c6', c7'⟩ ds ds' rs rs')) w) := by
  have hB : Below w.heap.size w ((w.alloc (.cells (frL ⟨1, s, o, fin, l, c, f, q, y, c0, c1, c2, c3, c4, c5, c6, c7⟩ d r).toArray 31)).alloc (.cells (frL ⟨1, s', o', fin', l', c', f', q', y', c0', c1', c2', c3', c4', c5', c6', c7'⟩ d' r').toArray 31)) := ((Below.refl _ _).alloc (Nat.le_refl _) _).alloc (by simp) _
  have HB := Lib.hid hB
  clear hB hf hf'
  obtain ⟨dA, dn, dc⟩ := d
  obtain ⟨rA, rn, rc⟩ := r
  obtain ⟨dA', dn', dc'⟩ := d'
  obtain ⟨rA', rn', rc'⟩ := r'
  simp only [frV, frL]
  have hv : sameB ⟨1, s, o, fin, l, c, f, q, y, c0, c1, c2, c3, c4, c5, c6, c7⟩ ⟨1, s', o', fin', l', c', f', q', y', c0', c1', c2', c3', c4', c5', c6', c7'⟩ ds ds' rs rs' = true := by simp [sameB]
  have HV := Lib.hid hv
  clear hv
  go_enter Try.func10, Try.ntmps10
  go_wp2
  go_ret
  refine ⟨?_, HB.out⟩
  rw [HV.out]
  rfl
set_option maxRecDepth 100000 in
set_option maxHeartbeats 1600000 in
theorem rsame_30 (P : Nat → Prop) (s o l c f q y c0 c1 c2 c3 c4 c5 c6 c7 s' o' l' c' f' q' y' c0' c1' c2' c3' c4' c5' c6' c7' : Int) (fin fin' : Bool) (d d' r r' : Sl) (ds ds' : List Int) (rs rs' : RS) (w : World)
    (hf : Fits w P ⟨30, s, o, fin, l, c, f, q, y, c0, c1, c2, c3, c4, c5, c6, c7⟩ d r ds rs) (hf' : Fits w P ⟨30, s', o', fin', l', c', f', q', y', c0', c1', c2', c3', c4', c5', c6', c7'⟩ d' r' ds' rs') :
    Calls Try.prog 10 #[frV ⟨30, s, o, fin, l, c, f, q, y, c0, c1, c2, c3, c4, c5, c6, c7⟩ d r, frV ⟨30, s', o', fin', l', c', f', q', y', c0', c1', c2', c3', c4', c5', c6', c7'⟩ d' r'] w (FrPost (.bool (sameB ⟨30, s, o, fin, l, c, f, q, y, c0, c1, c2, c3, c4, c5, c6, c7⟩ ⟨30, s', o', fin', l', c', f', q', y', c0', c1', c2', c3', c4', c5', c6', c7'⟩ ds ds' rs rs')) w) := by
  have hB : Below w.heap.size w ((w.alloc (.cells (frL ⟨30, s, o, fin, l, c, f, q, y, c0, c1, c2, c3, c4, c5, c6, c7⟩ d r).toArray 31)).alloc (.cells (frL ⟨30, s', o', fin', l', c', f', q', y', c0', c1', c2', c3', c4', c5', c6', c7'⟩ d' r').toArray 31)) := ((Below.refl _ _).alloc (Nat.le_refl _) _).alloc (by simp) _
  have HB := Lib.hid hB
  clear hB hf hf'
  obtain ⟨dA, dn, dc⟩ := d
  obtain ⟨rA, rn, rc⟩ := r
  obtain ⟨dA', dn', dc'⟩ := d'
  obtain ⟨rA', rn', rc'⟩ := r'
  simp only [frV, frL]
  have hv : sameB ⟨30, s, o, fin, l, c, f, q, y, c0, c1, c2, c3, c4, c5, c6, c7⟩ ⟨30, s', o', fin', l', c', f', q', y', c0', c1', c2', c3', c4', c5', c6', c7'⟩ ds ds' rs rs' = true := by simp [sameB]
  have HV := Lib.hid hv
  clear hv
  go_enter Try.func10, Try.ntmps10
  go_wp2
  go_ret
  refine ⟨?_, HB.out⟩
  rw [HV.out]
  rfl
set_option maxRecDepth 100000 in
set_option maxHeartbeats 1600000 in
theorem rsame_4 (P : Nat → Prop) (s o l c f q y c0 c1 c2 c3 c4 c5 c6 c7 s' o' l' c' f' q' y' c0' c1' c2' c3' c4' c5' c6' c7' : Int) (fin fin' : Bool) (d d' r r' : Sl) (ds ds' : List Int) (rs rs' : RS) (w : World)
    (hf : Fits w P ⟨4, s, o, fin, l, c, f, q, y, c0, c1, c2, c3, c4, c5, c6, c7⟩ d r ds rs) (hf' : Fits w P ⟨4, s', o', fin', l', c', f', q', y', c0', c1', c2', c3', c4', c5', c6', c7'⟩ d' r' ds' rs') :
    Calls Try.prog 10 #[frV ⟨4, s, o, fin, l, c, f, q, y, c0, c1, c2, c3, c4, c5, c6, c7⟩ d r, frV ⟨4, s', o', fin', l', c', f', q', y', c0', c1', c2', c3', c4', c5', c6', c7'⟩ d' r'] w (FrPost (.bool (sameB ⟨4, s, o, fin, l, c, f, q, y, c0, c1, c2, c3, c4, c5, c6, c7⟩ ⟨4, s', o', fin', l', c', f', q', y', c0', c1', c2', c3', c4', c5', c6', c7'⟩ ds ds' rs rs')) w) := by
  have hB : Below w.heap.size w ((w.alloc (.cells (frL ⟨4, s, o, fin, l, c, f, q, y, c0, c1, c2, c3, c4, c5, c6, c7⟩ d r).toArray 31)).alloc (.cells (frL ⟨4, s', o', fin', l', c', f', q', y', c0', c1', c2', c3', c4', c5', c6', c7'⟩ d' r').toArray 31)) := ((Below.refl _ _).alloc (Nat.le_refl _) _).alloc (by simp) _
  have HB := Lib.hid hB
  clear hB hf hf'
  obtain ⟨dA, dn, dc⟩ := d
  obtain ⟨rA, rn, rc⟩ := r
  obtain ⟨dA', dn', dc'⟩ := d'
  obtain ⟨rA', rn', rc'⟩ := r'
  simp only [frV, frL]
  by_cases e_s : s = s'
  · subst e_s
    by_cases e_c : c = c'
    · subst e_c
      by_cases e_f : f = f'
      · subst e_f
        have hv : sameB ⟨4, s, o, fin, l, c, f, q, y, c0, c1, c2, c3, c4, c5, c6, c7⟩ ⟨4, s, o', fin', l', c, f, q', y', c0', c1', c2', c3', c4', c5', c6', c7'⟩ ds ds' rs rs' = true := by simp [sameB]
        have HV := Lib.hid hv
        clear hv
        go_enter Try.func10, Try.ntmps10
        go_wp2
        go_ret
        refine ⟨?_, HB.out⟩
        rw [HV.out]
        rfl
      · have n_f : (f == f') = false := by simpa using e_f
        have hv : sameB ⟨4, s, o, fin, l, c, f, q, y, c0, c1, c2, c3, c4, c5, c6, c7⟩ ⟨4, s, o', fin', l', c, f', q', y', c0', c1', c2', c3', c4', c5', c6', c7'⟩ ds ds' rs rs' = false := by simp [sameB, e_f]
        have HV := Lib.hid hv
        clear hv
        go_enter Try.func10, Try.ntmps10
        go_wp2
        go_ret
        refine ⟨?_, HB.out⟩
        rw [HV.out]
        rfl
    · have n_c : (c == c') = false := by simpa using e_c
      have hv : sameB ⟨4, s, o, fin, l, c, f, q, y, c0, c1, c2, c3, c4, c5, c6, c7⟩ ⟨4, s, o', fin', l', c', f', q', y', c0', c1', c2', c3', c4', c5', c6', c7'⟩ ds ds' rs rs' = false := by simp [sameB, e_c]
      have HV := Lib.hid hv
      clear hv
      go_enter Try.func10, Try.ntmps10
      go_wp2
      go_ret
      refine ⟨?_, HB.out⟩
      rw [HV.out]
      rfl
  · have n_s : (s == s') = false := by simpa using e_s
    have hv : sameB ⟨4, s, o, fin, l, c, f, q, y, c0, c1, c2, c3, c4, c5, c6, c7⟩ ⟨4, s', o', fin', l', c', f', q', y', c0', c1', c2', c3', c4', c5', c6', c7'⟩ ds ds' rs rs' = false := by simp [sameB, e_s]
    have HV := Lib.hid hv
    clear hv
    go_enter Try.func10, Try.ntmps10
    go_wp2
    go_ret
    refine ⟨?_, HB.out⟩
    rw [HV.out]
    rfl
set_option maxRecDepth 100000 in
set_option maxHeartbeats 1600000 in
theorem rsame_5 (P : Nat → Prop) (s o l c f q y c0 c1 c2 c3 c4 c5 c6 c7 s' o' l' c' f' q' y' c0' c1' c2' c3' c4' c5' c6' c7' : Int) (fin fin' : Bool) (d d' r r' : Sl) (ds ds' : List Int) (rs rs' : RS) (w : World)
    (hf : Fits w P ⟨5, s, o, fin, l, c, f, q, y, c0, c1, c2, c3, c4, c5, c6, c7⟩ d r ds rs) (hf' : Fits w P ⟨5, s', o', fin', l', c', f', q', y', c0', c1', c2', c3', c4', c5', c6', c7'⟩ d' r' ds' rs') :
    Calls Try.prog 10 #[frV ⟨5, s, o, fin, l, c, f, q, y, c0, c1, c2, c3, c4, c5, c6, c7⟩ d r, frV ⟨5, s', o', fin', l', c', f', q', y', c0', c1', c2', c3', c4', c5', c6', c7'⟩ d' r'] w (FrPost (.bool (sameB ⟨5, s, o, fin, l, c, f, q, y, c0, c1, c2, c3, c4, c5, c6, c7⟩ ⟨5, s', o', fin', l', c', f', q', y', c0', c1', c2', c3', c4', c5', c6', c7'⟩ ds ds' rs rs')) w) := by
  have hB : Below w.heap.size w ((w.alloc (.cells (frL ⟨5, s, o, fin, l, c, f, q, y, c0, c1, c2, c3, c4, c5, c6, c7⟩ d r).toArray 31)).alloc (.cells (frL ⟨5, s', o', fin', l', c', f', q', y', c0', c1', c2', c3', c4', c5', c6', c7'⟩ d' r').toArray 31)) := ((Below.refl _ _).alloc (Nat.le_refl _) _).alloc (by simp) _
  have HB := Lib.hid hB
  clear hB hf hf'
  obtain ⟨dA, dn, dc⟩ := d
  obtain ⟨rA, rn, rc⟩ := r
  obtain ⟨dA', dn', dc'⟩ := d'
  obtain ⟨rA', rn', rc'⟩ := r'
  simp only [frV, frL]
  by_cases e_s : s = s'
  · subst e_s
    by_cases e_c : c = c'
    · subst e_c
      have hv : sameB ⟨5, s, o, fin, l, c, f, q, y, c0, c1, c2, c3, c4, c5, c6, c7⟩ ⟨5, s, o', fin', l', c, f', q', y', c0', c1', c2', c3', c4', c5', c6', c7'⟩ ds ds' rs rs' = true := by simp [sameB]
      have HV := Lib.hid hv
      clear hv
      go_enter Try.func10, Try.ntmps10
      go_wp2
      go_ret
      refine ⟨?_, HB.out⟩
      rw [HV.out]
      rfl
    · have n_c : (c == c') = false := by simpa using e_c
      have hv : sameB ⟨5, s, o, fin, l, c, f, q, y, c0, c1, c2, c3, c4, c5, c6, c7⟩ ⟨5, s, o', fin', l', c', f', q', y', c0', c1', c2', c3', c4', c5', c6', c7'⟩ ds ds' rs rs' = false := by simp [sameB, e_c]
      have HV := Lib.hid hv
      clear hv
      go_enter Try.func10, Try.ntmps10
      go_wp2
      go_ret
      refine ⟨?_, HB.out⟩
      rw [HV.out]
      rfl
  · have n_s : (s == s') = false := by simpa using e_s
    have hv : sameB ⟨5, s, o, fin, l, c, f, q, y, c0, c1, c2, c3, c4, c5, c6, c7⟩ ⟨5, s', o', fin', l', c', f', q', y', c0', c1', c2', c3', c4', c5', c6', c7'⟩ ds ds' rs rs' = false := by simp [sameB, e_s]
    have HV := Lib.hid hv
    clear hv
    go_enter Try.func10, Try.ntmps10
    go_wp2
    go_ret
    refine ⟨?_, HB.out⟩
    rw [HV.out]
    rfl
set_option maxRecDepth 100000 in
set_option maxHeartbeats 1600000 in
theorem rsame_6 (P : Nat → Prop) (s o l c f q y c0 c1 c2 c3 c4 c5 c6 c7 s' o' l' c' f' q' y' c0' c1' c2' c3' c4' c5' c6' c7' : Int) (fin fin' : Bool) (d d' r r' : Sl) (ds ds' : List Int) (rs rs' : RS) (w : World)
    (hf : Fits w P ⟨6, s, o, fin, l, c, f, q, y, c0, c1, c2, c3, c4, c5, c6, c7⟩ d r ds rs) (hf' : Fits w P ⟨6, s', o', fin', l', c', f', q', y', c0', c1', c2', c3', c4', c5', c6', c7'⟩ d' r' ds' rs') :
    Calls Try.prog 10 #[frV ⟨6, s, o, fin, l, c, f, q, y, c0, c1, c2, c3, c4, c5, c6, c7⟩ d r, frV ⟨6, s', o', fin', l', c', f', q', y', c0', c1', c2', c3', c4', c5', c6', c7'⟩ d' r'] w (FrPost (.bool (sameB ⟨6, s, o, fin, l, c, f, q, y, c0, c1, c2, c3, c4, c5, c6, c7⟩ ⟨6, s', o', fin', l', c', f', q', y', c0', c1', c2', c3', c4', c5', c6', c7'⟩ ds ds' rs rs')) w) := by
  have hB : Below w.heap.size w ((w.alloc (.cells (frL ⟨6, s, o, fin, l, c, f, q, y, c0, c1, c2, c3, c4, c5, c6, c7⟩ d r).toArray 31)).alloc (.cells (frL ⟨6, s', o', fin', l', c', f', q', y', c0', c1', c2', c3', c4', c5', c6', c7'⟩ d' r').toArray 31)) := ((Below.refl _ _).alloc (Nat.le_refl _) _).alloc (by simp) _
  have hdr := hf.dt.rd.1.below hB
  have hdr' := hf'.dt.rd.1.below hB
  have hby := hdr.2.1
  have hby' := hdr'.2.1
  have t1 := run_text (P := Try.prog) (c := d.c) hdr 26 5 9 Try.underlying26 Try.underlying5 Try.underlying9
  have t2 := run_text (P := Try.prog) (c := d'.c) hdr' 26 5 9 Try.underlying26 Try.underlying5 Try.underlying9
  have HB := Lib.hid hB
  clear hB hf hf' hdr hdr'
  obtain ⟨dA, dn, dc⟩ := d
  obtain ⟨rA, rn, rc⟩ := r
  obtain ⟨dA', dn', dc'⟩ := d'
  obtain ⟨rA', rn', rc'⟩ := r'
  simp only [frV, frL]
  simp only [frL] at t1 t2
  by_cases e_o : o = o'
  · subst e_o
    by_cases eT : ds = ds'
    · subst eT
      obtain ⟨X, hX⟩ : ∃ x, strOfNums ds = x := ⟨_, rfl⟩
      rw [hX] at t1 t2
      have eX : (X.toList == X.toList) = true := by simp
      clear hX
      have hv : sameB ⟨6, s, o, fin, l, c, f, q, y, c0, c1, c2, c3, c4, c5, c6, c7⟩ ⟨6, s', o, fin', l', c', f', q', y', c0', c1', c2', c3', c4', c5', c6', c7'⟩ ds ds rs rs' = true := by simp [sameB]
      have HV := Lib.hid hv
      clear hv
      clear hby hby'
      go_enter Try.func10, Try.ntmps10
      go_wp2
      go_ret
      refine ⟨?_, HB.out⟩
      rw [HV.out]
      rfl
    · have eX := str_ne ds ds' hby hby' eT
      rw [beq_toListBytes] at eX
      obtain ⟨X, hX⟩ : ∃ x, strOfNums ds = x := ⟨_, rfl⟩
      obtain ⟨X', hX'⟩ : ∃ x, strOfNums ds' = x := ⟨_, rfl⟩
      rw [hX] at t1 eX
      rw [hX'] at t2 eX
      clear hX hX'
      have hv : sameB ⟨6, s, o, fin, l, c, f, q, y, c0, c1, c2, c3, c4, c5, c6, c7⟩ ⟨6, s', o, fin', l', c', f', q', y', c0', c1', c2', c3', c4', c5', c6', c7'⟩ ds ds' rs rs' = false := by simp [sameB, eT]
      have HV := Lib.hid hv
      clear hv
      clear hby hby'
      go_enter Try.func10, Try.ntmps10
      go_wp2
      go_ret
      refine ⟨?_, HB.out⟩
      rw [HV.out]
      rfl
  · have n_o : (o == o') = false := by simpa using e_o
    have hv : sameB ⟨6, s, o, fin, l, c, f, q, y, c0, c1, c2, c3, c4, c5, c6, c7⟩ ⟨6, s', o', fin', l', c', f', q', y', c0', c1', c2', c3', c4', c5', c6', c7'⟩ ds ds' rs rs' = false := by simp [sameB, e_o]
    have HV := Lib.hid hv
    clear hv
    clear hby hby'
    go_enter Try.func10, Try.ntmps10
    go_wp2
    go_ret
    refine ⟨?_, HB.out⟩
    rw [HV.out]
    rfl
set_option maxRecDepth 100000 in
set_option maxHeartbeats 1600000 in
theorem rsame_8 (P : Nat → Prop) (s o l c f q y c0 c1 c2 c3 c4 c5 c6 c7 s' o' l' c' f' q' y' c0' c1' c2' c3' c4' c5' c6' c7' : Int) (fin fin' : Bool) (d d' r r' : Sl) (ds ds' : List Int) (rs rs' : RS) (w : World)
    (hf : Fits w P ⟨8, s, o, fin, l, c, f, q, y, c0, c1, c2, c3, c4, c5, c6, c7⟩ d r ds rs) (hf' : Fits w P ⟨8, s', o', fin', l', c', f', q', y', c0', c1', c2', c3', c4', c5', c6', c7'⟩ d' r' ds' rs') :
    Calls Try.prog 10 #[frV ⟨8, s, o, fin, l, c, f, q, y, c0, c1, c2, c3, c4, c5, c6, c7⟩ d r, frV ⟨8, s', o', fin', l', c', f', q', y', c0', c1', c2', c3', c4', c5', c6', c7'⟩ d' r'] w (FrPost (.bool (sameB ⟨8, s, o, fin, l, c, f, q, y, c0, c1, c2, c3, c4, c5, c6, c7⟩ ⟨8, s', o', fin', l', c', f', q', y', c0', c1', c2', c3', c4', c5', c6', c7'⟩ ds ds' rs rs')) w) := by
  have hB : Below w.heap.size w ((w.alloc (.cells (frL ⟨8, s, o, fin, l, c, f, q, y, c0, c1, c2, c3, c4, c5, c6, c7⟩ d r).toArray 31)).alloc (.cells (frL ⟨8, s', o', fin', l', c', f', q', y', c0', c1', c2', c3', c4', c5', c6', c7'⟩ d' r').toArray 31)) := ((Below.refl _ _).alloc (Nat.le_refl _) _).alloc (by simp) _
  have hdr := hf.dt.rd.1.below hB
  have hdr' := hf'.dt.rd.1.below hB
  have hby := hdr.2.1
  have hby' := hdr'.2.1
  have t1 := run_text (P := Try.prog) (c := d.c) hdr 26 5 9 Try.underlying26 Try.underlying5 Try.underlying9
  have t2 := run_text (P := Try.prog) (c := d'.c) hdr' 26 5 9 Try.underlying26 Try.underlying5 Try.underlying9
  have HB := Lib.hid hB
  clear hB hf hf' hdr hdr'
  obtain ⟨dA, dn, dc⟩ := d
  obtain ⟨rA, rn, rc⟩ := r
  obtain ⟨dA', dn', dc'⟩ := d'
  obtain ⟨rA', rn', rc'⟩ := r'
  simp only [frV, frL]
  simp only [frL] at t1 t2
  by_cases e_s : s = s'
  · subst e_s
    by_cases e_o : o = o'
    · subst e_o
      by_cases eT : ds = ds'
      · subst eT
        obtain ⟨X, hX⟩ : ∃ x, strOfNums ds = x := ⟨_, rfl⟩
        rw [hX] at t1 t2
        have eX : (X.toList == X.toList) = true := by simp
        clear hX
        by_cases e_fin : fin = fin'
        · subst e_fin
          have hv : sameB ⟨8, s, o, fin, l, c, f, q, y, c0, c1, c2, c3, c4, c5, c6, c7⟩ ⟨8, s, o, fin, l', c', f', q', y', c0', c1', c2', c3', c4', c5', c6', c7'⟩ ds ds rs rs' = true := by simp [sameB]
          have HV := Lib.hid hv
          clear hv
          clear hby hby'
          go_enter Try.func10, Try.ntmps10
          go_wp2
          go_ret
          refine ⟨?_, HB.out⟩
          rw [HV.out]
          rfl
        · have n_fin : (fin == fin') = false := by simpa using e_fin
          have hv : sameB ⟨8, s, o, fin, l, c, f, q, y, c0, c1, c2, c3, c4, c5, c6, c7⟩ ⟨8, s, o, fin', l', c', f', q', y', c0', c1', c2', c3', c4', c5', c6', c7'⟩ ds ds rs rs' = false := by simp [sameB, e_fin]
          have HV := Lib.hid hv
          clear hv
          clear hby hby'
          go_enter Try.func10, Try.ntmps10
          go_wp2
          go_ret
          refine ⟨?_, HB.out⟩
          rw [HV.out]
          rfl
      · have eX := str_ne ds ds' hby hby' eT
        rw [beq_toListBytes] at eX
        obtain ⟨X, hX⟩ : ∃ x, strOfNums ds = x := ⟨_, rfl⟩
        obtain ⟨X', hX'⟩ : ∃ x, strOfNums ds' = x := ⟨_, rfl⟩
        rw [hX] at t1 eX
        rw [hX'] at t2 eX
        clear hX hX'
        have hv : sameB ⟨8, s, o, fin, l, c, f, q, y, c0, c1, c2, c3, c4, c5, c6, c7⟩ ⟨8, s, o, fin', l', c', f', q', y', c0', c1', c2', c3', c4', c5', c6', c7'⟩ ds ds' rs rs' = false := by simp [sameB, eT]
        have HV := Lib.hid hv
        clear hv
        clear hby hby'
        go_enter Try.func10, Try.ntmps10
        go_wp2
        go_ret
        refine ⟨?_, HB.out⟩
        rw [HV.out]
        rfl
    · have n_o : (o == o') = false := by simpa using e_o
      have hv : sameB ⟨8, s, o, fin, l, c, f, q, y, c0, c1, c2, c3, c4, c5, c6, c7⟩ ⟨8, s, o', fin', l', c', f', q', y', c0', c1', c2', c3', c4', c5', c6', c7'⟩ ds ds' rs rs' = false := by simp [sameB, e_o]
      have HV := Lib.hid hv
      clear hv
      clear hby hby'
      go_enter Try.func10, Try.ntmps10
      go_wp2
      go_ret
      refine ⟨?_, HB.out⟩
      rw [HV.out]
      rfl
  · have n_s : (s == s') = false := by simpa using e_s
    have hv : sameB ⟨8, s, o, fin, l, c, f, q, y, c0, c1, c2, c3, c4, c5, c6, c7⟩ ⟨8, s', o', fin', l', c', f', q', y', c0', c1', c2', c3', c4', c5', c6', c7'⟩ ds ds' rs rs' = false := by simp [sameB, e_s]
    have HV := Lib.hid hv
    clear hv
    clear hby hby'
    go_enter Try.func10, Try.ntmps10
    go_wp2
    go_ret
    refine ⟨?_, HB.out⟩
    rw [HV.out]
    rfl
set_option maxRecDepth 100000 in
set_option maxHeartbeats 1600000 in
theorem rsame_16 (P : Nat → Prop) (s o l c f q y c0 c1 c2 c3 c4 c5 c6 c7 s' o' l' c' f' q' y' c0' c1' c2' c3' c4' c5' c6' c7' : Int) (fin fin' : Bool) (d d' r r' : Sl) (ds ds' : List Int) (rs rs' : RS) (w : World)
    (hf : Fits w P ⟨16, s, o, fin, l, c, f, q, y, c0, c1, c2, c3, c4, c5, c6, c7⟩ d r ds rs) (hf' : Fits w P ⟨16, s', o', fin', l', c', f', q', y', c0', c1', c2', c3', c4', c5', c6', c7'⟩ d' r' ds' rs') :
    Calls Try.prog 10 #[frV ⟨16, s, o, fin, l, c, f, q, y, c0, c1, c2, c3, c4, c5, c6, c7⟩ d r, frV ⟨16, s', o', fin', l', c', f', q', y', c0', c1', c2', c3', c4', c5', c6', c7'⟩ d' r'] w (FrPost (.bool (sameB ⟨16, s, o, fin, l, c, f, q, y, c0, c1, c2, c3, c4, c5, c6, c7⟩ ⟨16, s', o', fin', l', c', f', q', y', c0', c1', c2', c3', c4', c5', c6', c7'⟩ ds ds' rs rs')) w) := by
  have hB : Below w.heap.size w ((w.alloc (.cells (frL ⟨16, s, o, fin, l, c, f, q, y, c0, c1, c2, c3, c4, c5, c6, c7⟩ d r).toArray 31)).alloc (.cells (frL ⟨16, s', o', fin', l', c', f', q', y', c0', c1', c2', c3', c4', c5', c6', c7'⟩ d' r').toArray 31)) := ((Below.refl _ _).alloc (Nat.le_refl _) _).alloc (by simp) _
  have HB := Lib.hid hB
  clear hB hf hf'
  obtain ⟨dA, dn, dc⟩ := d
  obtain ⟨rA, rn, rc⟩ := r
  obtain ⟨dA', dn', dc'⟩ := d'
  obtain ⟨rA', rn', rc'⟩ := r'
  simp only [frV, frL]
  by_cases e_l : l = l'
  · subst e_l
    have hv : sameB ⟨16, s, o, fin, l, c, f, q, y, c0, c1, c2, c3, c4, c5, c6, c7⟩ ⟨16, s', o', fin', l, c', f', q', y', c0', c1', c2', c3', c4', c5', c6', c7'⟩ ds ds' rs rs' = true := by simp [sameB]
    have HV := Lib.hid hv
    clear hv
    go_enter Try.func10, Try.ntmps10
    go_wp2
    go_ret
    refine ⟨?_, HB.out⟩
    rw [HV.out]
    rfl
  · have n_l : (l == l') = false := by simpa using e_l
    have hv : sameB ⟨16, s, o, fin, l, c, f, q, y, c0, c1, c2, c3, c4, c5, c6, c7⟩ ⟨16, s', o', fin', l', c', f', q', y', c0', c1', c2', c3', c4', c5', c6', c7'⟩ ds ds' rs rs' = false := by simp [sameB, e_l]
    have HV := Lib.hid hv
    clear hv
    go_enter Try.func10, Try.ntmps10
    go_wp2
    go_ret
    refine ⟨?_, HB.out⟩
    rw [HV.out]
    rfl
set_option maxRecDepth 100000 in
set_option maxHeartbeats 1600000 in
theorem rsame_18 (P : Nat → Prop) (s o l c f q y c0 c1 c2 c3 c4 c5 c6 c7 s' o' l' c' f' q' y' c0' c1' c2' c3' c4' c5' c6' c7' : Int) (fin fin' : Bool) (d d' r r' : Sl) (ds ds' : List Int) (rs rs' : RS) (w : World)
    (hf : Fits w P ⟨18, s, o, fin, l, c, f, q, y, c0, c1, c2, c3, c4, c5, c6, c7⟩ d r ds rs) (hf' : Fits w P ⟨18, s', o', fin', l', c', f', q', y', c0', c1', c2', c3', c4', c5', c6', c7'⟩ d' r' ds' rs') :
    Calls Try.prog 10 #[frV ⟨18, s, o, fin, l, c, f, q, y, c0, c1, c2, c3, c4, c5, c6, c7⟩ d r, frV ⟨18, s', o', fin', l', c', f', q', y', c0', c1', c2', c3', c4', c5', c6', c7'⟩ d' r'] w (FrPost (.bool (sameB ⟨18, s, o, fin, l, c, f, q, y, c0, c1, c2, c3, c4, c5, c6, c7⟩ ⟨18, s', o', fin', l', c', f', q', y', c0', c1', c2', c3', c4', c5', c6', c7'⟩ ds ds' rs rs')) w) := by
  have hB : Below w.heap.size w ((w.alloc (.cells (frL ⟨18, s, o, fin, l, c, f, q, y, c0, c1, c2, c3, c4, c5, c6, c7⟩ d r).toArray 31)).alloc (.cells (frL ⟨18, s', o', fin', l', c', f', q', y', c0', c1', c2', c3', c4', c5', c6', c7'⟩ d' r').toArray 31)) := ((Below.refl _ _).alloc (Nat.le_refl _) _).alloc (by simp) _
  have HB := Lib.hid hB
  clear hB hf hf'
  obtain ⟨dA, dn, dc⟩ := d
  obtain ⟨rA, rn, rc⟩ := r
  obtain ⟨dA', dn', dc'⟩ := d'
  obtain ⟨rA', rn', rc'⟩ := r'
  simp only [frV, frL]
  by_cases e_l : l = l'
  · subst e_l
    have hv : sameB ⟨18, s, o, fin, l, c, f, q, y, c0, c1, c2, c3, c4, c5, c6, c7⟩ ⟨18, s', o', fin', l, c', f', q', y', c0', c1', c2', c3', c4', c5', c6', c7'⟩ ds ds' rs rs' = true := by simp [sameB]
    have HV := Lib.hid hv
    clear hv
    go_enter Try.func10, Try.ntmps10
    go_wp2
    go_ret
    refine ⟨?_, HB.out⟩
    rw [HV.out]
    rfl
  · have n_l : (l == l') = false := by simpa using e_l
    have hv : sameB ⟨18, s, o, fin, l, c, f, q, y, c0, c1, c2, c3, c4, c5, c6, c7⟩ ⟨18, s', o', fin', l', c', f', q', y', c0', c1', c2', c3', c4', c5', c6', c7'⟩ ds ds' rs rs' = false := by simp [sameB, e_l]
    have HV := Lib.hid hv
    clear hv
    go_enter Try.func10, Try.ntmps10
    go_wp2
    go_ret
    refine ⟨?_, HB.out⟩
    rw [HV.out]
    rfl
set_option maxRecDepth 100000 in
set_option maxHeartbeats 1600000 in
theorem rsame_20 (P : Nat → Prop) (s o l c f q y c0 c1 c2 c3 c4 c5 c6 c7 s' o' l' c' f' q' y' c0' c1' c2' c3' c4' c5' c6' c7' : Int) (fin fin' : Bool) (d d' r r' : Sl) (ds ds' : List Int) (rs rs' : RS) (w : World)
    (hf : Fits w P ⟨20, s, o, fin, l, c, f, q, y, c0, c1, c2, c3, c4, c5, c6, c7⟩ d r ds rs) (hf' : Fits w P ⟨20, s', o', fin', l', c', f', q', y', c0', c1', c2', c3', c4', c5', c6', c7'⟩ d' r' ds' rs') :
    Calls Try.prog 10 #[frV ⟨20, s, o, fin, l, c, f, q, y, c0, c1, c2, c3, c4, c5, c6, c7⟩ d r, frV ⟨20, s', o', fin', l', c', f', q', y', c0', c1', c2', c3', c4', c5', c6', c7'⟩ d' r'] w (FrPost (.bool (sameB ⟨20, s, o, fin, l, c, f, q, y, c0, c1, c2, c3, c4, c5, c6, c7⟩ ⟨20, s', o', fin', l', c', f', q', y', c0', c1', c2', c3', c4', c5', c6', c7'⟩ ds ds' rs rs')) w) := by
  have hB : Below w.heap.size w ((w.alloc (.cells (frL ⟨20, s, o, fin, l, c, f, q, y, c0, c1, c2, c3, c4, c5, c6, c7⟩ d r).toArray 31)).alloc (.cells (frL ⟨20, s', o', fin', l', c', f', q', y', c0', c1', c2', c3', c4', c5', c6', c7'⟩ d' r').toArray 31)) := ((Below.refl _ _).alloc (Nat.le_refl _) _).alloc (by simp) _
  have HB := Lib.hid hB
  clear hB hf hf'
  obtain ⟨dA, dn, dc⟩ := d
  obtain ⟨rA, rn, rc⟩ := r
  obtain ⟨dA', dn', dc'⟩ := d'
  obtain ⟨rA', rn', rc'⟩ := r'
  simp only [frV, frL]
  by_cases e_l : l = l'
  · subst e_l
    have hv : sameB ⟨20, s, o, fin, l, c, f, q, y, c0, c1, c2, c3, c4, c5, c6, c7⟩ ⟨20, s', o', fin', l, c', f', q', y', c0', c1', c2', c3', c4', c5', c6', c7'⟩ ds ds' rs rs' = true := by simp [sameB]
    have HV := Lib.hid hv
    clear hv
    go_enter Try.func10, Try.ntmps10
    go_wp2
    go_ret
    refine ⟨?_, HB.out⟩
    rw [HV.out]
    rfl
  · have n_l : (l == l') = false := by simpa using e_l
    have hv : sameB ⟨20, s, o, fin, l, c, f, q, y, c0, c1, c2, c3, c4, c5, c6, c7⟩ ⟨20, s', o', fin', l', c', f', q', y', c0', c1', c2', c3', c4', c5', c6', c7'⟩ ds ds' rs rs' = false := by simp [sameB, e_l]
    have HV := Lib.hid hv
    clear hv
    go_enter Try.func10, Try.ntmps10
    go_wp2
    go_ret
    refine ⟨?_, HB.out⟩
    rw [HV.out]
    rfl
set_option maxRecDepth 100000 in
set_option maxHeartbeats 1600000 in
theorem rsame_17 (P : Nat → Prop) (s o l c f q y c0 c1 c2 c3 c4 c5 c6 c7 s' o' l' c' f' q' y' c0' c1' c2' c3' c4' c5' c6' c7' : Int) (fin fin' : Bool) (d d' r r' : Sl) (ds ds' : List Int) (rs rs' : RS) (w : World)
    (hf : Fits w P ⟨17, s, o, fin, l, c, f, q, y, c0, c1, c2, c3, c4, c5, c6, c7⟩ d r ds rs) (hf' : Fits w P ⟨17, s', o', fin', l', c', f', q', y', c0', c1', c2', c3', c4', c5', c6', c7'⟩ d' r' ds' rs') :
    Calls Try.prog 10 #[frV ⟨17, s, o, fin, l, c, f, q, y, c0, c1, c2, c3, c4, c5, c6, c7⟩ d r, frV ⟨17, s', o', fin', l', c', f', q', y', c0', c1', c2', c3', c4', c5', c6', c7'⟩ d' r'] w (FrPost (.bool (sameB ⟨17, s, o, fin, l, c, f, q, y, c0, c1, c2, c3, c4, c5, c6, c7⟩ ⟨17, s', o', fin', l', c', f', q', y', c0', c1', c2', c3', c4', c5', c6', c7'⟩ ds ds' rs rs')) w) := by
  have hB : Below w.heap.size w ((w.alloc (.cells (frL ⟨17, s, o, fin, l, c, f, q, y, c0, c1, c2, c3, c4, c5, c6, c7⟩ d r).toArray 31)).alloc (.cells (frL ⟨17, s', o', fin', l', c', f', q', y', c0', c1', c2', c3', c4', c5', c6', c7'⟩ d' r').toArray 31)) := ((Below.refl _ _).alloc (Nat.le_refl _) _).alloc (by simp) _
  have HB := Lib.hid hB
  clear hB hf hf'
  obtain ⟨dA, dn, dc⟩ := d
  obtain ⟨rA, rn, rc⟩ := r
  obtain ⟨dA', dn', dc'⟩ := d'
  obtain ⟨rA', rn', rc'⟩ := r'
  simp only [frV, frL]
  by_cases e_s : s = s'
  · subst e_s
    by_cases e_l : l = l'
    · subst e_l
      have hv : sameB ⟨17, s, o, fin, l, c, f, q, y, c0, c1, c2, c3, c4, c5, c6, c7⟩ ⟨17, s, o', fin', l, c', f', q', y', c0', c1', c2', c3', c4', c5', c6', c7'⟩ ds ds' rs rs' = true := by simp [sameB]
      have HV := Lib.hid hv
      clear hv
      go_enter Try.func10, Try.ntmps10
      go_wp2
      go_ret
      refine ⟨?_, HB.out⟩
      rw [HV.out]
      rfl
    · have n_l : (l == l') = false := by simpa using e_l
      have hv : sameB ⟨17, s, o, fin, l, c, f, q, y, c0, c1, c2, c3, c4, c5, c6, c7⟩ ⟨17, s, o', fin', l', c', f', q', y', c0', c1', c2', c3', c4', c5', c6', c7'⟩ ds ds' rs rs' = false := by simp [sameB, e_l]
      have HV := Lib.hid hv
      clear hv
      go_enter Try.func10, Try.ntmps10
      go_wp2
      go_ret
      refine ⟨?_, HB.out⟩
      rw [HV.out]
      rfl
  · have n_s : (s == s') = false := by simpa using e_s
    have hv : sameB ⟨17, s, o, fin, l, c, f, q, y, c0, c1, c2, c3, c4, c5, c6, c7⟩ ⟨17, s', o', fin', l', c', f', q', y', c0', c1', c2', c3', c4', c5', c6', c7'⟩ ds ds' rs rs' = false := by simp [sameB, e_s]
    have HV := Lib.hid hv
    clear hv
    go_enter Try.func10, Try.ntmps10
    go_wp2
    go_ret
    refine ⟨?_, HB.out⟩
    rw [HV.out]
    rfl
set_option maxRecDepth 100000 in
set_option maxHeartbeats 1600000 in
theorem rsame_24 (P : Nat → Prop) (s o l c f q y c0 c1 c2 c3 c4 c5 c6 c7 s' o' l' c' f' q' y' c0' c1' c2' c3' c4' c5' c6' c7' : Int) (fin fin' : Bool) (d d' r r' : Sl) (ds ds' : List Int) (rs rs' : RS) (w : World)
    (hf : Fits w P ⟨24, s, o, fin, l, c, f, q, y, c0, c1, c2, c3, c4, c5, c6, c7⟩ d r ds rs) (hf' : Fits w P ⟨24, s', o', fin', l', c', f', q', y', c0', c1', c2', c3', c4', c5', c6', c7'⟩ d' r' ds' rs') :
    Calls Try.prog 10 #[frV ⟨24, s, o, fin, l, c, f, q, y, c0, c1, c2, c3, c4, c5, c6, c7⟩ d r, frV ⟨24, s', o', fin', l', c', f', q', y', c0', c1', c2', c3', c4', c5', c6', c7'⟩ d' r'] w (FrPost (.bool (sameB ⟨24, s, o, fin, l, c, f, q, y, c0, c1, c2, c3, c4, c5, c6, c7⟩ ⟨24, s', o', fin', l', c', f', q', y', c0', c1', c2', c3', c4', c5', c6', c7'⟩ ds ds' rs rs')) w) := by
  have hB : Below w.heap.size w ((w.alloc (.cells (frL ⟨24, s, o, fin, l, c, f, q, y, c0, c1, c2, c3, c4, c5, c6, c7⟩ d r).toArray 31)).alloc (.cells (frL ⟨24, s', o', fin', l', c', f', q', y', c0', c1', c2', c3', c4', c5', c6', c7'⟩ d' r').toArray 31)) := ((Below.refl _ _).alloc (Nat.le_refl _) _).alloc (by simp) _
  have RC := fun W => run_cid W ⟨24, s, o, fin, l, c, f, q, y, c0, c1, c2, c3, c4, c5, c6, c7⟩ ⟨24, s', o', fin', l', c', f', q', y', c0', c1', c2', c3', c4', c5', c6', c7'⟩
  obtain ⟨B, hBc⟩ : ∃ b, cidB ⟨24, s, o, fin, l, c, f, q, y, c0, c1, c2, c3, c4, c5, c6, c7⟩ ⟨24, s', o', fin', l', c', f', q', y', c0', c1', c2', c3', c4', c5', c6', c7'⟩ = b := ⟨_, rfl⟩
  simp only [hBc] at RC
  have HB := Lib.hid hB
  clear hB hf hf'
  obtain ⟨dA, dn, dc⟩ := d
  obtain ⟨rA, rn, rc⟩ := r
  obtain ⟨dA', dn', dc'⟩ := d'
  obtain ⟨rA', rn', rc'⟩ := r'
  simp only [frV, frL]
  by_cases e_q : q = q'
  · subst e_q
    by_cases e_l : l = l'
    · subst e_l
      cases B
      · have hv : sameB ⟨24, s, o, fin, l, c, f, q, y, c0, c1, c2, c3, c4, c5, c6, c7⟩ ⟨24, s', o', fin', l, c', f', q, y', c0', c1', c2', c3', c4', c5', c6', c7'⟩ ds ds' rs rs' = false := by simp [sameB, hBc]
        have HV := Lib.hid hv
        clear hv
        go_enter Try.func10, Try.ntmps10
        go_wp2
        go_ret
        refine ⟨?_, HB.out⟩
        rw [HV.out]
        rfl
      · skip
        have hv : sameB ⟨24, s, o, fin, l, c, f, q, y, c0, c1, c2, c3, c4, c5, c6, c7⟩ ⟨24, s', o', fin', l, c', f', q, y', c0', c1', c2', c3', c4', c5', c6', c7'⟩ ds ds' rs rs' = true := by simp [sameB, hBc]
        have HV := Lib.hid hv
        clear hv
        go_enter Try.func10, Try.ntmps10
        go_wp2
        go_ret
        refine ⟨?_, HB.out⟩
        rw [HV.out]
        rfl
    · have n_l : (l == l') = false := by simpa using e_l
      have hv : sameB ⟨24, s, o, fin, l, c, f, q, y, c0, c1, c2, c3, c4, c5, c6, c7⟩ ⟨24, s', o', fin', l', c', f', q, y', c0', c1', c2', c3', c4', c5', c6', c7'⟩ ds ds' rs rs' = false := by simp [sameB, e_l]
      have HV := Lib.hid hv
      clear hv
      go_enter Try.func10, Try.ntmps10
      go_wp2
      go_ret
      refine ⟨?_, HB.out⟩
      rw [HV.out]
      rfl
  · have n_q : (q == q') = false := by simpa using e_q
    have hv : sameB ⟨24, s, o, fin, l, c, f, q, y, c0, c1, c2, c3, c4, c5, c6, c7⟩ ⟨24, s', o', fin', l', c', f', q', y', c0', c1', c2', c3', c4', c5', c6', c7'⟩ ds ds' rs rs' = false := by simp [sameB, e_q]
    have HV := Lib.hid hv
    clear hv
    go_enter Try.func10, Try.ntmps10
    go_wp2
    go_ret
    refine ⟨?_, HB.out⟩
    rw [HV.out]
    rfl
set_option maxRecDepth 100000 in
set_option maxHeartbeats 1600000 in
theorem rsame_25 (P : Nat → Prop) (s o l c f q y c0 c1 c2 c3 c4 c5 c6 c7 s' o' l' c' f' q' y' c0' c1' c2' c3' c4' c5' c6' c7' : Int) (fin fin' : Bool) (d d' r r' : Sl) (ds ds' : List Int) (rs rs' : RS) (w : World)
    (hf : Fits w P ⟨25, s, o, fin, l, c, f, q, y, c0, c1, c2, c3, c4, c5, c6, c7⟩ d r ds rs) (hf' : Fits w P ⟨25, s', o', fin', l', c', f', q', y', c0', c1', c2', c3', c4', c5', c6', c7'⟩ d' r' ds' rs') :
    Calls Try.prog 10 #[frV ⟨25, s, o, fin, l, c, f, q, y, c0, c1, c2, c3, c4, c5, c6, c7⟩ d r, frV ⟨25, s', o', fin', l', c', f', q', y', c0', c1', c2', c3', c4', c5', c6', c7'⟩ d' r'] w (FrPost (.bool (sameB ⟨25, s, o, fin, l, c, f, q, y, c0, c1, c2, c3, c4, c5, c6, c7⟩ ⟨25, s', o', fin', l', c', f', q', y', c0', c1', c2', c3', c4', c5', c6', c7'⟩ ds ds' rs rs')) w) := by
  have hB : Below w.heap.size w ((w.alloc (.cells (frL ⟨25, s, o, fin, l, c, f, q, y, c0, c1, c2, c3, c4, c5, c6, c7⟩ d r).toArray 31)).alloc (.cells (frL ⟨25, s', o', fin', l', c', f', q', y', c0', c1', c2', c3', c4', c5', c6', c7'⟩ d' r').toArray 31)) := ((Below.refl _ _).alloc (Nat.le_refl _) _).alloc (by simp) _
  have HB := Lib.hid hB
  clear hB hf hf'
  obtain ⟨dA, dn, dc⟩ := d
  obtain ⟨rA, rn, rc⟩ := r
  obtain ⟨dA', dn', dc'⟩ := d'
  obtain ⟨rA', rn', rc'⟩ := r'
  simp only [frV, frL]
  by_cases e_q : q = q'
  · subst e_q
    have hv : sameB ⟨25, s, o, fin, l, c, f, q, y, c0, c1, c2, c3, c4, c5, c6, c7⟩ ⟨25, s', o', fin', l', c', f', q, y', c0', c1', c2', c3', c4', c5', c6', c7'⟩ ds ds' rs rs' = true := by simp [sameB]
    have HV := Lib.hid hv
    clear hv
    go_enter Try.func10, Try.ntmps10
    go_wp2
    go_ret
    refine ⟨?_, HB.out⟩
    rw [HV.out]
    rfl
  · have n_q : (q == q') = false := by simpa using e_q
    have hv : sameB ⟨25, s, o, fin, l, c, f, q, y, c0, c1, c2, c3, c4, c5, c6, c7⟩ ⟨25, s', o', fin', l', c', f', q', y', c0', c1', c2', c3', c4', c5', c6', c7'⟩ ds ds' rs rs' = false := by simp [sameB, e_q]
    have HV := Lib.hid hv
    clear hv
    go_enter Try.func10, Try.ntmps10
    go_wp2
    go_ret
    refine ⟨?_, HB.out⟩
    rw [HV.out]
    rfl
set_option maxRecDepth 100000 in
set_option maxHeartbeats 1600000 in
theorem rsame_26 (P : Nat → Prop) (s o l c f q y c0 c1 c2 c3 c4 c5 c6 c7 s' o' l' c' f' q' y' c0' c1' c2' c3' c4' c5' c6' c7' : Int) (fin fin' : Bool) (d d' r r' : Sl) (ds ds' : List Int) (rs rs' : RS) (w : World)
    (hf : Fits w P ⟨26, s, o, fin, l, c, f, q, y, c0, c1, c2, c3, c4, c5, c6, c7⟩ d r ds rs) (hf' : Fits w P ⟨26, s', o', fin', l', c', f', q', y', c0', c1', c2', c3', c4', c5', c6', c7'⟩ d' r' ds' rs') :
    Calls Try.prog 10 #[frV ⟨26, s, o, fin, l, c, f, q, y, c0, c1, c2, c3, c4, c5, c6, c7⟩ d r, frV ⟨26, s', o', fin', l', c', f', q', y', c0', c1', c2', c3', c4', c5', c6', c7'⟩ d' r'] w (FrPost (.bool (sameB ⟨26, s, o, fin, l, c, f, q, y, c0, c1, c2, c3, c4, c5, c6, c7⟩ ⟨26, s', o', fin', l', c', f', q', y', c0', c1', c2', c3', c4', c5', c6', c7'⟩ ds ds' rs rs')) w) := by
  have hB : Below w.heap.size w ((w.alloc (.cells (frL ⟨26, s, o, fin, l, c, f, q, y, c0, c1, c2, c3, c4, c5, c6, c7⟩ d r).toArray 31)).alloc (.cells (frL ⟨26, s', o', fin', l', c', f', q', y', c0', c1', c2', c3', c4', c5', c6', c7'⟩ d' r').toArray 31)) := ((Below.refl _ _).alloc (Nat.le_refl _) _).alloc (by simp) _
  have RC := fun W => run_cid W ⟨26, s, o, fin, l, c, f, q, y, c0, c1, c2, c3, c4, c5, c6, c7⟩ ⟨26, s', o', fin', l', c', f', q', y', c0', c1', c2', c3', c4', c5', c6', c7'⟩
  obtain ⟨B, hBc⟩ : ∃ b, cidB ⟨26, s, o, fin, l, c, f, q, y, c0, c1, c2, c3, c4, c5, c6, c7⟩ ⟨26, s', o', fin', l', c', f', q', y', c0', c1', c2', c3', c4', c5', c6', c7'⟩ = b := ⟨_, rfl⟩
  simp only [hBc] at RC
  have HB := Lib.hid hB
  clear hB hf hf'
  obtain ⟨dA, dn, dc⟩ := d
  obtain ⟨rA, rn, rc⟩ := r
  obtain ⟨dA', dn', dc'⟩ := d'
  obtain ⟨rA', rn', rc'⟩ := r'
  simp only [frV, frL]
  cases B
  · have hv : sameB ⟨26, s, o, fin, l, c, f, q, y, c0, c1, c2, c3, c4, c5, c6, c7⟩ ⟨26, s', o', fin', l', c', f', q', y', c0', c1', c2', c3', c4', c5', c6', c7'⟩ ds ds' rs rs' = false := by simp [sameB, hBc]
    have HV := Lib.hid hv
    clear hv
    go_enter Try.func10, Try.ntmps10
    go_wp2
    go_ret
    refine ⟨?_, HB.out⟩
    rw [HV.out]
    rfl
  · skip
    have hv : sameB ⟨26, s, o, fin, l, c, f, q, y, c0, c1, c2, c3, c4, c5, c6, c7⟩ ⟨26, s', o', fin', l', c', f', q', y', c0', c1', c2', c3', c4', c5', c6', c7'⟩ ds ds' rs rs' = true := by simp [sameB, hBc]
    have HV := Lib.hid hv
    clear hv
    go_enter Try.func10, Try.ntmps10
    go_wp2
    go_ret
    refine ⟨?_, HB.out⟩
    rw [HV.out]
    rfl
set_option maxRecDepth 100000 in
set_option maxHeartbeats 1600000 in
theorem rsame_27 (P : Nat → Prop) (s o l c f q y c0 c1 c2 c3 c4 c5 c6 c7 s' o' l' c' f' q' y' c0' c1' c2' c3' c4' c5' c6' c7' : Int) (fin fin' : Bool) (d d' r r' : Sl) (ds ds' : List Int) (rs rs' : RS) (w : World)
    (hf : Fits w P ⟨27, s, o, fin, l, c, f, q, y, c0, c1, c2, c3, c4, c5, c6, c7⟩ d r ds rs) (hf' : Fits w P ⟨27, s', o', fin', l', c', f', q', y', c0', c1', c2', c3', c4', c5', c6', c7'⟩ d' r' ds' rs') :
    Calls Try.prog 10 #[frV ⟨27, s, o, fin, l, c, f, q, y, c0, c1, c2, c3, c4, c5, c6, c7⟩ d r, frV ⟨27, s', o', fin', l', c', f', q', y', c0', c1', c2', c3', c4', c5', c6', c7'⟩ d' r'] w (FrPost (.bool (sameB ⟨27, s, o, fin, l, c, f, q, y, c0, c1, c2, c3, c4, c5, c6, c7⟩ ⟨27, s', o', fin', l', c', f', q', y', c0', c1', c2', c3', c4', c5', c6', c7'⟩ ds ds' rs rs')) w) := by
  have hB : Below w.heap.size w ((w.alloc (.cells (frL ⟨27, s, o, fin, l, c, f, q, y, c0, c1, c2, c3, c4, c5, c6, c7⟩ d r).toArray 31)).alloc (.cells (frL ⟨27, s', o', fin', l', c', f', q', y', c0', c1', c2', c3', c4', c5', c6', c7'⟩ d' r').toArray 31)) := ((Below.refl _ _).alloc (Nat.le_refl _) _).alloc (by simp) _
  have RC := fun W => run_cid W ⟨27, s, o, fin, l, c, f, q, y, c0, c1, c2, c3, c4, c5, c6, c7⟩ ⟨27, s', o', fin', l', c', f', q', y', c0', c1', c2', c3', c4', c5', c6', c7'⟩
  obtain ⟨B, hBc⟩ : ∃ b, cidB ⟨27, s, o, fin, l, c, f, q, y, c0, c1, c2, c3, c4, c5, c6, c7⟩ ⟨27, s', o', fin', l', c', f', q', y', c0', c1', c2', c3', c4', c5', c6', c7'⟩ = b := ⟨_, rfl⟩
  simp only [hBc] at RC
  have HB := Lib.hid hB
  clear hB hf hf'
  obtain ⟨dA, dn, dc⟩ := d
  obtain ⟨rA, rn, rc⟩ := r
  obtain ⟨dA', dn', dc'⟩ := d'
  obtain ⟨rA', rn', rc'⟩ := r'
  simp only [frV, frL]
  cases B
  · have hv : sameB ⟨27, s, o, fin, l, c, f, q, y, c0, c1, c2, c3, c4, c5, c6, c7⟩ ⟨27, s', o', fin', l', c', f', q', y', c0', c1', c2', c3', c4', c5', c6', c7'⟩ ds ds' rs rs' = false := by simp [sameB, hBc]
    have HV := Lib.hid hv
    clear hv
    go_enter Try.func10, Try.ntmps10
    go_wp2
    go_ret
    refine ⟨?_, HB.out⟩
    rw [HV.out]
    rfl
  · skip
    have hv : sameB ⟨27, s, o, fin, l, c, f, q, y, c0, c1, c2, c3, c4, c5, c6, c7⟩ ⟨27, s', o', fin', l', c', f', q', y', c0', c1', c2', c3', c4', c5', c6', c7'⟩ ds ds' rs rs' = true := by simp [sameB, hBc]
    have HV := Lib.hid hv
    clear hv
    go_enter Try.func10, Try.ntmps10
    go_wp2
    go_ret
    refine ⟨?_, HB.out⟩
    rw [HV.out]
    rfl
set_option maxRecDepth 100000 in
set_option maxHeartbeats 1600000 in
theorem rsame_28 (P : Nat → Prop) (s o l c f q y c0 c1 c2 c3 c4 c5 c6 c7 s' o' l' c' f' q' y' c0' c1' c2' c3' c4' c5' c6' c7' : Int) (fin fin' : Bool) (d d' r r' : Sl) (ds ds' : List Int) (rs rs' : RS) (w : World)
    (hf : Fits w P ⟨28, s, o, fin, l, c, f, q, y, c0, c1, c2, c3, c4, c5, c6, c7⟩ d r ds rs) (hf' : Fits w P ⟨28, s', o', fin', l', c', f', q', y', c0', c1', c2', c3', c4', c5', c6', c7'⟩ d' r' ds' rs') :
    Calls Try.prog 10 #[frV ⟨28, s, o, fin, l, c, f, q, y, c0, c1, c2, c3, c4, c5, c6, c7⟩ d r, frV ⟨28, s', o', fin', l', c', f', q', y', c0', c1', c2', c3', c4', c5', c6', c7'⟩ d' r'] w (FrPost (.bool (sameB ⟨28, s, o, fin, l, c, f, q, y, c0, c1, c2, c3, c4, c5, c6, c7⟩ ⟨28, s', o', fin', l', c', f', q', y', c0', c1', c2', c3', c4', c5', c6', c7'⟩ ds ds' rs rs')) w) := by
  have hB : Below w.heap.size w ((w.alloc (.cells (frL ⟨28, s, o, fin, l, c, f, q, y, c0, c1, c2, c3, c4, c5, c6, c7⟩ d r).toArray 31)).alloc (.cells (frL ⟨28, s', o', fin', l', c', f', q', y', c0', c1', c2', c3', c4', c5', c6', c7'⟩ d' r').toArray 31)) := ((Below.refl _ _).alloc (Nat.le_refl _) _).alloc (by simp) _
  have hdr := hf.dt.rd.1.below hB
  have hdr' := hf'.dt.rd.1.below hB
  have hby := hdr.2.1
  have hby' := hdr'.2.1
  have t1 := run_text (P := Try.prog) (c := d.c) hdr 26 5 9 Try.underlying26 Try.underlying5 Try.underlying9
  have t2 := run_text (P := Try.prog) (c := d'.c) hdr' 26 5 9 Try.underlying26 Try.underlying5 Try.underlying9
  have HB := Lib.hid hB
  clear hB hf hf' hdr hdr'
  obtain ⟨dA, dn, dc⟩ := d
  obtain ⟨rA, rn, rc⟩ := r
  obtain ⟨dA', dn', dc'⟩ := d'
  obtain ⟨rA', rn', rc'⟩ := r'
  simp only [frV, frL]
  simp only [frL] at t1 t2
  by_cases e_c : c = c'
  · subst e_c
    by_cases eT : ds = ds'
    · subst eT
      obtain ⟨X, hX⟩ : ∃ x, strOfNums ds = x := ⟨_, rfl⟩
      rw [hX] at t1 t2
      have eX : (X.toList == X.toList) = true := by simp
      clear hX
      have hv : sameB ⟨28, s, o, fin, l, c, f, q, y, c0, c1, c2, c3, c4, c5, c6, c7⟩ ⟨28, s', o', fin', l', c, f', q', y', c0', c1', c2', c3', c4', c5', c6', c7'⟩ ds ds rs rs' = true := by simp [sameB]
      have HV := Lib.hid hv
      clear hv
      clear hby hby'
      go_enter Try.func10, Try.ntmps10
      go_wp2
      go_ret
      refine ⟨?_, HB.out⟩
      rw [HV.out]
      rfl
    · have eX := str_ne ds ds' hby hby' eT
      rw [beq_toListBytes] at eX
      obtain ⟨X, hX⟩ : ∃ x, strOfNums ds = x := ⟨_, rfl⟩
      obtain ⟨X', hX'⟩ : ∃ x, strOfNums ds' = x := ⟨_, rfl⟩
      rw [hX] at t1 eX
      rw [hX'] at t2 eX
      clear hX hX'
      have hv : sameB ⟨28, s, o, fin, l, c, f, q, y, c0, c1, c2, c3, c4, c5, c6, c7⟩ ⟨28, s', o', fin', l', c, f', q', y', c0', c1', c2', c3', c4', c5', c6', c7'⟩ ds ds' rs rs' = false := by simp [sameB, eT]
      have HV := Lib.hid hv
      clear hv
      clear hby hby'
      go_enter Try.func10, Try.ntmps10
      go_wp2
      go_ret
      refine ⟨?_, HB.out⟩
      rw [HV.out]
      rfl
  · have n_c : (c == c') = false := by simpa using e_c
    have hv : sameB ⟨28, s, o, fin, l, c, f, q, y, c0, c1, c2, c3, c4, c5, c6, c7⟩ ⟨28, s', o', fin', l', c', f', q', y', c0', c1', c2', c3', c4', c5', c6', c7'⟩ ds ds' rs rs' = false := by simp [sameB, e_c]
    have HV := Lib.hid hv
    clear hv
    clear hby hby'
    go_enter Try.func10, Try.ntmps10
    go_wp2
    go_ret
    refine ⟨?_, HB.out⟩
    rw [HV.out]
    rfl
set_option maxRecDepth 100000 in
set_option maxHeartbeats 1600000 in
theorem rsame_x (P : Nat → Prop) (k s o l c f q y c0 c1 c2 c3 c4 c5 c6 c7 s' o' l' c' f' q' y' c0' c1' c2' c3' c4' c5' c6' c7' : Int) (fin fin' : Bool) (d d' r r' : Sl) (ds ds' : List Int) (rs rs' : RS) (w : World)
    (hf : Fits w P ⟨k, s, o, fin, l, c, f, q, y, c0, c1, c2, c3, c4, c5, c6, c7⟩ d r ds rs) (hf' : Fits w P ⟨k, s', o', fin', l', c', f', q', y', c0', c1', c2', c3', c4', c5', c6', c7'⟩ d' r' ds' rs') (hk : (k == 0) = false ∧ (k == 1) = false ∧ (k == 30) = false ∧ (k == 2) = false ∧ (k == 4) = false ∧ (k == 5) = false ∧ (k == 6) = false ∧ (k == 8) = false ∧ (k == 16) = false ∧ (k == 18) = false ∧ (k == 20) = false ∧ (k == 17) = false ∧ (k == 24) = false ∧ (k == 25) = false ∧ (k == 26) = false ∧ (k == 27) = false ∧ (k == 28) = false) :
    Calls Try.prog 10 #[frV ⟨k, s, o, fin, l, c, f, q, y, c0, c1, c2, c3, c4, c5, c6, c7⟩ d r, frV ⟨k, s', o', fin', l', c', f', q', y', c0', c1', c2', c3', c4', c5', c6', c7'⟩ d' r'] w (FrPost (.bool (sameB ⟨k, s, o, fin, l, c, f, q, y, c0, c1, c2, c3, c4, c5, c6, c7⟩ ⟨k, s', o', fin', l', c', f', q', y', c0', c1', c2', c3', c4', c5', c6', c7'⟩ ds ds' rs rs')) w) := by
  have hB : Below w.heap.size w ((w.alloc (.cells (frL ⟨k, s, o, fin, l, c, f, q, y, c0, c1, c2, c3, c4, c5, c6, c7⟩ d r).toArray 31)).alloc (.cells (frL ⟨k, s', o', fin', l', c', f', q', y', c0', c1', c2', c3', c4', c5', c6', c7'⟩ d' r').toArray 31)) := ((Below.refl _ _).alloc (Nat.le_refl _) _).alloc (by simp) _
  have HB := Lib.hid hB
  clear hB hf hf'
  obtain ⟨e0, e1, e30, e2, e4, e5, e6, e8, e16, e18, e20, e17, e24, e25, e26, e27, e28⟩ := hk
  obtain ⟨dA, dn, dc⟩ := d
  obtain ⟨rA, rn, rc⟩ := r
  obtain ⟨dA', dn', dc'⟩ := d'
  obtain ⟨rA', rn', rc'⟩ := r'
  simp only [frV, frL]
  have hv : sameB ⟨k, s, o, fin, l, c, f, q, y, c0, c1, c2, c3, c4, c5, c6, c7⟩ ⟨k, s', o', fin', l', c', f', q', y', c0', c1', c2', c3', c4', c5', c6', c7'⟩ ds ds' rs rs' = true := by simp only [beq_eq_false_iff_ne] at e0 e1 e30 e2 e4 e5 e6 e8 e16 e18 e20 e17 e24 e25 e26 e27 e28; simp [sameB, e0, e1, e30, e2, e4, e5, e6, e8, e16, e18, e20, e17, e24, e25, e26, e27, e28]
  have HV := Lib.hid hv
  clear hv
  go_enter Try.func10, Try.ntmps10
  go_wp2
  go_ret
  refine ⟨?_, HB.out⟩
  rw [HV.out]
  rfl
end Go.Proofs.Ytkahndjflhgccaa
