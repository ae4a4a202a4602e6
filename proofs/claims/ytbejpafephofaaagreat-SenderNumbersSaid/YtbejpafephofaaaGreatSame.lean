/-
  The document's own Same (narthexref4.Same).
-/
import Derived.Test.YtbejpafephofaaaGreatMq15
import Derived.Test.YtbejpafephofaaaGreatEql
namespace Go.Proofs.YtbejpafephofaaaGreat
set_option linter.unusedVariables false
set_option linter.unusedSimpArgs false
open Go.RowKit
/-- The same Kind, and what it asks. -/
def sameB (m m' : FN) (ds ds' : List Int) (rs rs' : RS) : Bool :=
  m.k == m'.k &&
  (if m.k = 2 then m.y == m'.y && decide (rs = rs')
  else if m.k = 4 then m.s == m'.s && (m.c == m'.c && m.f == m'.f)
  else if m.k = 5 then m.s == m'.s && m.c == m'.c
  else if m.k = 6 then m.o == m'.o && decide (ds = ds')
  else if m.k = 8 then m.s == m'.s && (m.o == m'.o && (decide (ds = ds') && m.fin == m'.fin))
  else if m.k = 16 then m.l == m'.l
  else if m.k = 18 then m.l == m'.l
  else if m.k = 20 then m.l == m'.l
  else if m.k = 17 then m.s == m'.s && m.l == m'.l
  else if m.k = 24 then m.q == m'.q && (m.l == m'.l && cidB m m')
  else if m.k = 25 then m.q == m'.q
  else if m.k = 26 then cidB m m'
  else if m.k = 27 then cidB m m'
  else if m.k = 28 then m.c == m'.c && decide (ds = ds')
  else true)
theorem sameB_refl (m : FN) (ds : List Int) (rs : RS) : sameB m m ds ds rs rs = true := by
  unfold sameB cidB
  simp
set_option maxRecDepth 100000 in
set_option maxHeartbeats 1600000 in
theorem rsame_ne (P : Nat → Prop) (k k' s o l c f q y c0 c1 c2 c3 c4 c5 c6 c7 s' o' l' c' f' q' y' c0' c1' c2' c3' c4' c5' c6' c7' : Int) (fin fin' : Bool) (d d' r r' : Sl) (ds ds' : List Int) (rs rs' : RS) (w : World)
    (hf : Fits w P ⟨k, s, o, fin, l, c, f, q, y, c0, c1, c2, c3, c4, c5, c6, c7⟩ d r ds rs) (hf' : Fits w P ⟨k', s', o', fin', l', c', f', q', y', c0', c1', c2', c3', c4', c5', c6', c7'⟩ d' r' ds' rs') (hk : (k != k') = true) :
    Calls Tryz.prog 24 #[frV ⟨k, s, o, fin, l, c, f, q, y, c0, c1, c2, c3, c4, c5, c6, c7⟩ d r, frV ⟨k', s', o', fin', l', c', f', q', y', c0', c1', c2', c3', c4', c5', c6', c7'⟩ d' r'] w (FrPost (.bool (sameB ⟨k, s, o, fin, l, c, f, q, y, c0, c1, c2, c3, c4, c5, c6, c7⟩ ⟨k', s', o', fin', l', c', f', q', y', c0', c1', c2', c3', c4', c5', c6', c7'⟩ ds ds' rs rs')) w) := by
  have hB : Below w.heap.size w ((w.alloc (.cells (frL ⟨k, s, o, fin, l, c, f, q, y, c0, c1, c2, c3, c4, c5, c6, c7⟩ d r).toArray 51)).alloc (.cells (frL ⟨k', s', o', fin', l', c', f', q', y', c0', c1', c2', c3', c4', c5', c6', c7'⟩ d' r').toArray 51)) := ((Below.refl _ _).alloc (Nat.le_refl _) _).alloc (by simp) _
  have HB := Lib.hid hB
  clear hB hf hf'
  obtain ⟨dA, dn, dc⟩ := d
  obtain ⟨rA, rn, rc⟩ := r
  obtain ⟨dA', dn', dc'⟩ := d'
  obtain ⟨rA', rn', rc'⟩ := r'
  simp only [frV, frL]
  have hv : sameB ⟨k, s, o, fin, l, c, f, q, y, c0, c1, c2, c3, c4, c5, c6, c7⟩ ⟨k', s', o', fin', l', c', f', q', y', c0', c1', c2', c3', c4', c5', c6', c7'⟩ ds ds' rs rs' = false := by unfold sameB; rw [show (k == k') = false by simpa [bne] using hk, Bool.false_and]
  have HV := Lib.hid hv
  clear hv
  go_enter Tryz.func24, Tryz.ntmps24
  go_wp2
  go_ret
  refine ⟨?_, HB.out⟩
  rw [HV.out]
  rfl
set_option maxRecDepth 100000 in
set_option maxHeartbeats 1600000 in
theorem rsame_0 (P : Nat → Prop) (s o l c f q y c0 c1 c2 c3 c4 c5 c6 c7 s' o' l' c' f' q' y' c0' c1' c2' c3' c4' c5' c6' c7' : Int) (fin fin' : Bool) (d d' r r' : Sl) (ds ds' : List Int) (rs rs' : RS) (w : World)
    (hf : Fits w P ⟨0, s, o, fin, l, c, f, q, y, c0, c1, c2, c3, c4, c5, c6, c7⟩ d r ds rs) (hf' : Fits w P ⟨0, s', o', fin', l', c', f', q', y', c0', c1', c2', c3', c4', c5', c6', c7'⟩ d' r' ds' rs') :
    Calls Tryz.prog 24 #[frV ⟨0, s, o, fin, l, c, f, q, y, c0, c1, c2, c3, c4, c5, c6, c7⟩ d r, frV ⟨0, s', o', fin', l', c', f', q', y', c0', c1', c2', c3', c4', c5', c6', c7'⟩ d' r'] w (FrPost (.bool (sameB ⟨0, s, o, fin, l, c, f, q, y, c0, c1, c2, c3, c4, c5, c6, c7⟩ ⟨0, s', o', fin', l', c', f', q', y', c0', c1', c2', c3', c4', c5', c6', c7'⟩ ds ds' rs rs')) w) := by
  have hB : Below w.heap.size w ((w.alloc (.cells (frL ⟨0, s, o, fin, l, c, f, q, y, c0, c1, c2, c3, c4, c5, c6, c7⟩ d r).toArray 51)).alloc (.cells (frL ⟨0, s', o', fin', l', c', f', q', y', c0', c1', c2', c3', c4', c5', c6', c7'⟩ d' r').toArray 51)) := ((Below.refl _ _).alloc (Nat.le_refl _) _).alloc (by simp) _
  have HB := Lib.hid hB
  clear hB hf hf'
  obtain ⟨dA, dn, dc⟩ := d
  obtain ⟨rA, rn, rc⟩ := r
  obtain ⟨dA', dn', dc'⟩ := d'
  obtain ⟨rA', rn', rc'⟩ := r'
  simp only [frV, frL]
  have hv : sameB ⟨0, s, o, fin, l, c, f, q, y, c0, c1, c2, c3, c4, c5, c6, c7⟩ ⟨0, s', o', fin', l', c', f', q', y', c0', c1', c2', c3', c4', c5', c6', c7'⟩ ds ds' rs rs' = true := by simp [sameB]
  have HV := Lib.hid hv
  clear hv
  go_enter Tryz.func24, Tryz.ntmps24
  go_wp2
  go_ret
  refine ⟨?_, HB.out⟩
  rw [HV.out]
  rfl
set_option maxRecDepth 100000 in
set_option maxHeartbeats 1600000 in
theorem rsame_4 (P : Nat → Prop) (s o l c f q y c0 c1 c2 c3 c4 c5 c6 c7 s' o' l' c' f' q' y' c0' c1' c2' c3' c4' c5' c6' c7' : Int) (fin fin' : Bool) (d d' r r' : Sl) (ds ds' : List Int) (rs rs' : RS) (w : World)
    (hf : Fits w P ⟨4, s, o, fin, l, c, f, q, y, c0, c1, c2, c3, c4, c5, c6, c7⟩ d r ds rs) (hf' : Fits w P ⟨4, s', o', fin', l', c', f', q', y', c0', c1', c2', c3', c4', c5', c6', c7'⟩ d' r' ds' rs') :
    Calls Tryz.prog 24 #[frV ⟨4, s, o, fin, l, c, f, q, y, c0, c1, c2, c3, c4, c5, c6, c7⟩ d r, frV ⟨4, s', o', fin', l', c', f', q', y', c0', c1', c2', c3', c4', c5', c6', c7'⟩ d' r'] w (FrPost (.bool (sameB ⟨4, s, o, fin, l, c, f, q, y, c0, c1, c2, c3, c4, c5, c6, c7⟩ ⟨4, s', o', fin', l', c', f', q', y', c0', c1', c2', c3', c4', c5', c6', c7'⟩ ds ds' rs rs')) w) := by
  have hB : Below w.heap.size w ((w.alloc (.cells (frL ⟨4, s, o, fin, l, c, f, q, y, c0, c1, c2, c3, c4, c5, c6, c7⟩ d r).toArray 51)).alloc (.cells (frL ⟨4, s', o', fin', l', c', f', q', y', c0', c1', c2', c3', c4', c5', c6', c7'⟩ d' r').toArray 51)) := ((Below.refl _ _).alloc (Nat.le_refl _) _).alloc (by simp) _
  have HB := Lib.hid hB
  clear hB hf hf'
  obtain ⟨dA, dn, dc⟩ := d
  obtain ⟨rA, rn, rc⟩ := r
  obtain ⟨dA', dn', dc'⟩ := d'
  obtain ⟨rA', rn', rc'⟩ := r'
  simp only [frV, frL]
  by_cases e_s : s = s'
  · subst e_s
    by_cases e_c : c = c'
    · subst e_c
      by_cases e_f : f = f'
      · subst e_f
        have hv : sameB ⟨4, s, o, fin, l, c, f, q, y, c0, c1, c2, c3, c4, c5, c6, c7⟩ ⟨4, s, o', fin', l', c, f, q', y', c0', c1', c2', c3', c4', c5', c6', c7'⟩ ds ds' rs rs' = true := by simp [sameB]
        have HV := Lib.hid hv
        clear hv
        go_enter Tryz.func24, Tryz.ntmps24
        go_wp2
        go_ret
        refine ⟨?_, HB.out⟩
        rw [HV.out]
        rfl
      · have n_f : (f == f') = false := by simpa using e_f
        have hv : sameB ⟨4, s, o, fin, l, c, f, q, y, c0, c1, c2, c3, c4, c5, c6, c7⟩ ⟨4, s, o', fin', l', c, f', q', y', c0', c1', c2', c3', c4', c5', c6', c7'⟩ ds ds' rs rs' = false := by simp [sameB, e_f]
        have HV := Lib.hid hv
        clear hv
        go_enter Tryz.func24, Tryz.ntmps24
        go_wp2
        go_ret
        refine ⟨?_, HB.out⟩
        rw [HV.out]
        rfl
    · have n_c : (c == c') = false := by simpa using e_c
      have hv : sameB ⟨4, s, o, fin, l, c, f, q, y, c0, c1, c2, c3, c4, c5, c6, c7⟩ ⟨4, s, o', fin', l', c', f', q', y', c0', c1', c2', c3', c4', c5', c6', c7'⟩ ds ds' rs rs' = false := by simp [sameB, e_c]
      have HV := Lib.hid hv
      clear hv
      go_enter Tryz.func24, Tryz.ntmps24
      go_wp2
      go_ret
      refine ⟨?_, HB.out⟩
      rw [HV.out]
      rfl
  · have n_s : (s == s') = false := by simpa using e_s
    have hv : sameB ⟨4, s, o, fin, l, c, f, q, y, c0, c1, c2, c3, c4, c5, c6, c7⟩ ⟨4, s', o', fin', l', c', f', q', y', c0', c1', c2', c3', c4', c5', c6', c7'⟩ ds ds' rs rs' = false := by simp [sameB, e_s]
    have HV := Lib.hid hv
    clear hv
    go_enter Tryz.func24, Tryz.ntmps24
    go_wp2
    go_ret
    refine ⟨?_, HB.out⟩
    rw [HV.out]
    rfl
set_option maxRecDepth 100000 in
set_option maxHeartbeats 1600000 in
theorem rsame_8 (P : Nat → Prop) (s o l c f q y c0 c1 c2 c3 c4 c5 c6 c7 s' o' l' c' f' q' y' c0' c1' c2' c3' c4' c5' c6' c7' : Int) (fin fin' : Bool) (d d' r r' : Sl) (ds ds' : List Int) (rs rs' : RS) (w : World)
    (hf : Fits w P ⟨8, s, o, fin, l, c, f, q, y, c0, c1, c2, c3, c4, c5, c6, c7⟩ d r ds rs) (hf' : Fits w P ⟨8, s', o', fin', l', c', f', q', y', c0', c1', c2', c3', c4', c5', c6', c7'⟩ d' r' ds' rs') :
    Calls Tryz.prog 24 #[frV ⟨8, s, o, fin, l, c, f, q, y, c0, c1, c2, c3, c4, c5, c6, c7⟩ d r, frV ⟨8, s', o', fin', l', c', f', q', y', c0', c1', c2', c3', c4', c5', c6', c7'⟩ d' r'] w (FrPost (.bool (sameB ⟨8, s, o, fin, l, c, f, q, y, c0, c1, c2, c3, c4, c5, c6, c7⟩ ⟨8, s', o', fin', l', c', f', q', y', c0', c1', c2', c3', c4', c5', c6', c7'⟩ ds ds' rs rs')) w) := by
  have hB : Below w.heap.size w ((w.alloc (.cells (frL ⟨8, s, o, fin, l, c, f, q, y, c0, c1, c2, c3, c4, c5, c6, c7⟩ d r).toArray 51)).alloc (.cells (frL ⟨8, s', o', fin', l', c', f', q', y', c0', c1', c2', c3', c4', c5', c6', c7'⟩ d' r').toArray 51)) := ((Below.refl _ _).alloc (Nat.le_refl _) _).alloc (by simp) _
  have hdr := hf.dt.rd.1.below hB
  have hdr' := hf'.dt.rd.1.below hB
  have hby := hdr.2.1
  have hby' := hdr'.2.1
  have t1 := run_text (P := Tryz.prog) (c := d.c) hdr 22 5 9 Tryz.underlying22 Tryz.underlying5 Tryz.underlying9
  have t2 := run_text (P := Tryz.prog) (c := d'.c) hdr' 22 5 9 Tryz.underlying22 Tryz.underlying5 Tryz.underlying9
  have HB := Lib.hid hB
  clear hB hf hf' hdr hdr'
  obtain ⟨dA, dn, dc⟩ := d
  obtain ⟨rA, rn, rc⟩ := r
  obtain ⟨dA', dn', dc'⟩ := d'
  obtain ⟨rA', rn', rc'⟩ := r'
  simp only [frV, frL]
  simp only [frL] at t1 t2
  by_cases e_s : s = s'
  · subst e_s
    by_cases e_o : o = o'
    · subst e_o
      by_cases eT : ds = ds'
      · subst eT
        obtain ⟨X, hX⟩ : ∃ x, strOfNums ds = x := ⟨_, rfl⟩
        rw [hX] at t1 t2
        have eX : (X.toList == X.toList) = true := by simp
        clear hX
        by_cases e_fin : fin = fin'
        · subst e_fin
          have hv : sameB ⟨8, s, o, fin, l, c, f, q, y, c0, c1, c2, c3, c4, c5, c6, c7⟩ ⟨8, s, o, fin, l', c', f', q', y', c0', c1', c2', c3', c4', c5', c6', c7'⟩ ds ds rs rs' = true := by simp [sameB]
          have HV := Lib.hid hv
          clear hv
          clear hby hby'
          go_enter Tryz.func24, Tryz.ntmps24
          go_wp2
          go_ret
          refine ⟨?_, HB.out⟩
          rw [HV.out]
          rfl
        · have n_fin : (fin == fin') = false := by simpa using e_fin
          have hv : sameB ⟨8, s, o, fin, l, c, f, q, y, c0, c1, c2, c3, c4, c5, c6, c7⟩ ⟨8, s, o, fin', l', c', f', q', y', c0', c1', c2', c3', c4', c5', c6', c7'⟩ ds ds rs rs' = false := by simp [sameB, e_fin]
          have HV := Lib.hid hv
          clear hv
          clear hby hby'
          go_enter Tryz.func24, Tryz.ntmps24
          go_wp2
          go_ret
          refine ⟨?_, HB.out⟩
          rw [HV.out]
          rfl
      · have eX := str_ne ds ds' hby hby' eT
        rw [beq_toListBytes] at eX
        obtain ⟨X, hX⟩ : ∃ x, strOfNums ds = x := ⟨_, rfl⟩
        obtain ⟨X', hX'⟩ : ∃ x, strOfNums ds' = x := ⟨_, rfl⟩
        rw [hX] at t1 eX
        rw [hX'] at t2 eX
        clear hX hX'
        have hv : sameB ⟨8, s, o, fin, l, c, f, q, y, c0, c1, c2, c3, c4, c5, c6, c7⟩ ⟨8, s, o, fin', l', c', f', q', y', c0', c1', c2', c3', c4', c5', c6', c7'⟩ ds ds' rs rs' = false := by simp [sameB, eT]
        have HV := Lib.hid hv
        clear hv
        clear hby hby'
        go_enter Tryz.func24, Tryz.ntmps24
        go_wp2
        go_ret
        refine ⟨?_, HB.out⟩
        rw [HV.out]
        rfl
    · have n_o : (o == o') = false := by simpa using e_o
      have hv : sameB ⟨8, s, o, fin, l, c, f, q, y, c0, c1, c2, c3, c4, c5, c6, c7⟩ ⟨8, s, o', fin', l', c', f', q', y', c0', c1', c2', c3', c4', c5', c6', c7'⟩ ds ds' rs rs' = false := by simp [sameB, e_o]
      have HV := Lib.hid hv
      clear hv
      clear hby hby'
      go_enter Tryz.func24, Tryz.ntmps24
      go_wp2
      go_ret
      refine ⟨?_, HB.out⟩
      rw [HV.out]
      rfl
  · have n_s : (s == s') = false := by simpa using e_s
    have hv : sameB ⟨8, s, o, fin, l, c, f, q, y, c0, c1, c2, c3, c4, c5, c6, c7⟩ ⟨8, s', o', fin', l', c', f', q', y', c0', c1', c2', c3', c4', c5', c6', c7'⟩ ds ds' rs rs' = false := by simp [sameB, e_s]
    have HV := Lib.hid hv
    clear hv
    clear hby hby'
    go_enter Tryz.func24, Tryz.ntmps24
    go_wp2
    go_ret
    refine ⟨?_, HB.out⟩
    rw [HV.out]
    rfl
end Go.Proofs.YtbejpafephofaaaGreat
