/-
  May a head be written: head.Right, and the document's own.
-/
import Derived.Test.YtbioajgmceodhaaHd
namespace Go.Proofs.Ytbioajgmceodhaa
set_option linter.unusedVariables false
set_option linter.unusedSimpArgs false
open Go.RowKit
set_option maxRecDepth 100000 in
set_option maxHeartbeats 1600000 in
theorem hright_any (P : Nat → Prop) (m : HN) (d : Sl) (ds : List Int) (w : World) (hf : HFits w P m d ds) : Calls Try.prog 19 #[hdV m d] w (FrPost (.bool (hrightB m d.n)) w) := by
  obtain ⟨s, ⟨t0, t1, t2, t3, t4, t5, t6, t7⟩, ⟨f0, f1, f2, f3, f4, f5, f6, f7⟩, wd, ph⟩ := m
  obtain ⟨dA, dn, dc⟩ := d
  have hw0 := hf.wf.w0
  have hw1 := hf.wf.w1
  have hs0 := hf.wf.s0
  have hs1 := hf.wf.s1
  have hn := hf.dt.lc
  have hc := hf.dt.cm
  simp only at hw0 hw1 hs0 hs1 hn hc
  unfold maxLen at hc
  clear hf
  have RC := fun W => run_n8 W ⟨f0, f1, f2, f3, f4, f5, f6, f7⟩ ⟨0, 0, 0, 0, 0, 0, 0, 0⟩
  obtain ⟨B, hBc⟩ : ∃ b, n8B ⟨f0, f1, f2, f3, f4, f5, f6, f7⟩ ⟨0, 0, 0, 0, 0, 0, 0, 0⟩ = b := ⟨_, rfl⟩
  have hBz : B = true ↔ (⟨f0, f1, f2, f3, f4, f5, f6, f7⟩ : N8) = .zero := by rw [← hBc]; exact n8B_eq _ _
  simp only [hBc, N8.v] at RC
  clear hBc
  have hb : Below w.heap.size w (w.alloc (.cells (hdL ⟨s, ⟨t0, t1, t2, t3, t4, t5, t6, t7⟩, ⟨f0, f1, f2, f3, f4, f5, f6, f7⟩, wd, ph⟩ ⟨dA, dn, dc⟩).toArray 28)) := (Below.refl _ _).alloc (Nat.le_refl _) _
  have hg : hrightB ⟨s, ⟨t0, t1, t2, t3, t4, t5, t6, t7⟩, ⟨f0, f1, f2, f3, f4, f5, f6, f7⟩, wd, ph⟩ dn = decide (0 ≤ s ∧ s ≤ 2 ∧ 1 ≤ wd ∧ wd ≤ 4 ∧ dn ≤ 32 ∧ (s = 0 ∨ dn = 0) ∧ (s = 2 ∨ ph = false) ∧ (s = 2 → B = true)) := by
    unfold hrightB; simp only [hBz]
  obtain ⟨G, hG⟩ : ∃ G, hrightB ⟨s, ⟨t0, t1, t2, t3, t4, t5, t6, t7⟩, ⟨f0, f1, f2, f3, f4, f5, f6, f7⟩, wd, ph⟩ dn = G := ⟨_, rfl⟩
  rw [hG] at hg
  have HGG := Lib.hid hG
  simp only [hdV, hdL] at hb ⊢
  have HB := Lib.hid hb; clear hb hG hBz
  have key : (0 ≤ s ∧ s ≤ 2 ∧ 1 ≤ wd ∧ wd ≤ 4 ∧ dn ≤ 32) ∨ G = false := by
    by_cases h : 0 ≤ s ∧ s ≤ 2 ∧ 1 ≤ wd ∧ wd ≤ 4 ∧ dn ≤ 32
    · exact .inl h
    · right; rw [hg]; simp only [decide_eq_false_iff_not]; omega
  have hsc : s = 0 ∨ s = 1 ∨ s = 2 ∨ ((s == 0) = false ∧ (s == 1) = false ∧ (s == 2) = false ∧ (s < 0 ∨ 2 < s)) := by simp only [beq_eq_false_iff_ne]; omega
  have hwc : wd < 1 ∨ 4 < wd ∨ (1 ≤ wd ∧ wd ≤ 4) := by omega
  have hdc : dn = 0 ∨ (0 < dn ∧ dn ≤ 32) ∨ 32 < dn := by omega
  clear key
  rcases hwc with hwc | hwc | ⟨hwa, hwb⟩
  · have HF := Lib.hid (show false = G by rw [hg]; symm; simp only [decide_eq_false_iff_not]; omega)
    clear hg hsc
    go_enter Try.func19, Try.ntmps19
    go_wp2
    all_goals
      go_ret
      refine ⟨?_, HB.out⟩
      rw [HGG.out, ← HF.out]
      first | done | rfl
  · have HF := Lib.hid (show false = G by rw [hg]; symm; simp only [decide_eq_false_iff_not]; omega)
    clear hg hsc
    go_enter Try.func19, Try.ntmps19
    go_wp2
    all_goals
      go_ret
      refine ⟨?_, HB.out⟩
      rw [HGG.out, ← HF.out]
      first | done | rfl
  · rcases hsc with rfl | rfl | rfl | ⟨e1, e2, e3, e4⟩
    · rcases hdc with rfl | ⟨hda, hdb⟩ | hdc
      · skip
        cases ph
        · have HF := Lib.hid (show true = G by rw [hg]; symm; simp; try omega)
          clear hg
          go_enter Try.func19, Try.ntmps19
          go_wp2
          all_goals
            go_ret
            refine ⟨?_, HB.out⟩
            rw [HGG.out, ← HF.out]
            first | done | rfl
        · have HF := Lib.hid (show false = G by rw [hg]; symm; simp)
          clear hg
          go_enter Try.func19, Try.ntmps19
          go_wp2
          all_goals
            go_ret
            refine ⟨?_, HB.out⟩
            rw [HGG.out, ← HF.out]
            first | done | rfl
      · have hdz : ((dn : Int) == 0) = false := by simp; omega
        cases ph
        · have HF := Lib.hid (show true = G by rw [hg]; symm; simp; try omega)
          clear hg
          go_enter Try.func19, Try.ntmps19
          go_wp2
          all_goals
            go_ret
            refine ⟨?_, HB.out⟩
            rw [HGG.out, ← HF.out]
            first | done | rfl
        · have HF := Lib.hid (show false = G by rw [hg]; symm; simp)
          clear hg
          go_enter Try.func19, Try.ntmps19
          go_wp2
          all_goals
            go_ret
            refine ⟨?_, HB.out⟩
            rw [HGG.out, ← HF.out]
            first | done | rfl
      · have hdz : ((dn : Int) == 0) = false := by simp; omega
        cases ph
        · have HF := Lib.hid (show false = G by rw [hg]; symm; simp; try omega)
          clear hg
          go_enter Try.func19, Try.ntmps19
          go_wp2
          all_goals
            go_ret
            refine ⟨?_, HB.out⟩
            rw [HGG.out, ← HF.out]
            first | done | rfl
        · have HF := Lib.hid (show false = G by rw [hg]; symm; simp)
          clear hg
          go_enter Try.func19, Try.ntmps19
          go_wp2
          all_goals
            go_ret
            refine ⟨?_, HB.out⟩
            rw [HGG.out, ← HF.out]
            first | done | rfl
    · rcases hdc with rfl | ⟨hda, hdb⟩ | hdc
      · skip
        cases ph
        · have HF := Lib.hid (show true = G by rw [hg]; symm; simp; try omega)
          clear hg
          go_enter Try.func19, Try.ntmps19
          go_wp2
          all_goals
            go_ret
            refine ⟨?_, HB.out⟩
            rw [HGG.out, ← HF.out]
            first | done | rfl
        · have HF := Lib.hid (show false = G by rw [hg]; symm; simp)
          clear hg
          go_enter Try.func19, Try.ntmps19
          go_wp2
          all_goals
            go_ret
            refine ⟨?_, HB.out⟩
            rw [HGG.out, ← HF.out]
            first | done | rfl
      · have hdz : ((dn : Int) == 0) = false := by simp; omega
        cases ph
        · have HF := Lib.hid (show false = G by rw [hg]; symm; simp; try omega)
          clear hg
          go_enter Try.func19, Try.ntmps19
          go_wp2
          all_goals
            go_ret
            refine ⟨?_, HB.out⟩
            rw [HGG.out, ← HF.out]
            first | done | rfl
        · have HF := Lib.hid (show false = G by rw [hg]; symm; simp)
          clear hg
          go_enter Try.func19, Try.ntmps19
          go_wp2
          all_goals
            go_ret
            refine ⟨?_, HB.out⟩
            rw [HGG.out, ← HF.out]
            first | done | rfl
      · have hdz : ((dn : Int) == 0) = false := by simp; omega
        cases ph
        · have HF := Lib.hid (show false = G by rw [hg]; symm; simp; try omega)
          clear hg
          go_enter Try.func19, Try.ntmps19
          go_wp2
          all_goals
            go_ret
            refine ⟨?_, HB.out⟩
            rw [HGG.out, ← HF.out]
            first | done | rfl
        · have HF := Lib.hid (show false = G by rw [hg]; symm; simp)
          clear hg
          go_enter Try.func19, Try.ntmps19
          go_wp2
          all_goals
            go_ret
            refine ⟨?_, HB.out⟩
            rw [HGG.out, ← HF.out]
            first | done | rfl
    · rcases hdc with rfl | ⟨hda, hdb⟩ | hdc
      · skip
        cases B
        · have HF := Lib.hid (show false = G by rw [hg]; symm; simp)
          clear hg
          go_enter Try.func19, Try.ntmps19
          go_wp2
          all_goals
            go_ret
            refine ⟨?_, HB.out⟩
            rw [HGG.out, ← HF.out]
            first | done | rfl
        · have HF := Lib.hid (show true = G by rw [hg]; symm; simp; try omega)
          clear hg
          go_enter Try.func19, Try.ntmps19
          go_wp2
          all_goals
            go_ret
            refine ⟨?_, HB.out⟩
            rw [HGG.out, ← HF.out]
            first | done | rfl
      · have hdz : ((dn : Int) == 0) = false := by simp; omega
        cases B
        · have HF := Lib.hid (show false = G by rw [hg]; symm; simp)
          clear hg
          go_enter Try.func19, Try.ntmps19
          go_wp2
          all_goals
            go_ret
            refine ⟨?_, HB.out⟩
            rw [HGG.out, ← HF.out]
            first | done | rfl
        · have HF := Lib.hid (show false = G by rw [hg]; symm; simp; try omega)
          clear hg
          go_enter Try.func19, Try.ntmps19
          go_wp2
          all_goals
            go_ret
            refine ⟨?_, HB.out⟩
            rw [HGG.out, ← HF.out]
            first | done | rfl
      · have hdz : ((dn : Int) == 0) = false := by simp; omega
        cases B
        · have HF := Lib.hid (show false = G by rw [hg]; symm; simp)
          clear hg
          go_enter Try.func19, Try.ntmps19
          go_wp2
          all_goals
            go_ret
            refine ⟨?_, HB.out⟩
            rw [HGG.out, ← HF.out]
            first | done | rfl
        · have HF := Lib.hid (show false = G by rw [hg]; symm; simp; try omega)
          clear hg
          go_enter Try.func19, Try.ntmps19
          go_wp2
          all_goals
            go_ret
            refine ⟨?_, HB.out⟩
            rw [HGG.out, ← HF.out]
            first | done | rfl
    · have HF := Lib.hid (show false = G by rw [hg]; symm; simp only [decide_eq_false_iff_not]; omega)
      clear hg
      go_enter Try.func19, Try.ntmps19
      go_wp2
      all_goals
        go_ret
        refine ⟨?_, HB.out⟩
        rw [HGG.out, ← HF.out]
        first | done | rfl
set_option maxRecDepth 100000 in
set_option maxHeartbeats 1600000 in
theorem rhright_any (P : Nat → Prop) (m : HN) (d : Sl) (ds : List Int) (w : World) (hf : HFits w P m d ds) : Calls Try.prog 20 #[hdV m d] w (FrPost (.bool (hrightB m d.n)) w) := by
  obtain ⟨s, ⟨t0, t1, t2, t3, t4, t5, t6, t7⟩, ⟨f0, f1, f2, f3, f4, f5, f6, f7⟩, wd, ph⟩ := m
  obtain ⟨dA, dn, dc⟩ := d
  have hw0 := hf.wf.w0
  have hw1 := hf.wf.w1
  have hs0 := hf.wf.s0
  have hs1 := hf.wf.s1
  have hn := hf.dt.lc
  have hc := hf.dt.cm
  simp only at hw0 hw1 hs0 hs1 hn hc
  unfold maxLen at hc
  clear hf
  have RC := fun W => run_n8 W ⟨f0, f1, f2, f3, f4, f5, f6, f7⟩ ⟨0, 0, 0, 0, 0, 0, 0, 0⟩
  obtain ⟨B, hBc⟩ : ∃ b, n8B ⟨f0, f1, f2, f3, f4, f5, f6, f7⟩ ⟨0, 0, 0, 0, 0, 0, 0, 0⟩ = b := ⟨_, rfl⟩
  have hBz : B = true ↔ (⟨f0, f1, f2, f3, f4, f5, f6, f7⟩ : N8) = .zero := by rw [← hBc]; exact n8B_eq _ _
  simp only [hBc, N8.v] at RC
  clear hBc
  have hb : Below w.heap.size w (w.alloc (.cells (hdL ⟨s, ⟨t0, t1, t2, t3, t4, t5, t6, t7⟩, ⟨f0, f1, f2, f3, f4, f5, f6, f7⟩, wd, ph⟩ ⟨dA, dn, dc⟩).toArray 28)) := (Below.refl _ _).alloc (Nat.le_refl _) _
  have hg : hrightB ⟨s, ⟨t0, t1, t2, t3, t4, t5, t6, t7⟩, ⟨f0, f1, f2, f3, f4, f5, f6, f7⟩, wd, ph⟩ dn = decide (0 ≤ s ∧ s ≤ 2 ∧ 1 ≤ wd ∧ wd ≤ 4 ∧ dn ≤ 32 ∧ (s = 0 ∨ dn = 0) ∧ (s = 2 ∨ ph = false) ∧ (s = 2 → B = true)) := by
    unfold hrightB; simp only [hBz]
  obtain ⟨G, hG⟩ : ∃ G, hrightB ⟨s, ⟨t0, t1, t2, t3, t4, t5, t6, t7⟩, ⟨f0, f1, f2, f3, f4, f5, f6, f7⟩, wd, ph⟩ dn = G := ⟨_, rfl⟩
  rw [hG] at hg
  have HGG := Lib.hid hG
  simp only [hdV, hdL] at hb ⊢
  have HB := Lib.hid hb; clear hb hG hBz
  have key : (0 ≤ s ∧ s ≤ 2 ∧ 1 ≤ wd ∧ wd ≤ 4 ∧ dn ≤ 32) ∨ G = false := by
    by_cases h : 0 ≤ s ∧ s ≤ 2 ∧ 1 ≤ wd ∧ wd ≤ 4 ∧ dn ≤ 32
    · exact .inl h
    · right; rw [hg]; simp only [decide_eq_false_iff_not]; omega
  have hsc : s = 0 ∨ s = 1 ∨ s = 2 ∨ ((s == 0) = false ∧ (s == 1) = false ∧ (s == 2) = false ∧ (s < 0 ∨ 2 < s)) := by simp only [beq_eq_false_iff_ne]; omega
  have hwc : wd < 1 ∨ 4 < wd ∨ (1 ≤ wd ∧ wd ≤ 4) := by omega
  have hdc : dn = 0 ∨ (0 < dn ∧ dn ≤ 32) ∨ 32 < dn := by omega
  clear key
  rcases hwc with hwc | hwc | ⟨hwa, hwb⟩
  · have HF := Lib.hid (show false = G by rw [hg]; symm; simp only [decide_eq_false_iff_not]; omega)
    clear hg
    rcases hsc with rfl | rfl | rfl | ⟨e1, e2, e3, e4 | e4⟩
    · go_enter Try.func20, Try.ntmps20
      go_wp2
      all_goals
        go_ret
        refine ⟨?_, HB.out⟩
        rw [HGG.out, ← HF.out]
        first | done | rfl
    · go_enter Try.func20, Try.ntmps20
      go_wp2
      all_goals
        go_ret
        refine ⟨?_, HB.out⟩
        rw [HGG.out, ← HF.out]
        first | done | rfl
    · go_enter Try.func20, Try.ntmps20
      go_wp2
      all_goals
        go_ret
        refine ⟨?_, HB.out⟩
        rw [HGG.out, ← HF.out]
        first | done | rfl
    · go_enter Try.func20, Try.ntmps20
      go_wp2
      all_goals
        go_ret
        refine ⟨?_, HB.out⟩
        rw [HGG.out, ← HF.out]
        first | done | rfl
    · go_enter Try.func20, Try.ntmps20
      go_wp2
      all_goals
        go_ret
        refine ⟨?_, HB.out⟩
        rw [HGG.out, ← HF.out]
        first | done | rfl
  · have HF := Lib.hid (show false = G by rw [hg]; symm; simp only [decide_eq_false_iff_not]; omega)
    clear hg
    rcases hsc with rfl | rfl | rfl | ⟨e1, e2, e3, e4 | e4⟩
    · go_enter Try.func20, Try.ntmps20
      go_wp2
      all_goals
        go_ret
        refine ⟨?_, HB.out⟩
        rw [HGG.out, ← HF.out]
        first | done | rfl
    · go_enter Try.func20, Try.ntmps20
      go_wp2
      all_goals
        go_ret
        refine ⟨?_, HB.out⟩
        rw [HGG.out, ← HF.out]
        first | done | rfl
    · go_enter Try.func20, Try.ntmps20
      go_wp2
      all_goals
        go_ret
        refine ⟨?_, HB.out⟩
        rw [HGG.out, ← HF.out]
        first | done | rfl
    · go_enter Try.func20, Try.ntmps20
      go_wp2
      all_goals
        go_ret
        refine ⟨?_, HB.out⟩
        rw [HGG.out, ← HF.out]
        first | done | rfl
    · go_enter Try.func20, Try.ntmps20
      go_wp2
      all_goals
        go_ret
        refine ⟨?_, HB.out⟩
        rw [HGG.out, ← HF.out]
        first | done | rfl
  · rcases hsc with rfl | rfl | rfl | ⟨e1, e2, e3, e4⟩
    · rcases hdc with rfl | ⟨hda, hdb⟩ | hdc
      · skip
        cases ph
        · have HF := Lib.hid (show true = G by rw [hg]; symm; simp; try omega)
          clear hg
          go_enter Try.func20, Try.ntmps20
          go_wp2
          all_goals
            go_ret
            refine ⟨?_, HB.out⟩
            rw [HGG.out, ← HF.out]
            first | done | rfl
        · have HF := Lib.hid (show false = G by rw [hg]; symm; simp)
          clear hg
          go_enter Try.func20, Try.ntmps20
          go_wp2
          all_goals
            go_ret
            refine ⟨?_, HB.out⟩
            rw [HGG.out, ← HF.out]
            first | done | rfl
      · have hdz : ((dn : Int) == 0) = false := by simp; omega
        cases ph
        · have HF := Lib.hid (show true = G by rw [hg]; symm; simp; try omega)
          clear hg
          go_enter Try.func20, Try.ntmps20
          go_wp2
          all_goals
            go_ret
            refine ⟨?_, HB.out⟩
            rw [HGG.out, ← HF.out]
            first | done | rfl
        · have HF := Lib.hid (show false = G by rw [hg]; symm; simp)
          clear hg
          go_enter Try.func20, Try.ntmps20
          go_wp2
          all_goals
            go_ret
            refine ⟨?_, HB.out⟩
            rw [HGG.out, ← HF.out]
            first | done | rfl
      · have hdz : ((dn : Int) == 0) = false := by simp; omega
        cases ph
        · have HF := Lib.hid (show false = G by rw [hg]; symm; simp; try omega)
          clear hg
          go_enter Try.func20, Try.ntmps20
          go_wp2
          all_goals
            go_ret
            refine ⟨?_, HB.out⟩
            rw [HGG.out, ← HF.out]
            first | done | rfl
        · have HF := Lib.hid (show false = G by rw [hg]; symm; simp)
          clear hg
          go_enter Try.func20, Try.ntmps20
          go_wp2
          all_goals
            go_ret
            refine ⟨?_, HB.out⟩
            rw [HGG.out, ← HF.out]
            first | done | rfl
    · rcases hdc with rfl | ⟨hda, hdb⟩ | hdc
      · skip
        cases ph
        · have HF := Lib.hid (show true = G by rw [hg]; symm; simp; try omega)
          clear hg
          go_enter Try.func20, Try.ntmps20
          go_wp2
          all_goals
            go_ret
            refine ⟨?_, HB.out⟩
            rw [HGG.out, ← HF.out]
            first | done | rfl
        · have HF := Lib.hid (show false = G by rw [hg]; symm; simp)
          clear hg
          go_enter Try.func20, Try.ntmps20
          go_wp2
          all_goals
            go_ret
            refine ⟨?_, HB.out⟩
            rw [HGG.out, ← HF.out]
            first | done | rfl
      · have hdz : ((dn : Int) == 0) = false := by simp; omega
        cases ph
        · have HF := Lib.hid (show false = G by rw [hg]; symm; simp; try omega)
          clear hg
          go_enter Try.func20, Try.ntmps20
          go_wp2
          all_goals
            go_ret
            refine ⟨?_, HB.out⟩
            rw [HGG.out, ← HF.out]
            first | done | rfl
        · have HF := Lib.hid (show false = G by rw [hg]; symm; simp)
          clear hg
          go_enter Try.func20, Try.ntmps20
          go_wp2
          all_goals
            go_ret
            refine ⟨?_, HB.out⟩
            rw [HGG.out, ← HF.out]
            first | done | rfl
      · have hdz : ((dn : Int) == 0) = false := by simp; omega
        cases ph
        · have HF := Lib.hid (show false = G by rw [hg]; symm; simp; try omega)
          clear hg
          go_enter Try.func20, Try.ntmps20
          go_wp2
          all_goals
            go_ret
            refine ⟨?_, HB.out⟩
            rw [HGG.out, ← HF.out]
            first | done | rfl
        · have HF := Lib.hid (show false = G by rw [hg]; symm; simp)
          clear hg
          go_enter Try.func20, Try.ntmps20
          go_wp2
          all_goals
            go_ret
            refine ⟨?_, HB.out⟩
            rw [HGG.out, ← HF.out]
            first | done | rfl
    · rcases hdc with rfl | ⟨hda, hdb⟩ | hdc
      · skip
        cases B
        · have HF := Lib.hid (show false = G by rw [hg]; symm; simp)
          clear hg
          go_enter Try.func20, Try.ntmps20
          go_wp2
          all_goals
            go_ret
            refine ⟨?_, HB.out⟩
            rw [HGG.out, ← HF.out]
            first | done | rfl
        · have HF := Lib.hid (show true = G by rw [hg]; symm; simp; try omega)
          clear hg
          go_enter Try.func20, Try.ntmps20
          go_wp2
          all_goals
            go_ret
            refine ⟨?_, HB.out⟩
            rw [HGG.out, ← HF.out]
            first | done | rfl
      · have hdz : ((dn : Int) == 0) = false := by simp; omega
        cases B
        · have HF := Lib.hid (show false = G by rw [hg]; symm; simp)
          clear hg
          go_enter Try.func20, Try.ntmps20
          go_wp2
          all_goals
            go_ret
            refine ⟨?_, HB.out⟩
            rw [HGG.out, ← HF.out]
            first | done | rfl
        · have HF := Lib.hid (show false = G by rw [hg]; symm; simp; try omega)
          clear hg
          go_enter Try.func20, Try.ntmps20
          go_wp2
          all_goals
            go_ret
            refine ⟨?_, HB.out⟩
            rw [HGG.out, ← HF.out]
            first | done | rfl
      · have hdz : ((dn : Int) == 0) = false := by simp; omega
        cases B
        · have HF := Lib.hid (show false = G by rw [hg]; symm; simp)
          clear hg
          go_enter Try.func20, Try.ntmps20
          go_wp2
          all_goals
            go_ret
            refine ⟨?_, HB.out⟩
            rw [HGG.out, ← HF.out]
            first | done | rfl
        · have HF := Lib.hid (show false = G by rw [hg]; symm; simp; try omega)
          clear hg
          go_enter Try.func20, Try.ntmps20
          go_wp2
          all_goals
            go_ret
            refine ⟨?_, HB.out⟩
            rw [HGG.out, ← HF.out]
            first | done | rfl
    · rcases e4 with e4 | e4
      · have HF := Lib.hid (show false = G by rw [hg]; symm; simp only [decide_eq_false_iff_not]; omega)
        clear hg
        go_enter Try.func20, Try.ntmps20
        go_wp2
        all_goals
          go_ret
          refine ⟨?_, HB.out⟩
          rw [HGG.out, ← HF.out]
          first | done | rfl
      · have HF := Lib.hid (show false = G by rw [hg]; symm; simp only [decide_eq_false_iff_not]; omega)
        clear hg
        go_enter Try.func20, Try.ntmps20
        go_wp2
        all_goals
          go_ret
          refine ⟨?_, HB.out⟩
          rw [HGG.out, ← HF.out]
          first | done | rfl
end Go.Proofs.Ytbioajgmceodhaa
