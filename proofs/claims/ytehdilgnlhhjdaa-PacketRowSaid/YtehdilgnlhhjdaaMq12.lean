/-
  head.Parse, head.First, whatever bytes.
-/
import Derived.Test.YtehdilgnlhhjdaaHr4
import Derived.IntWalk
import Derived.Test.YtehdilgnlhhjdaaMq4
namespace Go.Proofs.Ytehdilgnlhhjdaa
section
set_option linter.unusedVariables false
set_option linter.unusedSimpArgs false
open Go.RowKit
def HPPost (bs : List Int) (w : World) (e : Ending) (w' : World) : Prop :=
  (match parseS bs with
  | none => e = .returned (.tuple #[hdV HN.zero Sl.nil, .int .i64 0, .int .i64 0, .int .i64 12])
  | some x => ∃ d, e = .returned (.tuple #[hdV x.1 d, .int .i64 x.2.2.1, .int .i64 x.2.2.2, .int .i64 0]) ∧ InD w' (fun b => w.heap.size ≤ b) d x.2.1 ∧ x.1.wf) ∧ Below w.heap.size w w'
theorem HPPost.no {bs : List Int} {w w' : World} (h : parseS bs = none) (hb : Below w.heap.size w w') : HPPost bs w (.returned (.tuple #[hdV HN.zero Sl.nil, .int .i64 0, .int .i64 0, .int .i64 12])) w' := by
  unfold HPPost; rw [h]; exact ⟨rfl, hb⟩
theorem HPPost.yes {bs : List Int} {w w' : World} {m : HN} {tok : List Int} {a b : Int} {d : Sl} (h : parseS bs = some (m, tok, a, b)) (hd : InD w' (fun b => w.heap.size ≤ b) d tok) (hm : m.wf) (hb : Below w.heap.size w w') : HPPost bs w (.returned (.tuple #[hdV m d, .int .i64 a, .int .i64 b, .int .i64 0])) w' := by
  unfold HPPost; rw [h]; exact ⟨⟨d, rfl, hd, hm⟩, hb⟩
set_option maxRecDepth 100000 in
set_option maxHeartbeats 2000000 in
theorem hparse_any (A : Option Addr) (n c : Nat) (bs : List Int) (w : World) (hr : Rd w w.heap.size A n bs) (hn : n ≤ 1000000) (hA : A = none → c = 0) :
    Calls Try.prog 42 #[.slice A n c] w (HPPost bs w) := by
  have HL := Lib.hid hr.1
  have hB0 : Below w.heap.size w (w.alloc (.cells (hdL HN.zero Sl.nil).toArray 30)) := (Below.refl _ _).alloc (Nat.le_refl _) _
  have hA0 : At (w.alloc (.cells (hdL HN.zero Sl.nil).toArray 30)) w.heap.size 30 (hdL HN.zero Sl.nil) := At.new w _ _
  have hR0 : Rd (w.alloc (.cells (hdL HN.zero Sl.nil).toArray 30)) (w.alloc (.cells (hdL HN.zero Sl.nil).toArray 30)).heap.size A n bs := (hr.below hB0).more hB0.size
  have hs0 : (w.alloc (.cells (hdL HN.zero Sl.nil).toArray 30)).heap.size = w.heap.size + 1 := by simp
  clear hr
  go_enter Try.func42, Try.ntmps42
  go_wp2_with fail
  refine (of_any A n c bs _ hR0 (by omega) hA).mono ?_
  rintro e w1 ⟨p, rfl, hp, hr1, hb1⟩
  have hA1 := hA0.below hb1 (by omega)
  have hB1 := hB0.trans (hb1.mono hB0.size)
  have hs1 := hb1.size
  rw [hs0] at hp hr1 hs1
  have hpl : p < w1.heap.size := by obtain ⟨_, _, _, h, _⟩ := hr1; exact h.lt
  clear hb1 hA0 hB0 hR0 hs0
  go_wp2_with fail
  refine (hread_any p _ _ bs w1 hr1 (fun b hb => by omega) (by rw [HL.out]; exact hn)).mono ?_
  rintro e w2 ⟨m, d, tok, x, ok, s', rfl, hlk, hin2, hr2, hk2, hx0, hx1, hle, hwf⟩
  have hA2 := hA1.kept hk2 (by omega)
  have hB2 := hk2.below hB1 (by omega) (fun j hj => by omega)
  have hs2 := hk2.size
  rw [HL.out] at hle
  unfold LinkS at hlk
  rw [HL.out] at hlk
  clear hk2 hB1 hA1 hr1
  obtain ⟨L, hL⟩ : ∃ L, hdL m d = L := ⟨_, rfl⟩
  have hLl : L.length = 20 := by rw [← hL]; rfl
  have hLo : L.all (·.oneCell') = true := by rw [← hL]; rfl
  have hLv : hdV m d = .agg L.toArray := by rw [← hL]; rfl
  rw [hLv]
  have HLl := Lib.hid hLl
  have HLo := Lib.hid hLo
  have HLv := Lib.hid hLv
  have HIN := Lib.hid hin2
  clear hL hLl hLo hLv hin2
  have hA3 := hA2.alloc (.cells L.toArray 30)
  have hH3 := At.new w2 30 L
  have hB3 := hB2.alloc (by omega) (.cells L.toArray 30)
  have hr3 := hr2.kept ((Kept.refl (fun _ => False) w2).alloc (.cells L.toArray 30)) (fun h => h) (fun _ _ h => h)
  have hin3 := Lib.hid (HIN.out.kept ((Kept.refl (fun _ => False) w2).alloc (.cells L.toArray 30)) (fun _ _ h => h))
  obtain ⟨w3, hw3⟩ : ∃ x, w2.alloc (.cells L.toArray 30) = x := ⟨_, rfl⟩
  rw [hw3] at hA3 hH3 hB3 hr3 hin3
  have hz3 := hH3.lt
  clear hA2 hB2 hr2 HIN
  obtain ⟨N, hN⟩ : ∃ N, s'.1.length = N := ⟨_, rfl⟩
  rw [hN] at hle hlk
  have HNN := Lib.hid hN
  obtain ⟨bad, hbad⟩ : ∃ b, s'.2 = b := ⟨_, rfl⟩
  rw [hbad] at hlk
  have HBAD := Lib.hid hbad
  clear hN hbad
  cases ok with
  | false =>
    have hpn : parseS bs = none := by rw [hlk, if_neg (by simp)]
    have HPN := Lib.hid hpn
    clear hpn hlk
    go_wp2_with (first | ((with_reducible refine at_sth (x := .tmp 7) ?_); refine wpList_store_top w2 30 (hdL HN.zero Sl.nil) L (by rfl) _ (by rfl) (by rfl) (by rfl) (by rw [HLl.out]; rfl) (by rw [HLl.out]; exact hd_info) HLo.out ?_; rw [hw3]; clear hw3) | ((with_reducible refine at_sth (x := .tmp 2) ?_); refine st_hd _ _ (hdL HN.zero Sl.nil) (by rfl) (by rfl) hA3 (by rfl) (by rfl) (by rfl) ?_; intro w9 hA9 hk9) | fail)
    refine bodyPost_ret (results_cell_tmp3 2 3 4 5 30 (by rfl) _ 30 _ _ _ _ _ (by rfl) (by rfl) (by rfl) (by rfl) hA9 Try.underlying30 rfl hd_info) rfl ?_
    exact HPPost.no HPN.out (hk9.below hB3 (by omega) (fun j hj => by omega))
  | true =>
    cases bad with
    | true =>
      have hpn : parseS bs = none := by rw [hlk, if_neg (by simp)]
      have HPN := Lib.hid hpn
      clear hpn hlk
      go_wp2_with (first | ((with_reducible refine at_sth (x := .tmp 7) ?_); refine wpList_store_top w2 30 (hdL HN.zero Sl.nil) L (by rfl) _ (by rfl) (by rfl) (by rfl) (by rw [HLl.out]; rfl) (by rw [HLl.out]; exact hd_info) HLo.out ?_; rw [hw3]; clear hw3) | ((with_reducible refine at_sth (x := .tmp 2) ?_); refine st_hd _ _ (hdL HN.zero Sl.nil) (by rfl) (by rfl) hA3 (by rfl) (by rfl) (by rfl) ?_; intro w9 hA9 hk9) | fail)
      refine (bad_any p _ _ s' _ hr3).mono ?_
      rintro e w4 ⟨rfl, rfl⟩
      rw [HBAD.out]
      go_wp2_with (first | ((with_reducible refine at_sth (x := .tmp 7) ?_); refine wpList_store_top w2 30 (hdL HN.zero Sl.nil) L (by rfl) _ (by rfl) (by rfl) (by rfl) (by rw [HLl.out]; rfl) (by rw [HLl.out]; exact hd_info) HLo.out ?_; rw [hw3]; clear hw3) | ((with_reducible refine at_sth (x := .tmp 2) ?_); refine st_hd _ _ (hdL HN.zero Sl.nil) (by rfl) (by rfl) hA3 (by rfl) (by rfl) (by rfl) ?_; intro w9 hA9 hk9) | fail)
      refine bodyPost_ret (results_cell_tmp3 2 3 4 5 30 (by rfl) _ 30 _ _ _ _ _ (by rfl) (by rfl) (by rfl) (by rfl) hA9 Try.underlying30 rfl hd_info) rfl ?_
      exact HPPost.no HPN.out (hk9.below hB3 (by omega) (fun j hj => by omega))
    | false =>
      by_cases h12 : x < 12
      · have hpn : parseS bs = none := by rw [hlk, if_neg (by intro h; have := h.2.2.1; omega)]
        have HPN := Lib.hid hpn
        clear hpn hlk
        go_wp2_with (first | ((with_reducible refine at_sth (x := .tmp 7) ?_); refine wpList_store_top w2 30 (hdL HN.zero Sl.nil) L (by rfl) _ (by rfl) (by rfl) (by rfl) (by rw [HLl.out]; rfl) (by rw [HLl.out]; exact hd_info) HLo.out ?_; rw [hw3]; clear hw3) | ((with_reducible refine at_sth (x := .tmp 2) ?_); refine st_hd _ _ (hdL HN.zero Sl.nil) (by rfl) (by rfl) hA3 (by rfl) (by rfl) (by rfl) ?_; intro w9 hA9 hk9) | fail)
        refine (bad_any p _ _ s' _ hr3).mono ?_
        rintro e w4 ⟨rfl, rfl⟩
        rw [HBAD.out]
        go_wp2_with (first | ((with_reducible refine at_sth (x := .tmp 7) ?_); refine wpList_store_top w2 30 (hdL HN.zero Sl.nil) L (by rfl) _ (by rfl) (by rfl) (by rfl) (by rw [HLl.out]; rfl) (by rw [HLl.out]; exact hd_info) HLo.out ?_; rw [hw3]; clear hw3) | ((with_reducible refine at_sth (x := .tmp 2) ?_); refine st_hd _ _ (hdL HN.zero Sl.nil) (by rfl) (by rfl) hA3 (by rfl) (by rfl) (by rfl) ?_; intro w9 hA9 hk9) | fail)
        refine bodyPost_ret (results_cell_tmp3 2 3 4 5 30 (by rfl) _ 30 _ _ _ _ _ (by rfl) (by rfl) (by rfl) (by rfl) hA9 Try.underlying30 rfl hd_info) rfl ?_
        exact HPPost.no HPN.out (hk9.below hB3 (by omega) (fun j hj => by omega))
      by_cases hxN : (N : Int) < x
      · have hpn : parseS bs = none := by rw [hlk, if_neg (by intro h; have := h.2.2.2; omega)]
        have HPN := Lib.hid hpn
        clear hpn hlk
        go_wp2_with (first | ((with_reducible refine at_sth (x := .tmp 7) ?_); refine wpList_store_top w2 30 (hdL HN.zero Sl.nil) L (by rfl) _ (by rfl) (by rfl) (by rfl) (by rw [HLl.out]; rfl) (by rw [HLl.out]; exact hd_info) HLo.out ?_; rw [hw3]; clear hw3) | ((with_reducible refine at_sth (x := .tmp 2) ?_); refine st_hd _ _ (hdL HN.zero Sl.nil) (by rfl) (by rfl) hA3 (by rfl) (by rfl) (by rfl) ?_; intro w9 hA9 hk9) | fail)
        refine (bad_any p _ _ s' _ hr3).mono ?_
        rintro e w4 ⟨rfl, rfl⟩
        rw [HBAD.out]
        go_wp2_with (first | ((with_reducible refine at_sth (x := .tmp 7) ?_); refine wpList_store_top w2 30 (hdL HN.zero Sl.nil) L (by rfl) _ (by rfl) (by rfl) (by rfl) (by rw [HLl.out]; rfl) (by rw [HLl.out]; exact hd_info) HLo.out ?_; rw [hw3]; clear hw3) | ((with_reducible refine at_sth (x := .tmp 2) ?_); refine st_hd _ _ (hdL HN.zero Sl.nil) (by rfl) (by rfl) hA3 (by rfl) (by rfl) (by rfl) ?_; intro w9 hA9 hk9) | fail)
        refine (left_any p _ _ s' _ hr3).mono ?_
        rintro e w5 ⟨rfl, rfl⟩
        rw [HNN.out]
        go_wp2_with (first | ((with_reducible refine at_sth (x := .tmp 7) ?_); refine wpList_store_top w2 30 (hdL HN.zero Sl.nil) L (by rfl) _ (by rfl) (by rfl) (by rfl) (by rw [HLl.out]; rfl) (by rw [HLl.out]; exact hd_info) HLo.out ?_; rw [hw3]; clear hw3) | ((with_reducible refine at_sth (x := .tmp 2) ?_); refine st_hd _ _ (hdL HN.zero Sl.nil) (by rfl) (by rfl) hA3 (by rfl) (by rfl) (by rfl) ?_; intro w9 hA9 hk9) | fail)
        refine bodyPost_ret (results_cell_tmp3 2 3 4 5 30 (by rfl) _ 30 _ _ _ _ _ (by rfl) (by rfl) (by rfl) (by rfl) hA9 Try.underlying30 rfl hd_info) rfl ?_
        exact HPPost.no HPN.out (hk9.below hB3 (by omega) (fun j hj => by omega))
      · have hpy : parseS bs = some (m, tok, (n : Int) - N, (n : Int) - N + x) := by rw [hlk, if_pos ⟨rfl, rfl, by omega, by omega⟩]
        have HPY := Lib.hid hpy
        clear hpy hlk
        go_wp2_with (first | ((with_reducible refine at_sth (x := .tmp 7) ?_); refine wpList_store_top w2 30 (hdL HN.zero Sl.nil) L (by rfl) _ (by rfl) (by rfl) (by rfl) (by rw [HLl.out]; rfl) (by rw [HLl.out]; exact hd_info) HLo.out ?_; rw [hw3]; clear hw3) | ((with_reducible refine at_sth (x := .tmp 2) ?_); refine st_hd _ _ (hdL HN.zero Sl.nil) (by rfl) (by rfl) hA3 (by rfl) (by rfl) (by rfl) ?_; intro w9 hA9 hk9) | fail)
        refine (bad_any p _ _ s' _ hr3).mono ?_
        rintro e w4 ⟨rfl, rfl⟩
        rw [HBAD.out]
        go_wp2_with (first | ((with_reducible refine at_sth (x := .tmp 7) ?_); refine wpList_store_top w2 30 (hdL HN.zero Sl.nil) L (by rfl) _ (by rfl) (by rfl) (by rfl) (by rw [HLl.out]; rfl) (by rw [HLl.out]; exact hd_info) HLo.out ?_; rw [hw3]; clear hw3) | ((with_reducible refine at_sth (x := .tmp 2) ?_); refine st_hd _ _ (hdL HN.zero Sl.nil) (by rfl) (by rfl) hA3 (by rfl) (by rfl) (by rfl) ?_; intro w9 hA9 hk9) | fail)
        refine (left_any p _ _ s' _ hr3).mono ?_
        rintro e w5 ⟨rfl, rfl⟩
        rw [HNN.out]
        go_wp2_with (first | ((with_reducible refine at_sth (x := .tmp 7) ?_); refine wpList_store_top w2 30 (hdL HN.zero Sl.nil) L (by rfl) _ (by rfl) (by rfl) (by rfl) (by rw [HLl.out]; rfl) (by rw [HLl.out]; exact hd_info) HLo.out ?_; rw [hw3]; clear hw3) | ((with_reducible refine at_sth (x := .tmp 2) ?_); refine st_hd _ _ (hdL HN.zero Sl.nil) (by rfl) (by rfl) hA3 (by rfl) (by rfl) (by rfl) ?_; intro w9 hA9 hk9) | fail)
        refine (left_any p _ _ s' _ hr3).mono ?_
        rintro e w5 ⟨rfl, rfl⟩
        rw [HNN.out]
        go_wp2_with (first | ((with_reducible refine at_ldh ?_); refine ld_hd _ _ (by rfl) hH3 HLl.out ?_) | ((with_reducible refine at_sth (x := .tmp 2) ?_); refine st_hd _ _ L (by rfl) (by rfl) hA3 (by rfl) HLl.out HLo.out ?_; intro w9 hA9 hk9) | fail)
        refine bodyPost_ret (results_cell_tmp3 2 3 4 5 30 (by rfl) _ 30 _ _ _ _ _ (by rfl) (by rfl) (by rfl) (by rfl) hA9 Try.underlying30 rfl (by rw [HLl.out]; exact hd_info)) rfl ?_
        have hfin := HPPost.yes (d := d) HPY.out ((hin3.out.kept hk9 (fun b hb e => by omega)).mono (P' := fun b => w.heap.size ≤ b) (fun b _ hb => by omega)) hwf (hk9.below hB3 (by omega) (fun j hj => by omega))
        rw [HLv.out] at hfin
        exact hfin
end
section
set_option linter.unusedVariables false
set_option linter.unusedSimpArgs false
open Go.RowKit
set_option maxRecDepth 100000 in
set_option maxHeartbeats 1600000 in
theorem hright_any (P : Nat → Prop) (m : HN) (d : Sl) (ds : List Int) (w : World) (hf : HFits w P m d ds) : Calls Try.prog 56 #[hdV m d] w (FrPost (.bool (hrightB m d.n)) w) := by
  obtain ⟨s, ⟨t0, t1, t2, t3, t4, t5, t6, t7⟩, ⟨f0, f1, f2, f3, f4, f5, f6, f7⟩, wd, ph⟩ := m
  obtain ⟨dA, dn, dc⟩ := d
  have hw0 := hf.wf.w0
  have hw1 := hf.wf.w1
  have hs0 := hf.wf.s0
  have hs1 := hf.wf.s1
  have hn := hf.dt.lc
  have hc := hf.dt.cm
  simp only at hw0 hw1 hs0 hs1 hn hc
  unfold maxLen at hc
  clear hf
  have RC := fun W => run_n8 W ⟨f0, f1, f2, f3, f4, f5, f6, f7⟩ ⟨0, 0, 0, 0, 0, 0, 0, 0⟩
  obtain ⟨B, hBc⟩ : ∃ b, n8B ⟨f0, f1, f2, f3, f4, f5, f6, f7⟩ ⟨0, 0, 0, 0, 0, 0, 0, 0⟩ = b := ⟨_, rfl⟩
  have hBz : B = true ↔ (⟨f0, f1, f2, f3, f4, f5, f6, f7⟩ : N8) = .zero := by rw [← hBc]; exact n8B_eq _ _
  simp only [hBc, N8.v] at RC
  clear hBc
  have hb : Below w.heap.size w (w.alloc (.cells (hdL ⟨s, ⟨t0, t1, t2, t3, t4, t5, t6, t7⟩, ⟨f0, f1, f2, f3, f4, f5, f6, f7⟩, wd, ph⟩ ⟨dA, dn, dc⟩).toArray 30)) := (Below.refl _ _).alloc (Nat.le_refl _) _
  have hg : hrightB ⟨s, ⟨t0, t1, t2, t3, t4, t5, t6, t7⟩, ⟨f0, f1, f2, f3, f4, f5, f6, f7⟩, wd, ph⟩ dn = decide (0 ≤ s ∧ s ≤ 2 ∧ 1 ≤ wd ∧ wd ≤ 4 ∧ dn ≤ 32 ∧ (s = 0 ∨ dn = 0) ∧ (s = 2 ∨ ph = false) ∧ (s = 2 → B = true)) := by
    unfold hrightB; simp only [hBz]
  obtain ⟨G, hG⟩ : ∃ G, hrightB ⟨s, ⟨t0, t1, t2, t3, t4, t5, t6, t7⟩, ⟨f0, f1, f2, f3, f4, f5, f6, f7⟩, wd, ph⟩ dn = G := ⟨_, rfl⟩
  rw [hG] at hg
  have HGG := Lib.hid hG
  simp only [hdV, hdL] at hb ⊢
  have HB := Lib.hid hb; clear hb hG hBz
  have key : (0 ≤ s ∧ s ≤ 2 ∧ 1 ≤ wd ∧ wd ≤ 4 ∧ dn ≤ 32) ∨ G = false := by
    by_cases h : 0 ≤ s ∧ s ≤ 2 ∧ 1 ≤ wd ∧ wd ≤ 4 ∧ dn ≤ 32
    · exact .inl h
    · right; rw [hg]; simp only [decide_eq_false_iff_not]; omega
  have hsc : s = 0 ∨ s = 1 ∨ s = 2 ∨ ((s == 0) = false ∧ (s == 1) = false ∧ (s == 2) = false ∧ (s < 0 ∨ 2 < s)) := by simp only [beq_eq_false_iff_ne]; omega
  have hwc : wd < 1 ∨ 4 < wd ∨ (1 ≤ wd ∧ wd ≤ 4) := by omega
  have hdc : dn = 0 ∨ (0 < dn ∧ dn ≤ 32) ∨ 32 < dn := by omega
  clear key
  rcases hwc with hwc | hwc | ⟨hwa, hwb⟩
  · have HF := Lib.hid (show false = G by rw [hg]; symm; simp only [decide_eq_false_iff_not]; omega)
    clear hg hsc
    go_enter Try.func56, Try.ntmps56
    go_wp2
    all_goals
      go_ret
      refine ⟨?_, HB.out⟩
      rw [HGG.out, ← HF.out]
      first | done | rfl
  · have HF := Lib.hid (show false = G by rw [hg]; symm; simp only [decide_eq_false_iff_not]; omega)
    clear hg hsc
    go_enter Try.func56, Try.ntmps56
    go_wp2
    all_goals
      go_ret
      refine ⟨?_, HB.out⟩
      rw [HGG.out, ← HF.out]
      first | done | rfl
  · rcases hsc with rfl | rfl | rfl | ⟨e1, e2, e3, e4⟩
    · rcases hdc with rfl | ⟨hda, hdb⟩ | hdc
      · skip
        cases ph
        · have HF := Lib.hid (show true = G by rw [hg]; symm; simp; try omega)
          clear hg
          go_enter Try.func56, Try.ntmps56
          go_wp2
          all_goals
            go_ret
            refine ⟨?_, HB.out⟩
            rw [HGG.out, ← HF.out]
            first | done | rfl
        · have HF := Lib.hid (show false = G by rw [hg]; symm; simp)
          clear hg
          go_enter Try.func56, Try.ntmps56
          go_wp2
          all_goals
            go_ret
            refine ⟨?_, HB.out⟩
            rw [HGG.out, ← HF.out]
            first | done | rfl
      · have hdz : ((dn : Int) == 0) = false := by simp; omega
        cases ph
        · have HF := Lib.hid (show true = G by rw [hg]; symm; simp; try omega)
          clear hg
          go_enter Try.func56, Try.ntmps56
          go_wp2
          all_goals
            go_ret
            refine ⟨?_, HB.out⟩
            rw [HGG.out, ← HF.out]
            first | done | rfl
        · have HF := Lib.hid (show false = G by rw [hg]; symm; simp)
          clear hg
          go_enter Try.func56, Try.ntmps56
          go_wp2
          all_goals
            go_ret
            refine ⟨?_, HB.out⟩
            rw [HGG.out, ← HF.out]
            first | done | rfl
      · have hdz : ((dn : Int) == 0) = false := by simp; omega
        cases ph
        · have HF := Lib.hid (show false = G by rw [hg]; symm; simp; try omega)
          clear hg
          go_enter Try.func56, Try.ntmps56
          go_wp2
          all_goals
            go_ret
            refine ⟨?_, HB.out⟩
            rw [HGG.out, ← HF.out]
            first | done | rfl
        · have HF := Lib.hid (show false = G by rw [hg]; symm; simp)
          clear hg
          go_enter Try.func56, Try.ntmps56
          go_wp2
          all_goals
            go_ret
            refine ⟨?_, HB.out⟩
            rw [HGG.out, ← HF.out]
            first | done | rfl
    · rcases hdc with rfl | ⟨hda, hdb⟩ | hdc
      · skip
        cases ph
        · have HF := Lib.hid (show true = G by rw [hg]; symm; simp; try omega)
          clear hg
          go_enter Try.func56, Try.ntmps56
          go_wp2
          all_goals
            go_ret
            refine ⟨?_, HB.out⟩
            rw [HGG.out, ← HF.out]
            first | done | rfl
        · have HF := Lib.hid (show false = G by rw [hg]; symm; simp)
          clear hg
          go_enter Try.func56, Try.ntmps56
          go_wp2
          all_goals
            go_ret
            refine ⟨?_, HB.out⟩
            rw [HGG.out, ← HF.out]
            first | done | rfl
      · have hdz : ((dn : Int) == 0) = false := by simp; omega
        cases ph
        · have HF := Lib.hid (show false = G by rw [hg]; symm; simp; try omega)
          clear hg
          go_enter Try.func56, Try.ntmps56
          go_wp2
          all_goals
            go_ret
            refine ⟨?_, HB.out⟩
            rw [HGG.out, ← HF.out]
            first | done | rfl
        · have HF := Lib.hid (show false = G by rw [hg]; symm; simp)
          clear hg
          go_enter Try.func56, Try.ntmps56
          go_wp2
          all_goals
            go_ret
            refine ⟨?_, HB.out⟩
            rw [HGG.out, ← HF.out]
            first | done | rfl
      · have hdz : ((dn : Int) == 0) = false := by simp; omega
        cases ph
        · have HF := Lib.hid (show false = G by rw [hg]; symm; simp; try omega)
          clear hg
          go_enter Try.func56, Try.ntmps56
          go_wp2
          all_goals
            go_ret
            refine ⟨?_, HB.out⟩
            rw [HGG.out, ← HF.out]
            first | done | rfl
        · have HF := Lib.hid (show false = G by rw [hg]; symm; simp)
          clear hg
          go_enter Try.func56, Try.ntmps56
          go_wp2
          all_goals
            go_ret
            refine ⟨?_, HB.out⟩
            rw [HGG.out, ← HF.out]
            first | done | rfl
    · rcases hdc with rfl | ⟨hda, hdb⟩ | hdc
      · skip
        cases B
        · have HF := Lib.hid (show false = G by rw [hg]; symm; simp)
          clear hg
          go_enter Try.func56, Try.ntmps56
          go_wp2
          all_goals
            go_ret
            refine ⟨?_, HB.out⟩
            rw [HGG.out, ← HF.out]
            first | done | rfl
        · have HF := Lib.hid (show true = G by rw [hg]; symm; simp; try omega)
          clear hg
          go_enter Try.func56, Try.ntmps56
          go_wp2
          all_goals
            go_ret
            refine ⟨?_, HB.out⟩
            rw [HGG.out, ← HF.out]
            first | done | rfl
      · have hdz : ((dn : Int) == 0) = false := by simp; omega
        cases B
        · have HF := Lib.hid (show false = G by rw [hg]; symm; simp)
          clear hg
          go_enter Try.func56, Try.ntmps56
          go_wp2
          all_goals
            go_ret
            refine ⟨?_, HB.out⟩
            rw [HGG.out, ← HF.out]
            first | done | rfl
        · have HF := Lib.hid (show false = G by rw [hg]; symm; simp; try omega)
          clear hg
          go_enter Try.func56, Try.ntmps56
          go_wp2
          all_goals
            go_ret
            refine ⟨?_, HB.out⟩
            rw [HGG.out, ← HF.out]
            first | done | rfl
      · have hdz : ((dn : Int) == 0) = false := by simp; omega
        cases B
        · have HF := Lib.hid (show false = G by rw [hg]; symm; simp)
          clear hg
          go_enter Try.func56, Try.ntmps56
          go_wp2
          all_goals
            go_ret
            refine ⟨?_, HB.out⟩
            rw [HGG.out, ← HF.out]
            first | done | rfl
        · have HF := Lib.hid (show false = G by rw [hg]; symm; simp; try omega)
          clear hg
          go_enter Try.func56, Try.ntmps56
          go_wp2
          all_goals
            go_ret
            refine ⟨?_, HB.out⟩
            rw [HGG.out, ← HF.out]
            first | done | rfl
    · have HF := Lib.hid (show false = G by rw [hg]; symm; simp only [decide_eq_false_iff_not]; omega)
      clear hg
      go_enter Try.func56, Try.ntmps56
      go_wp2
      all_goals
        go_ret
        refine ⟨?_, HB.out⟩
        rw [HGG.out, ← HF.out]
        first | done | rfl
end
end Go.Proofs.Ytehdilgnlhhjdaa
