/-
  SenderKeeps: its walk.
-/
import Derived.Test.YtohahkjikhpamaaZi
import Derived.Test.YtohahkjikhpamaaMq9
import Derived.Deep.LoopGhost
import Derived.Deep.CutRange
import Derived.BigQuiet
namespace Go.Proofs.Ytohahkjikhpamaa
set_option linter.unusedVariables false
set_option linter.unusedSimpArgs false
open Go.RowKit
theorem own_slice_len {w : World} {base : Nat} {A : Option Addr} {n c : Nat} {bs : List Int} (h : Own w base 5 (.slice A n c) bs) : bs.length = n := by
  obtain ⟨A', c', e, _⟩ := h.open_n bs.length rfl
  injection e with e1 e2 e3
  exact e2.symm
/-- A row of what waits, cut. -/
theorem kp_cut {w : World} {base : Nat} {A : Option Addr} {n c : Nat} {bs : List Int} (h : Own w base 5 (.slice A n c) bs) (off k : Nat) (hk : off + k ≤ n) : n ≤ c ∧ c ≤ maxLen ∧ Rd w w.heap.size (cutA A c off) k ((bs.drop off).take k) := by
  have hl := own_slice_len h
  obtain ⟨A', c', e, h1, h2, h3⟩ := h.open_n n hl
  injection e with e1 e2 e3
  subst e1; subst e3
  have h4 := (h3.cutTo (m := off + k) hk).cutFrom (c := c) (k := off) (by omega) (by omega)
  rw [List.drop_take, show off + k - off = k by omega] at h4
  exact ⟨h1, h2, h4⟩
set_option maxRecDepth 100000 in
set_option maxHeartbeats 64000000 in
theorem skeeps_law (A : Option Addr) (n c : Nat) (L : List AskD) (w : World) (hu : Asks w w.heap.size A n c L) :
    Calls Try.prog 3 #[.slice A n c] w fun e w' => e = .returned (.bool true) ∧ Below w.heap.size w w' := by
  have HU := Lib.hid hu
  have HUL := Lib.hid hu.1
  have hnc := hu.2.1
  have hcm := hu.2.2.1
  unfold maxLen at hcm
  have HN : Hid (Calls Try.prog 5 #[.int .u64 8] w fun e w' => ∃ q p, e = .returned (.pointer (some ⟨q, 0, none⟩)) ∧ Kp w w' q p (ss0 8) (.slice none 0 0) 0 0 false false (fun _ => False)) := Lib.hid ((sm_new 8 (by decide) w).mono fun e w' ⟨q, p, he, hS⟩ => ⟨q, p, he, hS.weak (fun b hb => by simp [Value.ownBlock] at hb), Own.none_ _ _ _, rfl, rfl, rfl, rfl, (by show 0 < 100; omega), Nat.le_refl _, Nat.zero_le _, Nat.zero_le _⟩)
  have HK := Lib.hid (fun W => known16_any W)
  obtain ⟨iu, hiu, hz0, hz1, hz2⟩ : ∃ i, Try.prog.info? 5 = some i ∧ i.zero = some (.int .u8 0) ∧ i.size = 1 ∧ i.bytes = 1 := o8.hi
  clear hu
  go_enter Try.func3, Try.ntmps3
  go_wp2_with (go_at_call 5; (with_reducible refine HN.out.mono ?_); rintro e w1 ⟨q, p, rfl, hS1⟩; have H1 := Lib.hid hS1; clear hS1)
  go_loopg [4, 5, 6, 7, 8] 60 (fun kx s4 s5 s6 s7 s8 wr => ∃ (A' : Option Addr) (n' c' lim i : Nat) (reset over : Bool), s4 = .slice A' n' c' ∧ s5 = .int .u64 lim ∧ s6 = .bool reset ∧ s7 = .bool over ∧ s8 = .int .i64 i ∧ i ≤ n ∧ i ≤ 60 ∧ lim < 500 ∧ 60 - i ≤ kx ∧ Hid (∃ X, Kp w wr q p X (.slice A' n' c') i lim reset over (fun _ => False)))
  case atStart => exact ⟨none, 0, 0, 0, 0, false, false, rfl, rfl, rfl, rfl, rfl, by omega, by omega, by omega, by omega, Lib.hid ⟨_, H1.out⟩⟩
  case round =>
    clear H1 HN
    obtain ⟨A', n', c', lim, i, reset, over, rfl, rfl, rfl, rfl, rfl, hin, hi60, hlim, hkx, hQ⟩ := hrel
    obtain ⟨X, hX⟩ := hQ.out
    have HX := Lib.hid hX
    clear hX hQ
    by_cases hgo : i < n ∧ i < 60
    · obtain ⟨g1, g2⟩ := hgo
      obtain ⟨d, hd⟩ : ∃ d, L[i]? = some d := ⟨_, List.getElem?_eq_getElem (by rw [HUL.out]; exact g1)⟩
      obtain ⟨b, off, rfl, hb, hc⟩ := HU.out.2.2.2.2 (by omega)
      have ha := (hc i d hd).below HX.out.sm.bl hb
      have hwf := ha.wf
      have HAT := Lib.hid ha.at_
      have hrd := ha.rd
      obtain ⟨k, room, ii, nn, dA, dm, dc, dbs, T⟩ := d
      obtain ⟨wk, wroom, wii, wn, wlc, wcm, wnil, wtl, wt1⟩ := hwf
      have HL13 := Lib.hid (AskD.wf.len (d := ⟨k, room, ii, nn, dA, dm, dc, dbs, T⟩) ⟨wk, wroom, wii, wn, wlc, wcm, wnil, wtl, wt1⟩)
      have HO13 := Lib.hid (AskD.wf.one (d := ⟨k, room, ii, nn, dA, dm, dc, dbs, T⟩) ⟨wk, wroom, wii, wn, wlc, wcm, wnil, wtl, wt1⟩)
      simp only at wk wroom wii wn wlc wcm wnil hrd
      have hrd0 : Rd w w.heap.size dA dm dbs := (hc i _ hd).rd
      have HRD := Lib.hid hrd0
      have HW : Hid (∀ W, At W wr.heap.size 31 (AskD.l ⟨k, room, ii, nn, dA, dm, dc, dbs, T⟩) → W.cell? ⟨wr.heap.size, 0, none⟩ = some (.int .i64 k) ∧ W.cell? ⟨wr.heap.size, 1, none⟩ = some (.int .i64 room) ∧ W.cell? ⟨wr.heap.size, 2, none⟩ = some (.int .i64 ii) ∧ W.cell? ⟨wr.heap.size, 3, none⟩ = some (.int .u64 nn) ∧ W.cell? ⟨wr.heap.size, 4, none⟩ = some (.slice dA dm dc)) := Lib.hid (fun W h => ⟨by rw [h.cell]; rfl, by rw [h.cell]; rfl, by rw [h.cell]; rfl, by rw [h.cell]; rfl, by rw [h.cell]; rfl⟩)
      obtain ⟨LA, hLA⟩ : ∃ LA, AskD.l ⟨k, room, ii, nn, dA, dm, dc, dbs, T⟩ = LA := ⟨_, rfl⟩
      rw [hLA] at HAT HL13 HO13 HW
      clear hLA ha hd hc hb hrd hrd0 wtl wt1
      unfold maxLen at wcm
      have wroom1 : room < 9223372036854775808 := wroom.2
      have hiz : (i : Int) < (n : Int) := by omega
      have hiz2 : (i : Int) < 60 := by omega
      have hi1 : i + 1 ≤ n := by omega
      have hi2 : i + 1 ≤ 60 := by omega
      clear g1
      go_upto_region 11 with (first
        | ((with_reducible refine at_lda ?_); refine ld_ask b (off + i * 13) LA (by rfl) HAT.out HL13.out ?_)
        | ((with_reducible refine at_sta ?_); refine st_ask _ _ LA (by rfl) _ (by rfl) (by simp) (by rfl) (by rfl) HL13.out HO13.out ?_)
        | fail)
      have hA6 := At.new wr 31 LA
      have hB6 : Below wr.heap.size wr (wr.alloc (.cells LA.toArray 31)) := (Below.refl _ _).alloc (Nat.le_refl _) _
      have hX6 := HX.out.beside LA 31
      have hB6a := HX.out.sm.bl
      obtain ⟨e0, e1, e2, e3, e4⟩ := HW.out _ hA6
      generalize wr.alloc (.cells LA.toArray 31) = W6 at hA6 hX6 e0 e1 e2 e3 e4 ⊢
      generalize wr.heap.size = g9 at hA6 hX6 e0 e1 e2 e3 e4 HW ⊢
      have HX6 := Lib.hid hX6
      have HA6 := Lib.hid hA6
      clear hB6 hX6 hA6 hB6a HX HAT HW HL13 HO13
      have hkc : k = 0 ∨ k = 1 ∨ k = 2 ∨ k = 3 ∨ k = 4 ∨ ((k == 0) = false ∧ (k == 1) = false ∧ (k == 2) = false ∧ (k == 3) = false ∧ (k == 4) = false) := by
        simp only [beq_eq_false_iff_ne]
        omega
      rcases hkc with rfl | rfl | rfl | rfl | rfl | ⟨hk0, hk1, hk2, hk3, hk4⟩
      · as_aux_lemma =>
        clear e1 e2 e3
        obtain ⟨nd, hnd⟩ : ∃ nd, nd = min dm 60 := ⟨_, rfl⟩
        obtain ⟨D, hD⟩ : ∃ D, D = dbs.take nd := ⟨_, rfl⟩
        have hrD : Rd w w.heap.size dA nd D := by rw [hD]; exact HRD.out.cutTo (by omega)
        have hDl : D.length = nd := hrD.1
        have hnd2 : nd ≤ 60 := by omega
        have hndc : nd ≤ dc := by omega
        have HCU : Hid (∀ W, Calls Try.prog 6 #[.slice dA dm dc, .int .i64 60] W fun e w' => e = .returned (.slice dA nd dc) ∧ w' = W) := Lib.hid (fun W => by
          have := kcut_any dA dm dc 60 W wlc (by unfold maxLen; exact wcm) (by omega) wnil
          rw [← hnd] at this
          exact this)
        clear hD hnd wnil
        cases hcl : X.cl with
        | true => as_aux_lemma =>
          have HWR := Lib.hid (sm_write_closed HX6.out.sm hcl dA nd dc)
          go_wp2_with (first
            | (go_at_call 6; (with_reducible refine (HCU.out _).mono ?_); rintro e w7 ⟨rfl, hw7⟩; rw [hw7]; clear hw7)
            | (go_at_call 7; (with_reducible refine HWR.out.mono ?_); rintro e w8 ⟨rfl, hw8⟩; rw [hw8]; clear hw8))
          go_roundg (60 - (i + 1))
          case measure => omega
          case rel => exact ⟨A', n', c', lim, i + 1, reset, over, rfl, by simp, rfl, rfl, by simp, by omega, by omega, by omega, by omega, Lib.hid ⟨X, HX6.out.weakG.suc g2⟩⟩
        | false => as_aux_lemma =>
          by_cases hfull : 0 < nd ∧ roomO X.o = 0
          · have HWR := Lib.hid (sm_write_full HX6.out.sm hcl dA nd dc hfull.1 hfull.2)
            clear hfull
            go_wp2_with (first
              | (go_at_call 6; (with_reducible refine (HCU.out _).mono ?_); rintro e w7 ⟨rfl, hw7⟩; rw [hw7]; clear hw7)
              | (go_at_call 7; (with_reducible refine HWR.out.mono ?_); rintro e w8 ⟨rfl, hw8⟩; rw [hw8]; clear hw8))
            go_roundg (60 - (i + 1))
            case measure => omega
            case rel => exact ⟨A', n', c', lim, i + 1, reset, over, rfl, by simp, rfl, rfl, by simp, by omega, by omega, by omega, by omega, Lib.hid ⟨X, HX6.out.weakG.suc g2⟩⟩
          · obtain ⟨m, hm⟩ : ∃ m, m = writeN X.o nd := ⟨_, rfl⟩
            have hmn : m ≤ nd := by rw [hm]; exact Nat.min_le_left _ _
            have hWR0 := sm_write HX6.out.weakG.sm hcl dA nd dc D ((hrD.below HX6.out.sm.bl).more HX6.out.sm.bl.size) hndc (by omega) (by omega) (by omega)
            rw [← hm] at hWR0
            have HWR := Lib.hid hWR0
            have hnml := own_slice_len HX6.out.own
            have hl4 := HX6.out.len4
            have HFN : Hid (∀ w8 w9 v2, SmPost w W6 q p { X with o := writeO X.o D } (fun b => False ∨ (Value.slice A' n' c').ownBlock = some b) (.tuple #[.int .i64 m, .int .i64 0]) (.returned (.tuple #[.int .i64 m, .int .i64 0])) w8 → Own w9 w.heap.size 5 v2 (X.o.bs ++ D.take m) → w8.grownBy w9 (Value.slice A' n' c').ownBlock → (v2.ownBlock = (Value.slice A' n' c').ownBlock ∨ v2.ownBlock = some w8.heap.size) →
                ∃ A2 n2 c2, v2 = .slice A2 n2 c2 ∧ Hid (∃ X, Kp w w9 q p X (.slice A2 n2 c2) (i + 1) lim reset over (fun _ => False))) := Lib.hid (fun w8 w9 v2 hP hO hg hv => by
              obtain ⟨A2, c2, rfl, _⟩ := hO.open_n _ rfl
              exact ⟨_, _, _, rfl, Lib.hid ⟨_, HX6.out.weakG.write g2 (by omega) hP.2.1 hP.2.2.1 (by rw [hDl, ← hm]; exact hO) hg hv⟩⟩)
            have HRDm := Lib.hid (hrD.cutTo hmn)
            have HOW := Lib.hid (fun (w8 : World) (hk : ∀ b, (False ∨ (Value.slice A' n' c').ownBlock = some b) → w8.heap[b]? = W6.heap[b]?) => HX6.out.own.keep (w' := w8) fun j hj => hk j (.inr hj))
            have HBS := Lib.hid HX6.out.sm.bl
            have hmz : ¬ (nd : Int) < (m : Int) := by omega
            have hmc : (m : Int) ≤ (dc : Int) := by omega
            have HLB : Hid (X.o.bs.length + m ≤ 140737488355328) := Lib.hid (by omega)
            clear hfull hrD hDl hm hWR0 hnml hl4 hcl
            go_wp2_with (first
              | (go_at_call 6; (with_reducible refine (HCU.out _).mono ?_); rintro e w7 ⟨rfl, hw7⟩; rw [hw7]; clear hw7)
              | (go_at_call 7; (with_reducible refine HWR.out.mono ?_); intro e w8 hP; obtain ⟨he, hP2⟩ := hP; subst he; have HP := Lib.hid hP2; clear hP2)
              | (at_builtin; refine wpList_append_at rfl (.tmp 153) (.tmp 156) 26 rfl w.heap.size 5 iu Try.underlying26 hiu hz0 hz1 hz2 (.slice A' n' c') X.o.bs (by rfl) (HOW.out _ HP.out.2.1) w.heap.size dA m dc (D.take m) (by rfl) (HRDm.out.below HP.out.1.bl) HLB.out HP.out.1.bl.size ?_; intro v2 w9 hO9 hg9 hv9; obtain ⟨A2, n2, c2, rfl, hq9⟩ := HFN.out _ w9 v2 ⟨rfl, HP.out⟩ hO9 hg9 hv9; have HQ9 := Lib.hid hq9.out; clear hO9 hg9 hv9 hq9)
              | fail)
            go_roundg (60 - (i + 1))
            case measure => omega
            case rel => exact ⟨A2, n2, c2, lim, i + 1, reset, over, rfl, by simp, rfl, rfl, by simp, by omega, by omega, by omega, by omega, Lib.hid HQ9.out⟩
      · as_aux_lemma =>
        clear e1 e2 e3
        obtain ⟨nd, hnd⟩ : ∃ nd, nd = min dm 60 := ⟨_, rfl⟩
        obtain ⟨D, hD⟩ : ∃ D, D = dbs.take nd := ⟨_, rfl⟩
        have hrD : Rd w w.heap.size dA nd D := by rw [hD]; exact HRD.out.cutTo (by omega)
        have hDl : D.length = nd := hrD.1
        have hnd2 : nd ≤ 60 := by omega
        have hndc : nd ≤ dc := by omega
        have HCU : Hid (∀ W, Calls Try.prog 6 #[.slice dA dm dc, .int .i64 60] W fun e w' => e = .returned (.slice dA nd dc) ∧ w' = W) := Lib.hid (fun W => by
          have := kcut_any dA dm dc 60 W wlc (by unfold maxLen; exact wcm) (by omega) wnil
          rw [← hnd] at this
          exact this)
        clear hD hnd wnil
        cases hcl : X.cl with
        | true => as_aux_lemma =>
          have HWR := Lib.hid (sm_write_closed HX6.out.sm hcl dA nd dc)
          go_wp2_with (first
            | (go_at_call 6; (with_reducible refine (HCU.out _).mono ?_); rintro e w7 ⟨rfl, hw7⟩; rw [hw7]; clear hw7)
            | (go_at_call 7; (with_reducible refine HWR.out.mono ?_); rintro e w8 ⟨rfl, hw8⟩; rw [hw8]; clear hw8))
          go_roundg (60 - (i + 1))
          case measure => omega
          case rel => exact ⟨A', n', c', lim, i + 1, reset, over, rfl, by simp, rfl, rfl, by simp, by omega, by omega, by omega, by omega, Lib.hid ⟨X, HX6.out.weakG.suc g2⟩⟩
        | false => as_aux_lemma =>
          by_cases hfull : 0 < nd ∧ roomO X.o = 0
          · have HWR := Lib.hid (sm_write_full HX6.out.sm hcl dA nd dc hfull.1 hfull.2)
            clear hfull
            go_wp2_with (first
              | (go_at_call 6; (with_reducible refine (HCU.out _).mono ?_); rintro e w7 ⟨rfl, hw7⟩; rw [hw7]; clear hw7)
              | (go_at_call 7; (with_reducible refine HWR.out.mono ?_); rintro e w8 ⟨rfl, hw8⟩; rw [hw8]; clear hw8))
            go_roundg (60 - (i + 1))
            case measure => omega
            case rel => exact ⟨A', n', c', lim, i + 1, reset, over, rfl, by simp, rfl, rfl, by simp, by omega, by omega, by omega, by omega, Lib.hid ⟨X, HX6.out.weakG.suc g2⟩⟩
          · obtain ⟨m, hm⟩ : ∃ m, m = writeN X.o nd := ⟨_, rfl⟩
            have hmn : m ≤ nd := by rw [hm]; exact Nat.min_le_left _ _
            have hWR0 := sm_write HX6.out.weakG.sm hcl dA nd dc D ((hrD.below HX6.out.sm.bl).more HX6.out.sm.bl.size) hndc (by omega) (by omega) (by omega)
            rw [← hm] at hWR0
            have HWR := Lib.hid hWR0
            have hnml := own_slice_len HX6.out.own
            have hl4 := HX6.out.len4
            have HFN : Hid (∀ w8 w9 v2, SmPost w W6 q p { X with o := writeO X.o D } (fun b => False ∨ (Value.slice A' n' c').ownBlock = some b) (.tuple #[.int .i64 m, .int .i64 0]) (.returned (.tuple #[.int .i64 m, .int .i64 0])) w8 → Own w9 w.heap.size 5 v2 (X.o.bs ++ D.take m) → w8.grownBy w9 (Value.slice A' n' c').ownBlock → (v2.ownBlock = (Value.slice A' n' c').ownBlock ∨ v2.ownBlock = some w8.heap.size) →
                ∃ A2 n2 c2, v2 = .slice A2 n2 c2 ∧ Hid (∃ X, Kp w w9 q p X (.slice A2 n2 c2) (i + 1) lim reset over (fun _ => False))) := Lib.hid (fun w8 w9 v2 hP hO hg hv => by
              obtain ⟨A2, c2, rfl, _⟩ := hO.open_n _ rfl
              exact ⟨_, _, _, rfl, Lib.hid ⟨_, HX6.out.weakG.write g2 (by omega) hP.2.1 hP.2.2.1 (by rw [hDl, ← hm]; exact hO) hg hv⟩⟩)
            have HRDm := Lib.hid (hrD.cutTo hmn)
            have HOW := Lib.hid (fun (w8 : World) (hk : ∀ b, (False ∨ (Value.slice A' n' c').ownBlock = some b) → w8.heap[b]? = W6.heap[b]?) => HX6.out.own.keep (w' := w8) fun j hj => hk j (.inr hj))
            have HBS := Lib.hid HX6.out.sm.bl
            have hmz : ¬ (nd : Int) < (m : Int) := by omega
            have hmc : (m : Int) ≤ (dc : Int) := by omega
            have HLB : Hid (X.o.bs.length + m ≤ 140737488355328) := Lib.hid (by omega)
            clear hfull hrD hDl hm hWR0 hnml hl4 hcl
            go_wp2_with (first
              | (go_at_call 6; (with_reducible refine (HCU.out _).mono ?_); rintro e w7 ⟨rfl, hw7⟩; rw [hw7]; clear hw7)
              | (go_at_call 7; (with_reducible refine HWR.out.mono ?_); intro e w8 hP; obtain ⟨he, hP2⟩ := hP; subst he; have HP := Lib.hid hP2; clear hP2)
              | (at_builtin; refine wpList_append_at rfl (.tmp 153) (.tmp 156) 26 rfl w.heap.size 5 iu Try.underlying26 hiu hz0 hz1 hz2 (.slice A' n' c') X.o.bs (by rfl) (HOW.out _ HP.out.2.1) w.heap.size dA m dc (D.take m) (by rfl) (HRDm.out.below HP.out.1.bl) HLB.out HP.out.1.bl.size ?_; intro v2 w9 hO9 hg9 hv9; obtain ⟨A2, n2, c2, rfl, hq9⟩ := HFN.out _ w9 v2 ⟨rfl, HP.out⟩ hO9 hg9 hv9; have HQ9 := Lib.hid hq9.out; clear hO9 hg9 hv9 hq9)
              | fail)
            go_roundg (60 - (i + 1))
            case measure => omega
            case rel => exact ⟨A2, n2, c2, lim, i + 1, reset, over, rfl, by simp, rfl, rfl, by simp, by omega, by omega, by omega, by omega, Lib.hid HQ9.out⟩
      · as_aux_lemma =>
        clear e1 e2 e3 e4
        rcases kp_finish HX6.out with hF | hF
        · as_aux_lemma =>
          have HF := Lib.hid hF
          clear hF
          go_wp2_with (go_at_call 8; (with_reducible refine HF.out.mono ?_); rintro e w7 ⟨rfl, hq7, _⟩; have HQ7 := Lib.hid hq7; clear hq7)
          go_roundg (60 - (i + 1))
          case measure => omega
          case rel => exact ⟨A', n', c', lim, i + 1, reset, over, rfl, by simp, rfl, rfl, by simp, by omega, by omega, by omega, by omega, Lib.hid (by obtain ⟨X', h'⟩ := HQ7.out; exact ⟨X', h'.weakG.suc g2⟩)⟩
        · as_aux_lemma =>
          have HF := Lib.hid hF
          clear hF
          go_wp2_with (go_at_call 8; (with_reducible refine HF.out.mono ?_); rintro e w7 ⟨rfl, hq7, _⟩; have HQ7 := Lib.hid hq7; clear hq7)
          go_roundg (60 - (i + 1))
          case measure => omega
          case rel => exact ⟨A', n', c', lim, i + 1, reset, true, rfl, by simp, rfl, rfl, by simp, by omega, by omega, by omega, by omega, Lib.hid (by obtain ⟨X', h'⟩ := HQ7.out; exact ⟨X', h'.weakG.suc g2⟩)⟩
      · as_aux_lemma =>
        clear e1 e2 e4
        obtain ⟨r, hr⟩ : ∃ r, r = nn % 100 := ⟨_, rfl⟩
        have zr : (nn : Int).tmod 100 = (r : Int) := by rw [hr, Int.tmod_eq_emod_of_nonneg (by omega)]; omega
        have hr100 : r < 100 := by omega
        have wr_ : IntKind.u64.wrap (r : Int) = (r : Int) := by rw [IntKind.wrap_u64]; omega
        clear hr
        rcases kp_reset HX6.out r hr100 with hF | hF
        · as_aux_lemma =>
          have HF := Lib.hid hF
          clear hF
          go_wp2_with (go_at_call 9; (with_reducible refine HF.out.mono ?_); rintro e w7 ⟨rfl, hq7, _⟩; have HQ7 := Lib.hid hq7; clear hq7)
          go_roundg (60 - (i + 1))
          case measure => omega
          case rel => exact ⟨A', n', c', lim, i + 1, reset, over, rfl, by simp, rfl, rfl, by simp, by omega, by omega, by omega, by omega, Lib.hid (by obtain ⟨X', h'⟩ := HQ7.out; exact ⟨X', h'.weakG.suc g2⟩)⟩
        · as_aux_lemma =>
          have HF := Lib.hid hF
          clear hF
          go_wp2_with (go_at_call 9; (with_reducible refine HF.out.mono ?_); rintro e w7 ⟨rfl, hq7, _⟩; have HQ7 := Lib.hid hq7; clear hq7)
          go_roundg (60 - (i + 1))
          case measure => omega
          case rel => exact ⟨A', n', c', lim, i + 1, true, over, rfl, by simp, rfl, rfl, by simp, by omega, by omega, by omega, by omega, Lib.hid (by obtain ⟨X', h'⟩ := HQ7.out; exact ⟨X', h'.weakG.suc g2⟩)⟩
      · as_aux_lemma =>
        clear e1 e2 e4
        obtain ⟨r, hr⟩ : ∃ r, r = nn % 500 := ⟨_, rfl⟩
        have zr : (nn : Int).tmod 500 = (r : Int) := by rw [hr, Int.tmod_eq_emod_of_nonneg (by omega)]; omega
        have hr500 : r < 500 := by omega
        have wr_ : IntKind.u64.wrap (r : Int) = (r : Int) := by rw [IntKind.wrap_u64]; omega
        clear hr
        have HF := Lib.hid (kp_limit HX6.out r (by omega))
        have HC7 := Lib.hid (fun (w7 : World) (hk : ∀ b, b = g9 → w7.heap[b]? = W6.heap[b]?) => (show At w7 g9 31 LA from (hk g9 rfl).trans HA6.out))
        have HE3 := Lib.hid (fun (w7 : World) (h : At w7 g9 31 LA) => (show w7.cell? ⟨g9, 3, none⟩ = some (.int .u64 nn) by rw [h.cell, ← HA6.out.cell]; exact e3))
        rcases Nat.lt_or_ge lim r with hlr | hlr
        · as_aux_lemma =>
          have hmx : max lim r = r := by omega
          rw [hmx] at HF
          have hz1 : (lim : Int) < (r : Int) := by omega
          have hz2 : lim < r := hlr
          clear hmx hlr
          go_wp2_with (go_at_call 10; (with_reducible refine HF.out.mono ?_); rintro e w7 ⟨rfl, hq7, hk7⟩; have HQ7 := Lib.hid hq7; have f3 := HE3.out w7 (HC7.out w7 hk7); clear hq7 hk7)
          go_roundg (60 - (i + 1))
          case measure => omega
          case rel => exact ⟨A', n', c', r, i + 1, reset, over, rfl, by simp, rfl, rfl, by simp, by omega, by omega, by omega, by omega, Lib.hid (by obtain ⟨X', h'⟩ := HQ7.out; exact ⟨X', h'.weakG.suc g2⟩)⟩
        · as_aux_lemma =>
          have hmx : max lim r = lim := by omega
          rw [hmx] at HF
          have hz1 : ¬ (lim : Int) < (r : Int) := by omega
          have hz2 : ¬ lim < r := by omega
          clear hmx hlr
          go_wp2_with (go_at_call 10; (with_reducible refine HF.out.mono ?_); rintro e w7 ⟨rfl, hq7, hk7⟩; have HQ7 := Lib.hid hq7; have f3 := HE3.out w7 (HC7.out w7 hk7); clear hq7 hk7)
          go_roundg (60 - (i + 1))
          case measure => omega
          case rel => exact ⟨A', n', c', lim, i + 1, reset, over, rfl, by simp, rfl, rfl, by simp, by omega, by omega, by omega, by omega, Lib.hid (by obtain ⟨X', h'⟩ := HQ7.out; exact ⟨X', h'.weakG.suc g2⟩)⟩
      · as_aux_lemma =>
        clear e4
        have HNX := Lib.hid (kp_next HX6.out room wroom1 nn wn)
        have HC7 := Lib.hid (fun (w7 : World) (hk : ∀ b, b = g9 → w7.heap[b]? = W6.heap[b]?) => (show At w7 g9 31 LA from (hk g9 rfl).trans HA6.out))
        have HE := Lib.hid (fun (w7 : World) (h : At w7 g9 31 LA) => (show w7.cell? ⟨g9, 1, none⟩ = some (.int .i64 room) ∧ w7.cell? ⟨g9, 2, none⟩ = some (.int .i64 ii) from ⟨by rw [h.cell, ← HA6.out.cell]; exact e1, by rw [h.cell, ← HA6.out.cell]; exact e2⟩))
        have hlen' := own_slice_len HX6.out.own
        have hl4 := HX6.out.len4
        have hn4 : n' ≤ 3600 := by omega
        have HB6 := Lib.hid hlen'
        clear hl4 hlen' HX6 HA6 wk wii
        go_upto_region 13 with (first
          | (go_at_call 11; (with_reducible refine HNX.out.mono ?_); rintro e w7 ⟨LF, bb, X', rfl, hl1, hl2, hK7, hk7, hbs7, hcase⟩; have HL1 := Lib.hid hl1; have HL2 := Lib.hid hl2; have HK7 := Lib.hid hK7; have HA7 := Lib.hid (HC7.out w7 hk7); have HBS := Lib.hid hbs7; have HCS := Lib.hid hcase; clear hl1 hl2 hK7 hk7 hbs7 hcase)
          | ((with_reducible refine at_st (x := .tmp 13) ?_); refine st_top _ _ LF (by rfl) _ (by rfl) (by simp) (by rfl) (by rfl) HL1.out HL2.out ?_)
          | fail)
        have hA8 := At.new w7 43 LF
        have hB8 : Below w7.heap.size w7 (w7.alloc (.cells LF.toArray 43)) := (Below.refl _ _).alloc (Nat.le_refl _) _
        have hK8 := HK7.out.below hB8
        have hAg := HA7.out.below hB8 HA7.out.lt
        have hs8 : w7.heap.size < (w7.alloc (.cells LF.toArray 43)).heap.size := hA8.lt
        have HO8 : Hid (∀ A n c bs, Own w7 W6.heap.size 5 (.slice A n c) bs → Own (w7.alloc (.cells LF.toArray 43)) W6.heap.size 5 (.slice A n c) bs) := Lib.hid (fun A n c bs h => h.keep fun j hj => hB8.block j (h.block_lt j hj).2)
        clear hB8
        generalize w7.alloc (.cells LF.toArray 43) = W8 at hA8 hK8 hAg hs8 HO8 ⊢
        generalize hg13 : w7.heap.size = g13 at hA8 hs8 ⊢
        have HA8 := Lib.hid hA8
        have HK8 := Lib.hid hK8
        have HAg := Lib.hid hAg
        obtain ⟨q1, q2⟩ := HE.out W8 hAg
        clear hA8 hK8 hAg hs8 hg13 HK7 HA7 HNX HC7
        rcases HCS.out with rfl | ⟨rfl, hrs, code, hLF, hcode, hgn, hone⟩ | ⟨rfl, hrs, fo, fn, fi, fA, fc, hLF, hfc, hfm, hf492, hfl, hfr, hflim, hffin, hfO, hfC⟩
        · as_aux_lemma =>
          go_wp2_with fail
          go_roundg (60 - (i + 1))
          case measure => omega
          case rel => exact ⟨A', n', c', lim, i + 1, reset, over, rfl, by simp, rfl, rfl, by simp, by omega, by omega, by omega, by omega, Lib.hid ⟨X', HK8.out.weakG.suc g2⟩⟩
        · as_aux_lemma =>
          subst hrs
          have HLF := Lib.hid hLF
          have HON : Hid (∀ W, True → Calls Try.prog 12 #[.agg LF.toArray] W fun e w' => ∃ (oA : Option Addr) (on oc : Nat), e = .returned (.slice oA on oc) ∧ (on : Int) ≤ room ∧ Below W.heap.size W w') := Lib.hid (fun W _ => by
            rw [hLF]
            exact (one_m4 code X'.o.gn hcode (by omega) W).mono fun e w' ⟨oA, on, oc, he, hl, _, _, hB⟩ => ⟨oA, on, oc, he, by rw [← hl]; exact hone, hB⟩)
          obtain ⟨gn, hgn'⟩ : ∃ gn, X'.o.gn = gn := ⟨_, rfl⟩
          have r2 : W8.cell? ⟨g13, 2, none⟩ = some (.int .u64 0) := by rw [HA8.out.cell, hLF]; rfl
          have r3 : W8.cell? ⟨g13, 3, none⟩ = some (.slice none 0 0) := by rw [HA8.out.cell, hLF]; rfl
          have HR7 : Hid (∀ wx, Below W8.heap.size W8 wx → wx.cell? ⟨g13, 7, none⟩ = some (.int .u64 gn)) := Lib.hid (fun wx hb => by rw [(HA8.out.below hb HA8.out.lt).cell, hLF, hgn']; rfl)
          have HGN := Lib.hid hgn'
          clear hLF hone hcode hgn hgn'
          go_upto_region 15 with fail
          clear r2 r3
          go_cut [70] from 53 to 69 (fun s70 wx => s70 = .bool false ∧ Hid (Below W8.heap.size W8 wx))
          case first => as_aux_lemma =>
            obtain ⟨Y, hY⟩ : ∃ x, W8.drew = x := ⟨_, rfl⟩
            have hAY : At Y g13 43 LF := by rw [← hY]; exact HA8.out.drewN 1
            have hgY : Y.cell? ⟨g9, 1, none⟩ = some (.int .i64 room) := by rw [← hY]; exact q1
            have hgl : g9 < Y.heap.size := by rw [← hY]; exact HAg.out.lt
            have HKP : Hid (∀ w', Below Y.heap.size Y w' → w'.rangeAt g13 0 LF ∧ w'.cell? ⟨g13, 0, none⟩ = some (.int .i64 4) ∧ w'.cell? ⟨g13, 1, none⟩ = some (.int .u64 8) ∧ w'.cell? ⟨g9, 1, none⟩ = some (.int .i64 room)) := Lib.hid (fun w' hb => by
              have ha := hAY.below hb hAY.lt
              exact ⟨ha.rangeAt, by rw [ha.cell, HLF.out]; rfl, by rw [ha.cell, HLF.out]; rfl, by rw [hb.cell (p := ⟨g9, 1, none⟩) hgl]; exact hgY⟩)
            have HYB : Hid (∀ w', Below Y.heap.size Y w' → Below W8.heap.size W8 w') := Lib.hid (fun w' hb => by rw [← hY] at hb; exact ⟨hb.os, hb.tape, hb.output, hb.size, hb.block⟩)
            have HKP0 := Lib.hid (HKP.out Y (Below.refl _ _))
            have HONY := Lib.hid (HON.out Y trivial)
            clear hAY hgY hgl HON
            refine wp_region_held_drew (S := (fun W => W.rangeAt g13 0 LF ∧ W.cell? ⟨g13, 0, none⟩ = some (.int .i64 4) ∧ W.cell? ⟨g13, 1, none⟩ = some (.int .u64 8) ∧ W.cell? ⟨g9, 1, none⟩ = some (.int .i64 room))) (by kernel_rfl) (by rw [hY]; exact HKP0.out) (fun hHeld => ?_)
            rw [hY] at hHeld ⊢
            clear hY
            refine tkq 0 (some 53) (v := ?_) rfl (Or.inl ⟨by rfl, ?_⟩) (by assumption) ?_
            rotate_left
            · intro w hSw; (try dsimp only at hSw); go_simp; first | done | (with_reducible rfl)
            simp only [Act.put, List.setIfInBounds_toArray, List.set_cons_zero, List.set_cons_succ]
            refine tkq 1 (some 54) (v := ?_) rfl (Or.inl ⟨by rfl, ?_⟩) (by assumption) ?_
            rotate_left
            · intro w hSw; (try dsimp only at hSw); go_simp; first | done | (with_reducible rfl)
            simp only [Act.put, List.setIfInBounds_toArray, List.set_cons_zero, List.set_cons_succ]
            refine tkq 2 (some 55) (v := ?_) rfl (Or.inl ⟨by rfl, ?_⟩) (by assumption) ?_
            rotate_left
            · intro w hSw; (try dsimp only at hSw); go_simp; first | done | (with_reducible rfl)
            simp only [Act.put, List.setIfInBounds_toArray, List.set_cons_zero, List.set_cons_succ]
            refine tkq 3 (some 56) (v := ?_) rfl (Or.inl ⟨by rfl, ?_⟩) (by assumption) ?_
            rotate_left
            · intro w hSw; (try dsimp only at hSw); go_simp; first | done | (with_reducible rfl)
            simp only [Act.put, List.setIfInBounds_toArray, List.set_cons_zero, List.set_cons_succ]
            refine tkq 4 (some 57) (v := ?_) rfl ?_ (by assumption) ?_
            rotate_left
            · refine yl_any 43 (.tmp 13) ?_ g13 0 ?_ LF _ ?_ Try.underlying43 rfl ?_ ?_
              · rfl
              · rfl
              · intro w hSw; exact hSw.1
              · rw [HL1.out]; exact fr_info
              · rfl
            simp only [Act.put, List.setIfInBounds_toArray, List.set_cons_zero, List.set_cons_succ]
            refine tkq 7 (some 60) (v := ?_) rfl (Or.inl ⟨by rfl, ?_⟩) (by assumption) ?_
            rotate_left
            · intro w hSw; (try dsimp only at hSw); go_simp; first | done | (with_reducible rfl)
            simp only [Act.put, List.setIfInBounds_toArray, List.set_cons_zero, List.set_cons_succ]
            refine tkq 8 (some 61) (v := ?_) rfl (Or.inl ⟨by rfl, ?_⟩) (by assumption) ?_
            rotate_left
            · intro w hSw; (try dsimp only at hSw); go_simp; first | done | (with_reducible rfl)
            simp only [Act.put, List.setIfInBounds_toArray, List.set_cons_zero, List.set_cons_succ]
            refine wpAnyH_ready (rs := [5]) (by kernel_rfl) (by simp) ?_
            refine AllReadyH.cons rfl (fun K hK => ?_) AllReadyH.nil
            go_simp
            go_wp2_with (go_at_call 12; (with_reducible refine HONY.out.mono ?_); rintro ez w10 ⟨oA, on, oc, rfl, hon, hb10⟩)
            refine hK.out _ _ ((HKP.out _ hb10)) (fun hHeld => ?_)
            clear hK K
            refine tkq 6 (some 59) (v := ?_) rfl (Or.inl ⟨by rfl, ?_⟩) (by assumption) ?_
            rotate_left
            · intro w hSw; (try dsimp only at hSw); go_simp; first | done | (with_reducible rfl)
            simp only [Act.put, List.setIfInBounds_toArray, List.set_cons_zero, List.set_cons_succ]
            refine tkq 9 (some 62) (v := ?_) rfl (Or.inl ⟨by rfl, ?_⟩) (by assumption) ?_
            rotate_left
            · intro w hSw; (try dsimp only at hSw); have hz : ¬ room < (on : Int) := (by omega); go_simp; first | done | (with_reducible rfl)
            simp only [Act.put, List.setIfInBounds_toArray, List.set_cons_zero, List.set_cons_succ]
            refine tkq 10 (some 63) (v := ?_) rfl (Or.inl ⟨by rfl, ?_⟩) (by assumption) ?_
            rotate_left
            · intro w hSw; (try dsimp only at hSw); go_simp; first | done | (with_reducible rfl)
            simp only [Act.put, List.setIfInBounds_toArray, List.set_cons_zero, List.set_cons_succ]
            refine tkq 11 (some 64) (v := ?_) rfl (Or.inl ⟨by rfl, ?_⟩) (by assumption) ?_
            rotate_left
            · intro w hSw; (try dsimp only at hSw); go_simp; first | done | (with_reducible rfl)
            simp only [Act.put, List.setIfInBounds_toArray, List.set_cons_zero, List.set_cons_succ]
            refine tkq 12 (some 65) (v := ?_) rfl (Or.inl ⟨by rfl, ?_⟩) (by assumption) ?_
            rotate_left
            · intro w hSw; (try dsimp only at hSw); go_simp; first | done | (with_reducible rfl)
            simp only [Act.put, List.setIfInBounds_toArray, List.set_cons_zero, List.set_cons_succ]
            refine tkq 13 (some 66) (v := ?_) rfl (Or.inl ⟨by rfl, ?_⟩) (by assumption) ?_
            rotate_left
            · intro w hSw; (try dsimp only at hSw); go_simp; first | done | (with_reducible rfl)
            simp only [Act.put, List.setIfInBounds_toArray, List.set_cons_zero, List.set_cons_succ]
            refine tkq 14 (some 67) (v := ?_) rfl (Or.inl ⟨by rfl, ?_⟩) (by assumption) ?_
            rotate_left
            · intro w hSw; (try dsimp only at hSw); go_simp; first | done | (with_reducible rfl)
            simp only [Act.put, List.setIfInBounds_toArray, List.set_cons_zero, List.set_cons_succ]
            refine tkq 15 (some 68) (v := ?_) rfl (Or.inl ⟨by rfl, ?_⟩) (by assumption) ?_
            rotate_left
            · intro w hSw; (try dsimp only at hSw); go_simp; first | done | (with_reducible rfl)
            simp only [Act.put, List.setIfInBounds_toArray, List.set_cons_zero, List.set_cons_succ]
            refine tkq 16 (some 69) (v := ?_) rfl (Or.inl ⟨by rfl, ?_⟩) (by assumption) ?_
            rotate_left
            · intro w hSw; (try dsimp only at hSw); go_simp; first | done | (with_reducible rfl)
            simp only [Act.put, List.setIfInBounds_toArray, List.set_cons_zero, List.set_cons_succ]
            refine tkq 17 (some 70) (v := ?_) rfl (Or.inl ⟨by rfl, ?_⟩) (by assumption) ?_
            rotate_left
            · intro w hSw; (try dsimp only at hSw); go_simp; first | done | (with_reducible rfl)
            simp only [Act.put, List.setIfInBounds_toArray, List.set_cons_zero, List.set_cons_succ]
            refine wpAnyH_done (by kernel_rfl) ?_ _
            go_wp2_with fail
            go_meet
            exact ⟨rfl, Lib.hid (HYB.out _ hb10)⟩
          case rest => as_aux_lemma =>
            obtain ⟨rfl, hbx⟩ := hcut
            have HKX := Lib.hid (HK8.out.below hbx.out)
            have x7 := HR7.out wc hbx.out
            have HSE := Lib.hid (fun d => Calls.quiet_of_same (sm_sent (HKX.out.sm.drewN d)))
            rw [HGN.out] at HSE
            clear hbx HR7 HA8 HAg q1 q2
            generalize hWc : wc = WC at *
            clear hWc
            go_wp2_with fail
            go_quiet ((go_at_call 13; (with_reducible exact HSE.out _)))
            have HKY := Lib.hid (HKX.out.below (below_drewN (Below.refl _ _) nq))
            go_wp2_with fail
            go_roundg (60 - (i + 1))
            case measure => omega
            case rel => exact ⟨A', n', c', lim, i + 1, true, over, rfl, by simp, rfl, rfl, by simp, by omega, by omega, by omega, by omega, Lib.hid ⟨X', HKY.out.weakG.suc g2⟩⟩
        · as_aux_lemma =>
          subst hrs
          have HLF := Lib.hid hLF
          have hfO8 := HO8.out _ _ _ _ hfO
          obtain ⟨DD, hDD⟩ : ∃ DD, (X.o.bs.drop fo).take fn = DD := ⟨_, rfl⟩
          rw [hDD] at hfO8
          have hDl := own_slice_len hfO8
          have hbl := own_slice_len HK8.out.own
          rw [HBS.out] at hbl
          rw [hbl] at hfl hffin
          have HRF : Hid (∀ W, Below W8.heap.size W8 W → Rd W W.heap.size fA fn DD) := Lib.hid (fun W hb => by
            obtain ⟨A2, c2, e, _, _, h3⟩ := hfO8.open_n fn hDl
            injection e with e1 e2 e3
            rw [e1]
            exact (h3.below hb).more hb.size)
          have hfnil : fA = none → fc = 0 := by
            obtain ⟨A2, c2, e, _, _, _⟩ := hfO8.open_n fn hDl
            exact fun hA => Own.nil_cap hfO8 hA
          have HON : Hid (∀ W, Below W8.heap.size W8 W → Calls Try.prog 12 #[.agg LF.toArray] W fun e w' => ∃ (oA : Option Addr) (on oc : Nat), e = .returned (.slice oA on oc) ∧ (on : Int) ≤ room ∧ Below W.heap.size W w') := Lib.hid (fun W hb => by
            rw [hLF]
            refine (one_m8 fo fi fA fn fc DD hf492 (by omega) W ⟨⟨HRF.out W hb, fun _ _ _ _ => trivial⟩, hfc, hfm, hfnil⟩).mono fun e w' ⟨oA, on, oc, he, hl, _, _, hB⟩ => ⟨oA, on, oc, he, ?_, hB⟩
            have := len_m8 fo fi DD (by omega)
            omega)
          obtain ⟨ee, hee⟩ : ∃ ee, ee = fo + fn := ⟨_, rfl⟩
          have zee : (fo : Int) + (fn : Int) = (ee : Int) := by omega
          have hee2 : ee ≤ n' := by omega
          have wfn : IntKind.u64.wrap (fn : Int) = (fn : Int) := by rw [IntKind.wrap_u64]; omega
          have wee : IntKind.u64.wrap (ee : Int) = (ee : Int) := by rw [IntKind.wrap_u64]; omega
          have r2 : W8.cell? ⟨g13, 2, none⟩ = some (.int .u64 fo) := by rw [HA8.out.cell, hLF]; rfl
          have r3 : W8.cell? ⟨g13, 3, none⟩ = some (.slice fA fn fc) := by rw [HA8.out.cell, hLF]; rfl
          have HRX : Hid (∀ wx, Below W8.heap.size W8 wx → wx.cell? ⟨g13, 0, none⟩ = some (.int .i64 8) ∧ wx.cell? ⟨g13, 2, none⟩ = some (.int .u64 fo) ∧ wx.cell? ⟨g13, 3, none⟩ = some (.slice fA fn fc) ∧ wx.cell? ⟨g13, 4, none⟩ = some (.bool fi)) := Lib.hid (fun wx hb => by
            have ha := HA8.out.below hb HA8.out.lt
            exact ⟨by rw [ha.cell, hLF]; rfl, by rw [ha.cell, hLF]; rfl, by rw [ha.cell, hLF]; rfl, by rw [ha.cell, hLF]; rfl⟩)
          have HFC := Lib.hid hfC
          have HFL := Lib.hid hflim
          have HFF := Lib.hid hffin
          have HDD := Lib.hid hDD
          have HEE := Lib.hid hee
          clear hLF hfO hfO8 hDD hDl hbl hfl hfr hflim hffin hfC hfnil hee
          go_upto_region 15 with fail
          clear r2 r3
          go_cut [70] from 53 to 69 (fun s70 wx => s70 = .bool false ∧ Hid (Below W8.heap.size W8 wx))
          case first => as_aux_lemma =>
            obtain ⟨Y, hY⟩ : ∃ x, W8.drew = x := ⟨_, rfl⟩
            have hAY : At Y g13 43 LF := by rw [← hY]; exact HA8.out.drewN 1
            have hgY : Y.cell? ⟨g9, 1, none⟩ = some (.int .i64 room) := by rw [← hY]; exact q1
            have hgl : g9 < Y.heap.size := by rw [← hY]; exact HAg.out.lt
            have HKP : Hid (∀ w', Below Y.heap.size Y w' → w'.rangeAt g13 0 LF ∧ w'.cell? ⟨g13, 0, none⟩ = some (.int .i64 8) ∧ w'.cell? ⟨g13, 1, none⟩ = some (.int .u64 8) ∧ w'.cell? ⟨g9, 1, none⟩ = some (.int .i64 room)) := Lib.hid (fun w' hb => by
              have ha := hAY.below hb hAY.lt
              exact ⟨ha.rangeAt, by rw [ha.cell, HLF.out]; rfl, by rw [ha.cell, HLF.out]; rfl, by rw [hb.cell (p := ⟨g9, 1, none⟩) hgl]; exact hgY⟩)
            have HYB : Hid (∀ w', Below Y.heap.size Y w' → Below W8.heap.size W8 w') := Lib.hid (fun w' hb => by rw [← hY] at hb; exact ⟨hb.os, hb.tape, hb.output, hb.size, hb.block⟩)
            have HKP0 := Lib.hid (HKP.out Y (Below.refl _ _))
            have HONY := Lib.hid (HON.out Y (by rw [← hY]; exact below_drewN (Below.refl _ _) 1))
            clear hAY hgY hgl HON
            refine wp_region_held_drew (S := (fun W => W.rangeAt g13 0 LF ∧ W.cell? ⟨g13, 0, none⟩ = some (.int .i64 8) ∧ W.cell? ⟨g13, 1, none⟩ = some (.int .u64 8) ∧ W.cell? ⟨g9, 1, none⟩ = some (.int .i64 room))) (by kernel_rfl) (by rw [hY]; exact HKP0.out) (fun hHeld => ?_)
            rw [hY] at hHeld ⊢
            clear hY
            refine tkq 0 (some 53) (v := ?_) rfl (Or.inl ⟨by rfl, ?_⟩) (by assumption) ?_
            rotate_left
            · intro w hSw; (try dsimp only at hSw); go_simp; first | done | (with_reducible rfl)
            simp only [Act.put, List.setIfInBounds_toArray, List.set_cons_zero, List.set_cons_succ]
            refine tkq 1 (some 54) (v := ?_) rfl (Or.inl ⟨by rfl, ?_⟩) (by assumption) ?_
            rotate_left
            · intro w hSw; (try dsimp only at hSw); go_simp; first | done | (with_reducible rfl)
            simp only [Act.put, List.setIfInBounds_toArray, List.set_cons_zero, List.set_cons_succ]
            refine tkq 2 (some 55) (v := ?_) rfl (Or.inl ⟨by rfl, ?_⟩) (by assumption) ?_
            rotate_left
            · intro w hSw; (try dsimp only at hSw); go_simp; first | done | (with_reducible rfl)
            simp only [Act.put, List.setIfInBounds_toArray, List.set_cons_zero, List.set_cons_succ]
            refine tkq 3 (some 56) (v := ?_) rfl (Or.inl ⟨by rfl, ?_⟩) (by assumption) ?_
            rotate_left
            · intro w hSw; (try dsimp only at hSw); go_simp; first | done | (with_reducible rfl)
            simp only [Act.put, List.setIfInBounds_toArray, List.set_cons_zero, List.set_cons_succ]
            refine tkq 4 (some 57) (v := ?_) rfl ?_ (by assumption) ?_
            rotate_left
            · refine yl_any 43 (.tmp 13) ?_ g13 0 ?_ LF _ ?_ Try.underlying43 rfl ?_ ?_
              · rfl
              · rfl
              · intro w hSw; exact hSw.1
              · rw [HL1.out]; exact fr_info
              · rfl
            simp only [Act.put, List.setIfInBounds_toArray, List.set_cons_zero, List.set_cons_succ]
            refine tkq 7 (some 60) (v := ?_) rfl (Or.inl ⟨by rfl, ?_⟩) (by assumption) ?_
            rotate_left
            · intro w hSw; (try dsimp only at hSw); go_simp; first | done | (with_reducible rfl)
            simp only [Act.put, List.setIfInBounds_toArray, List.set_cons_zero, List.set_cons_succ]
            refine tkq 8 (some 61) (v := ?_) rfl (Or.inl ⟨by rfl, ?_⟩) (by assumption) ?_
            rotate_left
            · intro w hSw; (try dsimp only at hSw); go_simp; first | done | (with_reducible rfl)
            simp only [Act.put, List.setIfInBounds_toArray, List.set_cons_zero, List.set_cons_succ]
            refine wpAnyH_ready (rs := [5]) (by kernel_rfl) (by simp) ?_
            refine AllReadyH.cons rfl (fun K hK => ?_) AllReadyH.nil
            go_simp
            go_wp2_with (go_at_call 12; (with_reducible refine HONY.out.mono ?_); rintro ez w10 ⟨oA, on, oc, rfl, hon, hb10⟩)
            refine hK.out _ _ ((HKP.out _ hb10)) (fun hHeld => ?_)
            clear hK K
            refine tkq 6 (some 59) (v := ?_) rfl (Or.inl ⟨by rfl, ?_⟩) (by assumption) ?_
            rotate_left
            · intro w hSw; (try dsimp only at hSw); go_simp; first | done | (with_reducible rfl)
            simp only [Act.put, List.setIfInBounds_toArray, List.set_cons_zero, List.set_cons_succ]
            refine tkq 9 (some 62) (v := ?_) rfl (Or.inl ⟨by rfl, ?_⟩) (by assumption) ?_
            rotate_left
            · intro w hSw; (try dsimp only at hSw); have hz : ¬ room < (on : Int) := (by omega); go_simp; first | done | (with_reducible rfl)
            simp only [Act.put, List.setIfInBounds_toArray, List.set_cons_zero, List.set_cons_succ]
            refine tkq 10 (some 63) (v := ?_) rfl (Or.inl ⟨by rfl, ?_⟩) (by assumption) ?_
            rotate_left
            · intro w hSw; (try dsimp only at hSw); go_simp; first | done | (with_reducible rfl)
            simp only [Act.put, List.setIfInBounds_toArray, List.set_cons_zero, List.set_cons_succ]
            refine tkq 11 (some 64) (v := ?_) rfl (Or.inl ⟨by rfl, ?_⟩) (by assumption) ?_
            rotate_left
            · intro w hSw; (try dsimp only at hSw); go_simp; first | done | (with_reducible rfl)
            simp only [Act.put, List.setIfInBounds_toArray, List.set_cons_zero, List.set_cons_succ]
            refine tkq 12 (some 65) (v := ?_) rfl (Or.inl ⟨by rfl, ?_⟩) (by assumption) ?_
            rotate_left
            · intro w hSw; (try dsimp only at hSw); go_simp; first | done | (with_reducible rfl)
            simp only [Act.put, List.setIfInBounds_toArray, List.set_cons_zero, List.set_cons_succ]
            refine tkq 13 (some 66) (v := ?_) rfl (Or.inl ⟨by rfl, ?_⟩) (by assumption) ?_
            rotate_left
            · intro w hSw; (try dsimp only at hSw); go_simp; first | done | (with_reducible rfl)
            simp only [Act.put, List.setIfInBounds_toArray, List.set_cons_zero, List.set_cons_succ]
            refine tkq 14 (some 67) (v := ?_) rfl (Or.inl ⟨by rfl, ?_⟩) (by assumption) ?_
            rotate_left
            · intro w hSw; (try dsimp only at hSw); go_simp; first | done | (with_reducible rfl)
            simp only [Act.put, List.setIfInBounds_toArray, List.set_cons_zero, List.set_cons_succ]
            refine tkq 15 (some 68) (v := ?_) rfl (Or.inl ⟨by rfl, ?_⟩) (by assumption) ?_
            rotate_left
            · intro w hSw; (try dsimp only at hSw); go_simp; first | done | (with_reducible rfl)
            simp only [Act.put, List.setIfInBounds_toArray, List.set_cons_zero, List.set_cons_succ]
            refine tkq 16 (some 69) (v := ?_) rfl (Or.inl ⟨by rfl, ?_⟩) (by assumption) ?_
            rotate_left
            · intro w hSw; (try dsimp only at hSw); go_simp; first | done | (with_reducible rfl)
            simp only [Act.put, List.setIfInBounds_toArray, List.set_cons_zero, List.set_cons_succ]
            refine tkq 17 (some 70) (v := ?_) rfl (Or.inl ⟨by rfl, ?_⟩) (by assumption) ?_
            rotate_left
            · intro w hSw; (try dsimp only at hSw); go_simp; first | done | (with_reducible rfl)
            simp only [Act.put, List.setIfInBounds_toArray, List.set_cons_zero, List.set_cons_succ]
            refine wpAnyH_done (by kernel_rfl) ?_ _
            go_wp2_with fail
            go_meet
            exact ⟨rfl, Lib.hid (HYB.out _ hb10)⟩
          case rest => as_aux_lemma =>
            obtain ⟨rfl, hbx⟩ := hcut
            have HKX := Lib.hid (HK8.out.below hbx.out)
            have HRXX := Lib.hid (HRX.out wc hbx.out)
            have HAX := Lib.hid (HA8.out.below hbx.out HA8.out.lt)
            have HIX : Hid (wc.cell? ⟨g9, 2, none⟩ = some (.int .i64 ii)) := Lib.hid (by rw [hbx.out.cell (p := ⟨g9, 2, none⟩) HAg.out.lt]; exact q2)
            have HRD2 := Lib.hid (HRF.out wc hbx.out)
            clear hbx HRX HA8 HAg q1 q2 HK8 HRF HON HO8
            generalize hWc : wc = WC at *
            clear hWc
            obtain ⟨T, hT⟩ : ∃ T, T = strOfNums DD := ⟨_, rfl⟩
            have HT := Lib.hid hT
            have hbb := bb_refl T
            clear hT
            go_upto_region 20 with fail
            go_cut [124] from 77 to 123 (fun s124 wx => s124 = .bool false ∧ ∃ d, wx = WC.drewN d)
            case first => as_aux_lemma =>
              obtain ⟨x0, x2, x3, x4⟩ := HRXX.out
              obtain ⟨UA, hUA⟩ : ∃ UA, (if c' = fo then A' else Option.map (fun x => x.add fo) A') = UA := ⟨_, rfl⟩
              have hcc := kp_cut HKX.out.own fo fn (by have := HEE.out; omega)
              rw [HBS.out, HDD.out] at hcc
              have e1 : cutA A' c' fo = UA := hUA
              rw [e1] at hcc
              have hmx := hcc.2.1
              unfold maxLen at hmx
              have hncc := hcc.1
              have hstr : Hid (∀ j, (convert 26 9 (.slice UA (ee - fo) (c' - fo))).run Try.prog (WC.drewN j) = .ok (.string T) (WC.drewN j) ∧ (convert 26 9 (.slice fA fn fc)).run Try.prog (WC.drewN j) = .ok (.string T) (WC.drewN j)) := Lib.hid (fun j => by
                rw [HT.out, show ee - fo = fn by have := HEE.out; omega]
                exact ⟨run_text (P := Try.prog) (c := c' - fo) (hcc.2.2.drewN j) 26 5 9 Try.underlying26 Try.underlying5 Try.underlying9, run_text (P := Try.prog) (c := fc) (HRD2.out.drewN j) 26 5 9 Try.underlying26 Try.underlying5 Try.underlying9⟩)
              have t1 := fun j => (hstr.out j).1
              have t2 := fun j => (hstr.out j).2
              have zo1 : ¬ (n' : Int) < (fo : Int) := by have := HEE.out; omega
              have zem : ¬ (n' : Int) < (ee : Int) := by omega
              have zoe : (fo : Int) ≤ (ee : Int) := by have := HEE.out; omega
              have zec : (ee : Int) ≤ (c' : Int) := by omega
              have wnn : IntKind.u64.wrap (n' : Int) = (n' : Int) := by rw [IntKind.wrap_u64]; omega
              have wfo : IntKind.i64.wrap (fo : Int) = (fo : Int) := by rw [IntKind.wrap_i64]; omega
              have wee2 : IntKind.i64.wrap (ee : Int) = (ee : Int) := by rw [IntKind.wrap_i64]; omega
              clear hcc hstr e1
              rcases Nat.lt_or_ge lim ee with hle | hle
              · as_aux_lemma =>
                have zle : (lim : Int) < (ee : Int) := by omega
                have zle2 : lim < ee := hle
                have zn0 : fn = 0 := by have := HFL.out; have := HEE.out; omega
                have zn1 : ¬ (0 : Int) < (fn : Int) := by omega
                have zn2 : ¬ 0 < fn := by omega
                clear zn0 hle
                cases fi
                · go_quiet (fail)
                  go_wp2_with fail
                  go_meet
                  exact ⟨rfl, _, rfl⟩
                · have hov : over = true := (HFF.out rfl).1
                  have hen : n' = ee := by have := (HFF.out rfl).2; have := HEE.out; omega
                  subst hov
                  subst hen
                  go_quiet (fail)
                  go_wp2_with fail
                  go_meet
                  exact ⟨rfl, _, rfl⟩
              · as_aux_lemma =>
                have zle : ¬ (lim : Int) < (ee : Int) := by omega
                have zle2 : ¬ lim < ee := by omega
                clear hle
                cases fi
                · go_quiet (fail)
                  go_wp2_with fail
                  go_meet
                  exact ⟨rfl, _, rfl⟩
                · have hov : over = true := (HFF.out rfl).1
                  have hen : n' = ee := by have := (HFF.out rfl).2; have := HEE.out; omega
                  subst hov
                  subst hen
                  go_quiet (fail)
                  go_wp2_with fail
                  go_meet
                  exact ⟨rfl, _, rfl⟩
            case rest => as_aux_lemma =>
              obtain ⟨rfl, dd, hdd⟩ := hcut
              have HKZ : Hid (Kp w wc q p X' (.slice A' n' c') i lim false over (· = g9)) := Lib.hid (by rw [hdd]; exact HKX.out.below (below_drewN (Below.refl _ _) dd))
              have HAZ : Hid (At wc g13 43 LF) := Lib.hid (by rw [hdd]; exact HAX.out.drewN dd)
              have i2 : wc.cell? ⟨g9, 2, none⟩ = some (.int .i64 ii) := by rw [hdd]; exact HIX.out
              have hcc := HFC.out wc HKZ.out
              have HLO := Lib.hid hcc.1
              have HAC := Lib.hid hcc.2
              clear hdd hcc HKX HAX HIX HRXX HFC HRD2 HT hbb
              generalize hWc2 : wc = WD at *
              clear hWc2
              obtain ⟨z, hz⟩ : ∃ z, ii.tmod 2 = z := ⟨_, rfl⟩
              have hzb : -2 < z ∧ z < 2 := by rw [← hz]; have := Int.tmod_lt_of_pos ii (show (0 : Int) < 2 by decide); have := Int.lt_tmod_of_pos ii (show (0 : Int) < 2 by decide); omega
              have wz : IntKind.i64.wrap z = z := by rw [IntKind.wrap_i64]; omega
              clear hzb
              cases hz0 : (z == 0) with
              | true => as_aux_lemma =>
                go_wp2_with (first
                  | ((with_reducible refine at_ld ?_); refine ld_fr_g g13 LF (by rfl) (by rfl) HAZ.out HL1.out ?_)
                  | (go_at_call 14; (with_reducible refine HLO.out.mono ?_); rintro e w12 ⟨rfl, hq12, _⟩; have HQ12 := Lib.hid hq12; clear hq12)
                  | fail)
                go_roundg (60 - (i + 1))
                case measure => omega
                case rel => exact ⟨A', n', c', lim, i + 1, false, over, rfl, by simp, rfl, rfl, by simp, by omega, by omega, by omega, by omega, Lib.hid (by obtain ⟨X2, h2⟩ := HQ12.out; exact ⟨X2, h2.weakG.suc g2⟩)⟩
              | false => as_aux_lemma =>
                go_wp2_with (first
                  | ((with_reducible refine at_ld ?_); refine ld_fr_g g13 LF (by rfl) (by rfl) HAZ.out HL1.out ?_)
                  | (go_at_call 15; (with_reducible refine HAC.out.mono ?_); rintro e w12 ⟨rfl, hq12, _⟩; have HQ12 := Lib.hid hq12; clear hq12)
                  | fail)
                go_roundg (60 - (i + 1))
                case measure => omega
                case rel => exact ⟨A', n', c', lim, i + 1, false, over, rfl, by simp, rfl, rfl, by simp, by omega, by omega, by omega, by omega, Lib.hid (by obtain ⟨X2, h2⟩ := HQ12.out; exact ⟨X2, h2.weakG.suc g2⟩)⟩
    · have hgo2 : (i = n ∧ ¬ (i : Int) < (n : Int)) ∨ ((i : Int) < (n : Int) ∧ ¬ (i : Int) < 60) := by omega
      have HBL := Lib.hid HX.out.sm.bl
      clear hgo HX
      rcases hgo2 with ⟨h1, h2⟩ | ⟨h1, h2⟩
      · clear h1
        go_wp2_with (go_at_call 16; (with_reducible refine (HK.out _).mono ?_); rintro e w8 ⟨rfl, hb8⟩; have HB8 := Lib.hid hb8; clear hb8)
        go_ret
        exact ⟨by first | rfl | simp, HBL.out.trans (HB8.out.mono HBL.out.size)⟩
      · have h2' : ¬ (i : Int) < 60 := h2
        clear h2
        go_wp2_with (go_at_call 16; (with_reducible refine (HK.out _).mono ?_); rintro e w8 ⟨rfl, hb8⟩; have HB8 := Lib.hid hb8; clear hb8)
        go_ret
        exact ⟨by first | rfl | simp, HBL.out.trans (HB8.out.mono HBL.out.size)⟩
end Go.Proofs.Ytohahkjikhpamaa
