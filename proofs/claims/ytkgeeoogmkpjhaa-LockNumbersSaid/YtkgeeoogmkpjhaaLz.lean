/-
  The document's own Open (narthexref8); lock.Of, lock.Next.
-/
import Derived.Test.YtkgeeoogmkpjhaaLy
namespace Go.Proofs.Ytkgeeoogmkpjhaa
set_option linter.unusedVariables false
set_option linter.unusedSimpArgs false
open Go.RowKit Go.ChangeShapes Go.WideShapes Go.Deep
theorem nums_eqB (xs ys : List Int) (hx : Byt xs) (hy : Byt ys) : (strOfNums xs == strOfNums ys) = decide (xs = ys) := by
  by_cases e : xs = ys
  · subst e; rw [bb_refl]; simp
  · rw [str_ne xs ys hx hy e]; simp [e]
theorem n8B_l (m m' : N8) : n8B m m' = decide (m.l = m'.l) := by
  by_cases e : m.l = m'.l
  · rw [N8.ext_ e, n8B_refl]; simp
  · rw [decide_eq_false e]
    cases h : n8B m m'
    · rfl
    · exact absurd (by rw [(n8B_eq m m').1 h]) e
set_option maxRecDepth 100000 in
set_option maxHeartbeats 4000000 in
theorem ropen_any (key n : Int) (Ah : Option Addr) (nh ch : Nat) (head : List Int) (Ab : Option Addr) (nb cb : Nat) (sealed : List Int) (w : World) (hrh : Rd w w.heap.size Ah nh head) (hrb : Rd w w.heap.size Ab nb sealed) (hh1 : nh ≤ ch) (hh2 : ch ≤ maxLen) (hb1' : nb ≤ cb) (hb2' : cb ≤ maxLen) (hln : nh + nb ≤ 140737488354000) (k0 : 0 ≤ key) (k1 : key < 18446744073709551616) (n0 : 0 ≤ n) (n1 : n < 18446744073709551616) :
    Calls Try.prog 25 #[.int .u64 key, .int .u64 n, .slice Ah nh ch, .slice Ab nb cb] w (OpPost w key n head sealed) := by
  unfold OpPost
  have hh3 := hh2
  have hb3' := hb2'
  unfold maxLen at hh3 hb3'
  rcases Nat.lt_or_ge nb 8 with h8 | h8
  · obtain ⟨e1, e2⟩ := openB_short key n head sealed (by rw [hrb.1]; exact h8)
    rw [e1, e2]
    go_enter Try.func25, Try.ntmps25
    go_wp2_with fail
    refine bodyPost_ret (results_tmp2 rfl _ _ _) rfl ?_
    exact ⟨_, rfl, Own.none_ _ _ _, Below.refl _ _⟩
  · obtain ⟨d, rfl⟩ : ∃ d, nb = d + 8 := ⟨nb - 8, by omega⟩
    have hsl := hrb.1
    have hrt := hrb.cutTo (m := d) (by omega)
    have hrf := hrb.cutFrom (c := cb) (k := d) (by omega) hb1'
    obtain ⟨b, off, rfl, hbl, _⟩ := hrb.2.2 (by omega)
    have ecut : cutA (some ⟨b, off, none⟩) cb d = some ⟨b, off + d, none⟩ := by unfold cutA; rw [if_neg (by omega), Option.map_some, addr_add]
    rw [ecut, show d + 8 - d = 8 by omega] at hrf
    have hby : Byt (sealed.drop d) := hrf.2.1
    have hl8 : (sealed.drop d).length = 8 := hrf.1
    have hOB : openB key n head sealed = decide ((tagS key n head (sealed.take d)).l = sealed.drop d) := by
      unfold openB; rw [hsl, Nat.add_sub_cancel, decide_eq_true (by omega), Bool.true_and, n8B_l, N8.l_of _ hl8]
      simp only [eq_comm]
    have hOS : openS key n head sealed = if openB key n head sealed then turnS key n (sealed.take d) else [] := by unfold openS; rw [hsl, Nat.add_sub_cancel]
    rw [hOS]
    obtain ⟨hid, hhid⟩ : ∃ x, sealed.take d = x := ⟨_, rfl⟩
    rw [hhid] at hrt hOB
    rw [hhid]
    have HT := Lib.hid (fun W (h : Rd W W.heap.size (some ⟨b, off, none⟩) d hid) => rturned_any key n (some ⟨b, off, none⟩) d cb hid W h (by omega) hb2' (by omega) k0 k1 n0 n1)
    have HG := Lib.hid (fun W (h : Rd W W.heap.size Ah nh head) (h' : Rd W W.heap.size (some ⟨b, off, none⟩) d hid) => rtag_any key n Ah nh ch head (some ⟨b, off, none⟩) d cb hid W h h' hh1 hh2 (by omega) hb2' (by omega) k0 k1 n0 n1)
    have h9 := tagS_byt key n head hid
    obtain ⟨m9, hm9⟩ : ∃ x, tagS key n head hid = x := ⟨_, rfl⟩
    rw [hm9] at HG hOB h9
    rw [← nums_eqB _ _ h9 hby] at hOB
    obtain ⟨B, hB⟩ : ∃ x, openB key n head sealed = x := ⟨_, rfl⟩
    rw [hB] at hOB ⊢
    obtain ⟨dr, hdr⟩ : ∃ x, sealed.drop d = x := ⟨_, rfl⟩
    rw [hdr] at hOB hrf
    have htx : ∀ W : World, Rd W W.heap.size (some ⟨b, off + d, none⟩) 8 dr → (convert 22 9 (.slice (some ⟨b, off + d, none⟩) 8 (cb - d))).run Try.prog W = .ok (.string (strOfNums dr)) W := fun W h => run_text (P := Try.prog) (c := cb - d) h 22 5 9 Try.underlying22 Try.underlying5 Try.underlying9
    have htx2 : ∀ (W : World) A c, Rd W W.heap.size A 8 m9.l → (convert 22 9 (.slice A 8 c)).run Try.prog W = .ok (.string (strOfNums m9.l)) W := fun W A c h => run_text (P := Try.prog) (c := c) h 22 5 9 Try.underlying22 Try.underlying5 Try.underlying9
    obtain ⟨T1, hT1⟩ : ∃ x, strOfNums m9.l = x := ⟨_, rfl⟩
    obtain ⟨T2, hT2⟩ : ∃ x, strOfNums dr = x := ⟨_, rfl⟩
    rw [hT1] at hOB htx2
    rw [hT2] at hOB htx
    have HTX := Lib.hid htx
    have HTX2 := Lib.hid htx2
    have HRH := Lib.hid hrh
    have HRT := Lib.hid hrt
    have HRF := Lib.hid hrf
    have HOB := Lib.hid hOB.symm
    have hdi : (d : Int) ≤ (d : Int) + 8 := by omega
    have hcd : ¬ cb = d := by omega
    have hb0 := Below.refl w.heap.size w
    have hcc : d ≤ cb := by omega
    clear hm9 hB hdr hT1 hT2 htx htx2 hrh hrt hrf hrb hOB hOS hsl hby hl8 ecut h9 hhid
    go_enter Try.func25, Try.ntmps25
    go_wp2_with fail
    have hb0 : Below w.heap.size w w.drew := belowN hb0 1
    obtain ⟨Y, hY⟩ : ∃ x, w.drew = x := ⟨_, rfl⟩
    rw [hY] at hb0
    refine wp_region_held_drew (S := (fun W => (convert 22 9 (.slice (some ⟨b, off + d, none⟩) 8 (cb - d))).run Try.prog W = .ok (.string T2) W)) (by kernel_rfl) (by rw [hY]; exact HTX.out Y ((HRF.out.below hb0).more hb0.size)) (fun hHeld => ?_)
    rw [hY] at hHeld ⊢
    clear hY
    refine tkq 0 (some 19) (v := ?_) rfl (Or.inl ⟨by rfl, ?_⟩) (by assumption) ?_
    rotate_left
    · intro w hSw; (try dsimp only at hSw); go_simp; first | done | (with_reducible rfl)
    simp only [Act.put, List.setIfInBounds_toArray, List.set_cons_zero, List.set_cons_succ]
    refine tkq 1 (some 20) (v := ?_) rfl (Or.inl ⟨by rfl, ?_⟩) (by assumption) ?_
    rotate_left
    · intro w hSw; (try dsimp only at hSw); go_simp; first | done | (with_reducible rfl)
    simp only [Act.put, List.setIfInBounds_toArray, List.set_cons_zero, List.set_cons_succ]
    refine tkq 2 (some 21) (v := ?_) rfl (Or.inl ⟨by rfl, ?_⟩) (by assumption) ?_
    rotate_left
    · intro w hSw; (try dsimp only at hSw); go_simp; first | done | (with_reducible rfl)
    simp only [Act.put, List.setIfInBounds_toArray, List.set_cons_zero, List.set_cons_succ]
    refine tkq 3 (some 22) (v := ?_) rfl (Or.inl ⟨by rfl, ?_⟩) (by assumption) ?_
    rotate_left
    · intro w hSw; (try dsimp only at hSw); go_simp; first | done | (with_reducible rfl)
    simp only [Act.put, List.setIfInBounds_toArray, List.set_cons_zero, List.set_cons_succ]
    refine tkq 6 (some 25) (v := ?_) rfl (Or.inl ⟨by rfl, ?_⟩) (by assumption) ?_
    rotate_left
    · intro w hSw; (try dsimp only at hSw); go_simp; first | done | (with_reducible rfl)
    simp only [Act.put, List.setIfInBounds_toArray, List.set_cons_zero, List.set_cons_succ]
    refine tkq 7 (some 26) (v := ?_) rfl (Or.inl ⟨by rfl, ?_⟩) (by assumption) ?_
    rotate_left
    · intro w hSw; (try dsimp only at hSw); go_simp; first | done | (with_reducible rfl)
    simp only [Act.put, List.setIfInBounds_toArray, List.set_cons_zero, List.set_cons_succ]
    refine tkq 8 (some 27) (v := ?_) rfl (Or.inl ⟨by rfl, ?_⟩) (by assumption) ?_
    rotate_left
    · intro w hSw; (try dsimp only at hSw); go_simp; first | done | (with_reducible rfl)
    simp only [Act.put, List.setIfInBounds_toArray, List.set_cons_zero, List.set_cons_succ]
    refine tkq 9 (some 28) (v := ?_) rfl (Or.inl ⟨by rfl, ?_⟩) (by assumption) ?_
    rotate_left
    · intro w hSw; (try dsimp only at hSw); go_simp; first | done | (with_reducible rfl)
    simp only [Act.put, List.setIfInBounds_toArray, List.set_cons_zero, List.set_cons_succ]
    refine tkq 10 (some 29) (v := .string T2) rfl (Or.inl ⟨by rfl, ?_⟩) (by assumption) ?_
    · intro w hSw; (try dsimp only at hSw); go_simp
    simp only [Act.put, List.setIfInBounds_toArray, List.set_cons_zero, List.set_cons_succ]
    refine wpAnyH_ready (rs := [4]) (by kernel_rfl) (by simp) ?_
    refine AllReadyH.cons rfl (fun K hK => ?_) AllReadyH.nil
    go_simp
    go_wp2_with (go_at_call 24; refine (HG.out _ ((HRH.out.below hb0).more hb0.size) ((HRT.out.below hb0).more hb0.size)).mono ?_; rintro e W2 ⟨v2, rfl, ho2, hb2⟩; obtain ⟨A2, c2, rfl, p1, p2, p3⟩ := ho2.open_n 8 rfl; have hcv := HTX2.out W2 A2 c2 p3; have hb2 := hb0.trans (hb2.mono hb0.size))
    refine hK.out _ _ (HTX.out W2 ((HRF.out.below hb2).more hb2.size)) (fun hHeld => ?_)
    clear hK K
    refine wpAnyH_ready (rs := [5]) (by kernel_rfl) (by simp) ?_
    refine AllReadyH.cons rfl (fun K hK => ?_) AllReadyH.nil
    go_simp
    go_wp2_with (fail)
    refine hK.out _ _ (HTX.out W2 ((HRF.out.below hb2).more hb2.size)) (fun hHeld => ?_)
    clear hK K
    refine tkq 11 (some 30) (v := .bool (!B)) rfl (Or.inl ⟨by rfl, ?_⟩) (by assumption) ?_
    · intro w hSw; (try dsimp only at hSw); rw [← HOB.out]; go_simp; exact (beq_toListBytes T1 T2).symm
    simp only [Act.put, List.setIfInBounds_toArray, List.set_cons_zero, List.set_cons_succ]
    refine wpAnyH_done (by kernel_rfl) ?_ _
    cases B
    · go_wp2_with fail
      refine bodyPost_ret (results_tmp2 rfl _ _ _) rfl ?_
      exact ⟨_, rfl, Own.none_ _ _ _, hb2⟩
    · go_wp2_with fail
      refine (HT.out W2 ((HRT.out.below hb2).more hb2.size)).mono ?_
      rintro e W5 ⟨v5, rfl, ho5, hb5⟩
      have ho5 := ho5.base_ hb2.size
      have hb5 := hb2.trans (hb5.mono hb2.size)
      go_wp2_with fail
      refine bodyPost_ret (results_tmp2 rfl _ _ _) rfl ?_
      exact ⟨_, rfl, ho5, hb5⟩
end Go.Proofs.Ytkgeeoogmkpjhaa
