/-
  slices.Replace on Ranges of the call's own, whole; slices.Delete from the front.
-/
import Derived.Test.YtohahkjikhpamaaQc
namespace Go.Proofs.Ytohahkjikhpamaa
set_option linter.unusedVariables false
set_option linter.unusedSimpArgs false
open Go.RowKit
theorem spost_of_f {base : Nat} {v : Value} {n : Nat} {X : List Value} {l' : RL} {w : World} {e : Ending} {w' : World} (h : FPost base v n X w e w') (hn : n = l'.length) (hX : X = rlC l') (wd : WdL l') : SPost base v l' w e w' := by
  obtain ⟨v', he, h1, h2, h3⟩ := h
  subst hn; subst hX
  exact ⟨v', he, ⟨h1, wd⟩, h2, h3⟩
set_option maxHeartbeats 1000000 in
set_option maxRecDepth 100000 in
theorem lrep_i (base basev : Nat) (v vv : Value) (l rs : RL) (i : Nat) (w : World) (hl : OwnL w base v l) (hr : OwnL w basev vv rs) (hne : ∀ k, v.ownBlock = some k → vv.ownBlock ≠ some k) (hi : i ≤ l.length) (hN : l.length + rs.length ≤ 2000000) (hb : base ≤ w.heap.size) :
    Calls Try.prog 71 #[v, .int .i64 i, .int .i64 i, vv] w (SPost base v (l.take i ++ rs ++ l.drop i) w) := by
  have hI := linsert_any base basev v vv l rs i w hl hr hne hi hN hb
  have hI' := Lib.hid hI
  clear hI
  obtain ⟨A, c, rfl, hnc, hcm⟩ := hl.shape
  obtain ⟨A2, c2, rfl, hnc2, hcm2⟩ := hr.shape
  have hcz : (i : Int) ≤ (c : Int) := by omega
  have hcm' : c ≤ 9223372036854775807 := by unfold maxLen at hcm; omega
  have ho2 : A = none → c = i := fun hA => by
    obtain ⟨A', c', e, _, _, _, h⟩ := ownF_open hl.own
    injection e with e1 e2 e3
    subst e1; subst e3
    rcases h with ⟨_, h1, h2, _⟩ | ⟨g, cur, h1, _⟩
    · omega
    · rw [h1] at hA; cases hA
  clear hl hr hne
  generalize l.length = n at *
  generalize rs.length = m at *
  generalize hX : l.take i ++ rs ++ l.drop i = X at *
  clear hX
  by_cases hci : c = i
  · clear ho2
    subst hci
    go_enter Try.func71, Try.ntmps71
    go_wp2_with (go_at_call 77; refine hI'.out.mono ?_; rintro e w' ⟨v', rfl, h1, h2, h3⟩)
    go_ret
    exact ⟨_, rfl, h1, h2, h3⟩
  · cases A with
    | none => exact absurd (ho2 rfl) hci
    | some ad =>
      clear ho2
      go_enter Try.func71, Try.ntmps71
      go_wp2_with (go_at_call 77; refine hI'.out.mono ?_; rintro e w' ⟨v', rfl, h1, h2, h3⟩)
      go_ret
      exact ⟨_, rfl, h1, h2, h3⟩
theorem lreplace_any (base basev : Nat) (v vv : Value) (l rs : RL) (i j : Nat) (w : World) (hl : OwnL w base v l) (hr : OwnL w basev vv rs) (hne : ∀ k, v.ownBlock = some k → vv.ownBlock ≠ some k) (hij : i ≤ j) (hj : j ≤ l.length) (hN : l.length + rs.length ≤ 2000000) (hb : base ≤ w.heap.size) :
    Calls Try.prog 71 #[v, .int .i64 i, .int .i64 j, vv] w (SPost base v (l.take i ++ rs ++ l.drop j) w) := by
  rcases Nat.eq_or_lt_of_le hij with rfl | hlt
  · exact lrep_i base basev v vv l rs i w hl hr hne hj hN hb
  have wd := (hl.wd.take i).app hr.wd |>.app (hl.wd.drop j)
  have hXE : rlC (l.take i ++ rs ++ l.drop j) = (rlC l).take (i * 2) ++ (rlC rs ++ (rlC l).drop (j * 2)) := by rw [List.append_assoc, rlC_app, rlC_app, rlC_take, rlC_drop]
  have hLE : (l.take i ++ rs ++ l.drop j).length = i + rs.length + (l.length - j) := by simp; omega
  obtain ⟨A, c, rfl, hnc, hcm, hx, ho⟩ := ownF_open hl.own
  obtain ⟨Av, cv, rfl, hnv, hcmv, hxv, hov⟩ := ownF_open hr.own
  rcases ho with ⟨_, h, _⟩ | ⟨g, cur, rfl, hbg, hg, hA, hcl, hct⟩
  · omega
  have hys : 0 < rs.length → ∃ gv curv, Av = some ⟨gv, 0, none⟩ ∧ gv ≠ g ∧ gv < w.heap.size ∧ At w gv 62 curv ∧ 0 < curv.length ∧ ∀ k u, (rlC rs)[k]? = some u → w.cell? ((⟨gv, 0, none⟩ : Addr).add k) = some u := fun h0 => by
    obtain ⟨ad, e, hc⟩ := src_own hr Av cv rfl h0
    rcases hov with ⟨_, h, _⟩ | ⟨gv, curv, rfl, _, h1, h2, h3, h4⟩
    · omega
    · injection e with e
      subst e
      exact ⟨gv, curv, rfl, fun e => hne g rfl (by rw [e]; rfl), h1, h2, by omega, hc⟩
  rcases Nat.eq_or_lt_of_le hj with hjn | hjn
  · subst hjn
    refine (lrep_b base l.length rs.length c cv g i Av cur (rlC l) (rlC rs) w hbg hg hA hcl hct hx (rlC_one l) (rlC_len rs) (rlC_one rs) hys hb hnc hcm hnv hcmv hN hlt).mono ?_
    intro e w' h
    refine spost_of_f h (by rw [hLE]; omega) ?_ wd
    rw [hXE, List.drop_eq_nil_of_le (by omega), List.append_nil]
  · have conv := fun (h : Calls Try.prog 71 #[.slice (some ⟨g, 0, none⟩) l.length c, .int .i64 i, .int .i64 j, .slice Av rs.length cv] w (FPost base (.slice (some ⟨g, 0, none⟩) l.length c) (i + rs.length + (l.length - j)) ((rlC l).take (i * 2) ++ (rlC rs ++ (rlC l).drop (j * 2))) w)) =>
      h.mono (fun e w' h => spost_of_f h hLE.symm hXE.symm wd)
    apply conv
    by_cases hroom : c < i + rs.length + (l.length - j)
    · exact lrep_c base l.length rs.length c cv g i j Av cur (rlC l) (rlC rs) w hbg hg hA hcl hct hx (rlC_one l) (rlC_len rs) (rlC_one rs) hys hb hnc hcm hnv hcmv hN hlt hjn _ _ rfl rfl hroom
    · by_cases hqj : i + rs.length ≤ j
      · exact lrep_d base l.length rs.length c cv g i j Av cur (rlC l) (rlC rs) w hbg hg hA hcl hct hx (rlC_one l) (rlC_len rs) (rlC_one rs) hys hb hnc hcm hnv hcmv hN hlt hjn _ _ rfl rfl hqj
      · exact lrep_e base l.length rs.length c cv g i j Av cur (rlC l) (rlC rs) w hbg hg hA hcl hct hx (rlC_one l) (rlC_len rs) (rlC_one rs) hys hb hnc hcm hnv hcmv hN hlt hjn _ _ rfl rfl (by omega) (by omega)
set_option maxHeartbeats 1000000 in
set_option maxRecDepth 100000 in
theorem ldel_any (base : Nat) (v : Value) (l : RL) (k : Nat) (w : World) (hl : OwnL w base v l) (hk0 : 0 < k) (hkn : k < l.length) (hN : l.length ≤ 2000000) (hb : base ≤ w.heap.size) :
    Calls Try.prog 72 #[v, .int .i64 0, .int .i64 k] w (SPost base v (l.drop k) w) := by
  obtain ⟨A, c, rfl, hnc, hcm, hx, ho⟩ := ownF_open hl.own
  rcases ho with ⟨_, h, _⟩ | ⟨g, cur, rfl, hbg, hg, hA, hcl, hct⟩
  · omega
  have HW := Lib.hid (hl.wd.drop k)
  have HL := Lib.hid (show (l.drop k).length = l.length - k from List.length_drop)
  have HX := Lib.hid (rlC_drop l k)
  have hown : OwnF w base (.slice (some ⟨g, 0, none⟩) 0 c) 0 [] := ownF_cut hl.own (i := 0) (by omega)
  have hsrc : ∀ j u, ((rlC l).drop (k * 2))[j]? = some u → w.cell? ((⟨g, k * 2, none⟩ : Addr).add j) = some u := fun j u hj => by
    rw [Addr.add_lit, hA.cell]
    rw [List.getElem?_drop, ← hct, List.getElem?_take] at hj
    split at hj
    · exact hj
    · cases hj
  have hsl : ((rlC l).drop (k * 2)).length = (l.length - k) * 2 := by rw [List.length_drop, hx]; omega
  have hs1 : ∀ u ∈ (rlC l).drop (k * 2), u.oneCell' = true := fun u hu => rlC_one l u (List.mem_of_mem_drop hu)
  have hcm' : c ≤ 9223372036854775807 := by unfold maxLen at hcm; omega
  have hck : ¬ c = k := by omega
  have hc0 : ¬ c = 0 := by omega
  have hcz : (k : Int) ≤ (c : Int) := by omega
  have hnz : ((l.length : Nat) : Int) ≤ (c : Int) := by omega
  have hkz : (k : Int) ≤ ((l.length : Nat) : Int) := by omega
  have hk1 : ¬ (0 : Int) = (k : Int) := by omega
  clear hl hct
  generalize l.length = n at *
  have hcq : ¬ c = n - k := by omega
  have mixed : Try.prog.follows .mixedOrders = true := by kernel_rfl
  go_enter Try.func72, Try.ntmps72
  have hown' : OwnF w.drew base (.slice (some ⟨g, 0, none⟩) 0 c) 0 [] := ownF_keep hown fun _ _ => rfl
  have hb' : base ≤ w.drew.heap.size := hb
  have hsrc' : ∀ j u, ((rlC l).drop (k * 2))[j]? = some u → w.drew.cell? ((⟨g, k * 2, none⟩ : Addr).add j) = some u := hsrc
  clear hown hsrc
  go_wp2_with fail
  go_region_law_o (refine step_append2 rfl (.tmp 22) (.tmp 25) rfl base (.slice (some ⟨g, 0, none⟩) 0 c) 0 [] (by simp [Act.eval, Act.put]) hown' (some ⟨g, k * 2, none⟩) (n - k) (c - k) (by simp [Act.eval, Act.put]) ((rlC l).drop (k * 2)) hsl (fun _ => ⟨_, rfl, hsrc'⟩) hs1 (by omega) hb' ?_; intro v2 w2 hown2 hg2 hv2 hin2; obtain rfl := hin2 g c rfl (by omega); obtain ⟨g3, cur3, e4, hb3, hg3, hA3, hl3, ht3⟩ := ownF_some hown2; injection e4 with e4; subst e4)
  simp only [Nat.zero_add, List.nil_append] at hown2 ht3
  have HL3 := Lib.hid hl3; clear hl3
  have HT3 := Lib.hid ht3; clear ht3
  have hnkz : ((n - k : Nat) : Int) ≤ (n : Int) := by omega
  go_wp2_with (refine wpList_clear2 rfl (.tmp 31) rfl (some ⟨g, (n - k) * 2, none⟩) (n - (n - k)) (c - (n - k)) g ((n - k) * 2) cur3 _ rfl hA3 (fun _ => rfl) (by have := HL3.out; omega) ?_; intro w3 zs hzl hA4 hk4)
  go_ret
  refine ⟨_, rfl, ⟨?_, HW.out⟩, (Kept.from_drew (kept_grown hg2)).trans (hk4.mono fun j hj => .inl (by subst hj; rfl)), fun k hk => .inl hk⟩
  rw [HL.out, HX.out]
  refine ownF_mk hsl hb3 hA4 (by omega) hcm (by rw [length_splice _ _ _ (by have := HL3.out; omega)]; exact HL3.out) ?_
  rw [splice_take _ _ _ _ (Nat.le_refl _) (by have := HL3.out; omega)]
  exact HT3.out
end Go.Proofs.Ytohahkjikhpamaa
