/-
  slices.Insert, slices.Replace, slices.Delete on Ranges of the call's own.
-/
import Derived.Test.YtahalbmcijbbmaaQa
import Derived.WalkKit
import Derived.Deep.RegionLaw
import Derived.Shelf.RegionOpenPlain
namespace Go.Proofs.Ytahalbmcijbbmaa
set_option linter.unusedVariables false
set_option linter.unusedSimpArgs false
open Go.RowKit
/-- What such a call leaves: a slice of l', in the old block or in a new one; nothing else has changed. -/
def SPost (base : Nat) (v : Value) (l' : RL) (w : World) (e : Ending) (w' : World) : Prop :=
  ∃ v', e = .returned v' ∧ OwnL w' base v' l' ∧ Kept (fun b => v.ownBlock = some b) w w' ∧ ∀ k, v'.ownBlock = some k → v.ownBlock = some k ∨ w.heap.size ≤ k
theorem kept_grown {w w' : World} {v : Value} (h : w.grownBy w' v.ownBlock) : Kept (fun b => v.ownBlock = some b) w w' := Kept.of_grown h fun k hk => .inl hk
section
variable {w : World} {base basev : Nat} {v vv : Value} {l rs : RL}
theorem src_own (hr : OwnL w basev vv rs) (A : Option Addr) (c : Nat) (e : vv = .slice A rs.length c) (h0 : 0 < rs.length) : ∃ ad, A = some ad ∧ ∀ j u, (rlC rs)[j]? = some u → w.cell? (ad.add j) = some u := by
  subst e
  obtain ⟨A', c', e, _, _, hx, h⟩ := ownF_open hr.own
  injection e with e1 _ e3
  subst e1; subst e3
  rcases h with ⟨_, h, _⟩ | ⟨g, cur, rfl, _, _, hA, hl, ht⟩
  · omega
  · refine ⟨_, rfl, fun j u hj => ?_⟩
    rw [Addr.add_lit, Nat.zero_add, hA.cell]
    rw [← ht, List.getElem?_take] at hj
    split at hj
    · exact hj
    · cases hj
theorem overlaps_none (w : World) {g gv : Nat} (hne : gv ≠ g) {cur curv : List Value} (hA : At w g 99 cur) (hV : At w gv 99 curv) (h0 : 0 < cur.length) (h0v : 0 < curv.length) (off la ca lb cb : Nat) :
    (callFunc 72 #[.slice (some ⟨gv, 0, none⟩) la ca, .slice (some ⟨g, off, none⟩) lb cb]).run Try.prog w = .ok (.value (.bool false)) w ∧
    (callFunc 72 #[.slice (some ⟨g, off, none⟩) lb cb, .slice (some ⟨gv, 0, none⟩) la ca]).run Try.prog w = .ok (.value (.bool false)) w := by
  obtain ⟨i, hi, hz, hsz, hby⟩ := rl_parts
  have hs2 : ∀ w, (Go.sizeOf 99).run Try.prog w = .ok 2 w := fun w => by simp [sizeOf, typeInfo, hi, hsz]
  have sh : ∀ (g : Nat) (cur : List Value), At w g 99 cur → w.shape? g = some (99, cur.length) := fun g cur h => by
    have h' : w.heap[g]? = some (.cells cur.toArray 99 (0, 0)) := h
    simp [World.shape?, h']
  have fr : ∀ (g : Nat) (cur : List Value) (o : Nat), At w g 99 cur → w.frozen? ⟨g, o, none⟩ = false := fun g cur o h => h.frozen o
  constructor
  · rw [run_callFunc_extern Try.func72 (by kernel_rfl) (by kernel_rfl) (by kernel_rfl) (e := Extern.SlicesOverlaps.overlaps #[42, 42] #[4]) (by kernel_rfl),
      Lib.run_overlaps_apart w 42 4 99 Try.underlying42 2 hs2 ⟨gv, 0, none⟩ ⟨g, off, none⟩ la ca lb cb hne _ _ _ _ (sh _ _ hV) (sh _ _ hA) (by omega) (fr _ _ _ hV) (fr _ _ _ hV)]
    rfl
  · rw [run_callFunc_extern Try.func72 (by kernel_rfl) (by kernel_rfl) (by kernel_rfl) (e := Extern.SlicesOverlaps.overlaps #[42, 42] #[4]) (by kernel_rfl),
      Lib.run_overlaps_apart w 42 4 99 Try.underlying42 2 hs2 ⟨g, off, none⟩ ⟨gv, 0, none⟩ lb cb la ca (fun e => hne e.symm) _ _ _ _ (sh _ _ hA) (sh _ _ hV) (by omega) (fr _ _ _ hA) (fr _ _ _ hA)]
    rfl
end
theorem spost_mk {base : Nat} {v v' : Value} {l' : RL} {w w' : World} (h1 : OwnF w' base v' l'.length (rlC l')) (wd : WdL l') (hg : w.grownBy w' v.ownBlock) (hv : v'.ownBlock = v.ownBlock ∨ v'.ownBlock = some w.heap.size) : SPost base v l' w (.returned v') w' :=
  ⟨v', rfl, ⟨h1, wd⟩, kept_grown hg, fun k hk => hv.elim (fun h => .inl (h ▸ hk)) fun h => .inr (by rw [h] at hk; injection hk with hk; omega)⟩
theorem ownF_cut {w : World} {base n c i : Nat} {A : Option Addr} {xs : List Value} (h : OwnF w base (.slice A n c) n xs) (hi : i ≤ n) : OwnF w base (.slice A i c) i (xs.take (i * 2)) := by
  obtain ⟨A', c', e, hn, hc, hx, ho⟩ := ownF_open h
  injection e with e1 e2 e3
  subst e1; subst e3
  rcases ho with ⟨rfl, rfl, rfl, rfl⟩ | ⟨g, cur, rfl, hb, hlt, hA, hl, ht⟩
  · obtain rfl : i = 0 := by omega
    exact ⟨rfl, .inl ⟨rfl, rfl⟩⟩
  · refine ownF_mk (by rw [List.length_take]; omega) hb hA (by omega) hc hl ?_
    rw [← ht, List.take_take, Nat.min_eq_left (by omega)]
theorem splice_splice (cur xs ys zs : List Value) (o o2 k : Nat) (hc : cur.take o = xs) (hx : xs.length = o) (h2 : o2 = o + ys.length) (hk : k = o2 + zs.length) (hf : k ≤ cur.length) : (splice (splice cur o ys) o2 zs).take k = xs ++ (ys ++ zs) := by
  subst h2; subst hk
  unfold splice
  rw [hc]
  have e1 : (xs ++ (ys ++ cur.drop (o + ys.length))).take (o + ys.length) = xs ++ ys := by
    rw [← List.append_assoc]
    exact List.take_left' (by simp [hx])
  rw [e1, ← List.append_assoc, List.append_assoc, ← List.append_assoc]
  rw [List.take_left' (by simp [hx]; omega)]
  simp
theorem splice_back (cur xs ys zs : List Value) (o o2 k : Nat) (hc : cur.take o = xs) (hx : xs.length = o) (h2 : o2 = o + ys.length) (hk : k = o2 + zs.length) (hf : k ≤ cur.length) : (splice (splice cur o2 zs) o ys).take k = xs ++ (ys ++ zs) := by
  subst h2; subst hk
  unfold splice
  have e0 : (cur.take (o + ys.length)).length = o + ys.length := by rw [List.length_take]; omega
  have e1 : (cur.take (o + ys.length) ++ (zs ++ cur.drop (o + ys.length + zs.length))).take o = xs := by
    rw [List.take_append_of_le_length (by omega), List.take_take, Nat.min_eq_left (by omega), hc]
  have e2 : (cur.take (o + ys.length) ++ (zs ++ cur.drop (o + ys.length + zs.length))).drop (o + ys.length) = zs ++ cur.drop (o + ys.length + zs.length) := List.drop_left' e0
  rw [e1, e2]
  rw [← List.append_assoc ys, ← List.append_assoc xs]
  rw [List.take_left' (by simp [hx]; omega)]
set_option maxHeartbeats 1000000 in
set_option maxRecDepth 100000 in
theorem linsert_any (base basev : Nat) (v vv : Value) (l rs : RL) (i : Nat) (w : World) (hl : OwnL w base v l) (hr : OwnL w basev vv rs) (hne : ∀ k, v.ownBlock = some k → vv.ownBlock ≠ some k) (hi : i ≤ l.length) (hN : l.length + rs.length ≤ 2000000) (hb : base ≤ w.heap.size) :
    Calls Try.prog 71 #[v, .int .i64 i, vv] w (SPost base v (l.take i ++ rs ++ l.drop i) w) := by
  obtain ⟨A, c, rfl, hn, hcm, hx, ho⟩ := ownF_open hl.own
  obtain ⟨Av, cv, rfl, hnv, hcmv, hxv, hov⟩ := ownF_open hr.own
  have hcm' : c ≤ 9223372036854775807 := by unfold maxLen at hcm; omega
  have hcmv' : cv ≤ 9223372036854775807 := by unfold maxLen at hcmv; omega
  have hiz : (i : Int) ≤ (l.length : Int) := by omega
  by_cases h0 : rs.length = 0
  · obtain rfl : rs = [] := List.eq_nil_of_length_eq_zero h0
    have hE : l.take i ++ [] ++ l.drop i = l := by simp
    rw [hE]
    have HL := Lib.hid hl
    have ho2 : A = none → c = i := fun hA => by
      rcases ho with ⟨_, h1, h2, _⟩ | ⟨g, cur, h1, _⟩
      · omega
      · rw [h1] at hA; cases hA
    clear hl ho hov hr hne hxv hx hE
    generalize hnn : l.length = n at *
    by_cases hci : c = i
    · subst hci
      go_enter Try.func71, Try.ntmps71
      go_wp2
      go_ret
      exact ⟨_, rfl, HL.out, Kept.refl _ _, fun k hk => .inl hk⟩
    · cases A with
      | none => exact absurd (ho2 rfl) hci
      | some ad =>
        clear ho2
        go_enter Try.func71, Try.ntmps71
        go_wp2
        go_ret
        exact ⟨_, rfl, HL.out, Kept.refl _ _, fun k hk => .inl hk⟩
  have hm0 : ¬ ((rs.length : Int) = 0) := by omega
  have hsrc := src_own hr Av cv rfl (by omega)
  by_cases hil : i = l.length
  · subst hil
    have hE : l.take l.length ++ rs ++ l.drop l.length = l ++ rs := by simp
    rw [hE]
    have HX := Lib.hid (show rlC (l ++ rs) = rlC l ++ rlC rs from rlC_app l rs)
    have HW := Lib.hid (hl.wd.app hr.wd)
    have hown := hl.own
    have hrl := rlC_len rs
    have hr1 := rlC_one rs
    have ho2 : A = none → c = l.length := fun hA => by
      rcases ho with ⟨_, h1, h2, _⟩ | ⟨g, cur, h1, _⟩
      · omega
      · rw [h1] at hA; cases hA
    have HLL := Lib.hid (show (l ++ rs).length = l.length + rs.length from List.length_append)
    clear hl ho hov hr hne hxv hx hE
    generalize hnn : l.length = n at *
    generalize hmm : rs.length = m at *
    generalize rlC l = xs at *
    generalize rlC rs = ys at *
    clear hnn hmm
    by_cases hci : c = n
    · subst hci
      go_enter Try.func71, Try.ntmps71
      go_wp2_with (at_builtin; refine wpList_append2 rfl (.tmp 23) (.tmp 24) rfl base _ c xs rfl hown Av m cv rfl ys hrl (fun _ => hsrc) hr1 (by omega) hb ?_; intro v2 w2 hown2 hg2 hv2 _; clear hown)
      go_ret
      exact spost_mk (by rw [HLL.out, HX.out]; exact hown2) HW.out hg2 hv2
    · cases A with
      | none => exact absurd (ho2 rfl) hci
      | some ad =>
        clear ho2
        go_enter Try.func71, Try.ntmps71
        go_wp2_with (at_builtin; refine wpList_append2 rfl (.tmp 23) (.tmp 24) rfl base _ n xs rfl hown Av m cv rfl ys hrl (fun _ => hsrc) hr1 (by omega) hb ?_; intro v2 w2 hown2 hg2 hv2 _; clear hown)
        go_ret
        exact spost_mk (by rw [HLL.out, HX.out]; exact hown2) HW.out hg2 hv2
  -- in the midst
  have hov' : ∃ gv curv, Av = some ⟨gv, 0, none⟩ ∧ At w gv 99 curv ∧ gv < w.heap.size ∧ 0 < curv.length := by
    rcases hov with ⟨_, h, _⟩ | ⟨gv, curv, e, _, h1, h2, h3, h4⟩
    · omega
    · exact ⟨gv, curv, e, h2, h1, by omega⟩
  have ho' : ∃ g cur, A = some ⟨g, 0, none⟩ ∧ base ≤ g ∧ g < w.heap.size ∧ At w g 99 cur ∧ cur.length = c * 2 ∧ cur.take (l.length * 2) = rlC l := by
    rcases ho with ⟨_, h, _⟩ | h
    · omega
    · exact h
  clear ho hov
  obtain ⟨gv, curv, rfl, hAv, hgv, hcv0⟩ := hov'
  obtain ⟨g, cur, rfl, hbg, hg, hA, hcl, hct⟩ := ho'
  have hgg : gv ≠ g := fun e => hne g rfl (by rw [e]; rfl)
  have hXE : rlC (l.take i ++ rs ++ l.drop i) = (rlC l).take (i * 2) ++ (rlC rs ++ (rlC l).drop (i * 2)) := by rw [List.append_assoc, rlC_app, rlC_app, rlC_take, rlC_drop]
  have HX := Lib.hid hXE
  have HW := Lib.hid ((hl.wd.take i).app hr.wd |>.app (hl.wd.drop i))
  have hLE : (l.take i ++ rs ++ l.drop i).length = l.length + rs.length := by simp; omega
  have HLL := Lib.hid hLE
  have hx1 := rlC_one l
  have hr1 := rlC_one rs
  have hown := hl.own
  have hysrc : ∀ j u, (rlC rs)[j]? = some u → w.cell? ((⟨gv, 0, none⟩ : Addr).add j) = some u := fun j u hj => by
    obtain ⟨ad, e, h⟩ := hsrc
    injection e with e
    subst e
    exact h j u hj
  have hxsrc : ∀ j u, ((rlC l).drop (i * 2))[j]? = some u → w.cell? ((⟨g, i * 2, none⟩ : Addr).add j) = some u := fun j u hj => by
    rw [Addr.add_lit, hA.cell]
    rw [List.getElem?_drop, ← hct, List.getElem?_take] at hj
    split at hj
    · exact hj
    · cases hj
  clear hl hr hne hXE hLE hsrc
  obtain ⟨N, hN1, hN2⟩ : ∃ N, N ≤ l.length + rs.length ∧ l.length + rs.length ≤ N := ⟨_, Nat.le_refl _, Nat.le_refl _⟩
  rw [show l.length + rs.length = N by omega] at HLL
  obtain ⟨q, hq1, hq2⟩ : ∃ q, q ≤ i + rs.length ∧ i + rs.length ≤ q := ⟨_, Nat.le_refl _, Nat.le_refl _⟩
  generalize hnn : l.length = n at *
  generalize hmm : rs.length = m at *
  generalize hxs : rlC l = xs at *
  generalize hys : rlC rs = ys at *
  have hiz2 : ¬ ((i : Int) = (n : Int)) := by omega
  have hci : ¬ c = i := by omega
  have hzl : (xs.drop (i * 2)).length = n * 2 - i * 2 := by rw [List.length_drop, hx]
  have hz1 : ∀ u ∈ xs.drop (i * 2), u.oneCell' = true := fun u hu => hx1 u (List.mem_of_mem_drop hu)
  have hxl : (xs.take (i * 2)).length = i * 2 := by rw [List.length_take, hx]; omega
  have hti : cur.take (i * 2) = xs.take (i * 2) := by rw [← hct, List.take_take, Nat.min_eq_left (by omega)]
  have hciz : (i : Int) ≤ (c : Int) := by omega
  have hrl := hxv
  have mixed : Try.prog.follows .mixedOrders = true := by kernel_rfl
  have hqw : IntKind.i64.wrap ((i : Int) + (m : Int)) = (q : Int) := by rw [IntKind.wrap_i64]; omega
  have hqN : (q : Int) ≤ (N : Int) := by omega
  clear hnn hmm hxs hys
  clear hxv hx hx1
  by_cases hroom : c < N
  · obtain ⟨k, hk⟩ : ∃ k, i + k = N := ⟨N - i, by omega⟩
    have hcz : (c : Int) < (n : Int) + (m : Int) := by omega
    have hXS := hown
    have HK := Lib.hid hk; clear hk
    have HT := Lib.hid hct; clear hct
    have HTI := Lib.hid hti; clear hti
    go_enter Try.func71, Try.ntmps71
    go_wp2_with (first | (at_builtin; refine wpList_zeros2 rfl (.tmp 34) (.tmp 39) rfl base i c _ (xs.take (i * 2)) rfl (ownF_cut hown (by omega)) k N HK.out _ rfl (by have := HK.out; omega) (by have := HK.out; omega) (by have := HK.out; omega) (by have := HK.out; omega) ?_; intro w2 g2 cur2 c2 hg2 hA2 hl2 hN2 hc2 ht2 hb2; clear hown; have hc2m : c2 ≤ 9223372036854775807 := (by unfold maxLen at hc2; omega); have hc2i : ¬ c2 = i := (by omega); have hc2j : ¬ c2 = q := (by omega); have hgg2 : g2 ≠ gv := (by omega); have hgg3 : g2 ≠ g := (by omega); have HG2 := Lib.hid hg2; clear hg2; have HT2 := Lib.hid ht2; clear ht2; have HL2 := Lib.hid hl2; clear hl2) | (refine wpList_copy2 rfl (.tmp 43) (.tmp 44) rfl _ _ _ _ _ _ g2 (i * 2) cur2 _ ys rfl rfl hA2 (by rw [hrl]; simp only [Nat.min_def]; split <;> omega) (fun _ => rfl) (fun _ => ⟨_, rfl, fun j u hj => (Kept.cell (Kept.of_below hb2 (fun _ => False)) (by rw [Addr.add_lit]; exact hgv) (fun h => h)).trans (hysrc j u hj)⟩) (by have := HL2.out; omega) hr1 ?_; intro w3 hA3 hk3))
    have hk3' := (Kept.of_below hb2 (fun _ => False)).trans' hk3 (fun j hj => by have := HG2.out; exact .inr (by omega))
    go_region_law_o (go_loud (refine step_copy2 rfl (.tmp 50) (.tmp 53) rfl (some ⟨g2, q * 2, none⟩) (some ⟨g, i * 2, none⟩) (N - q) (c2 - q) (n - i) (c - i) g2 (q * 2) (splice cur2 (i * 2) ys) _ (xs.drop (i * 2)) (by simp [Act.eval, Act.put]) (by simp [Act.eval, Act.put]) hA3.drew (by rw [hzl]; simp only [Nat.min_def]; split <;> omega) (fun _ => rfl) (fun _ => ⟨_, rfl, fun j u hj => (hk3'.drew.cell (by rw [Addr.add_lit]; exact hg) (fun h => h)).trans (hxsrc j u hj)⟩) (by rw [length_splice _ _ _ (by have := HL2.out; omega)]; have := HL2.out; omega) hz1 ?_); intro w4 hA4 hk4)
    have hk4' := hk3'.drew.trans' hk4 (fun j hj => by have := HG2.out; exact .inr (by omega))
    go_wp2
    go_ret
    have hl3 : (splice (splice cur2 (i * 2) ys) (q * 2) (xs.drop (i * 2))).length = c2 * 2 := by
      rw [length_splice _ _ _ (by rw [length_splice _ _ _ (by have := HL2.out; omega), hzl]; have := HL2.out; omega), length_splice _ _ _ (by have := HL2.out; omega)]
      exact HL2.out
    have hct3 : (splice (splice cur2 (i * 2) ys) (q * 2) (xs.drop (i * 2))).take (N * 2) = xs.take (i * 2) ++ (ys ++ xs.drop (i * 2)) :=
      splice_splice cur2 _ ys _ (i * 2) (q * 2) (N * 2) HT2.out hxl (by omega) (by omega) (by have := HL2.out; omega)
    refine ⟨_, rfl, ⟨?_, HW.out⟩, hk4'.mono (fun j hj => hj.elim), fun k2 hk2 => ?_⟩
    · rw [HLL.out, HX.out]
      exact ownF_mk (by rw [← hct3, List.length_take, hl3]; omega) (by have := HG2.out; omega) hA4 (by assumption) hc2 hl3 hct3
    · have hk2' : g2 = k2 := Option.some.inj hk2
      have := HG2.out
      exact .inr (by omega)
  · have hov := (overlaps_none w hgg hA hAv (by omega) hcv0 (q * 2) m cv (n + m - q) (c - q)).1
    have hcq : ¬ c = q := by omega
    have hqn : (q : Int) ≤ (n : Int) + (m : Int) := by omega
    have hin : (i : Int) ≤ (n : Int) + (m : Int) := by omega
    have HT := Lib.hid hct; clear hct
    have HTI := Lib.hid hti; clear hti
    go_enter Try.func71, Try.ntmps71
    go_wp2
    go_region_law_o (go_loud (refine step_copy2 rfl (.tmp 73) (.tmp 76) rfl (some ⟨g, q * 2, none⟩) (some ⟨g, i * 2, none⟩) (n + m - q) (c - q) (n + m - i) (c - i) g (q * 2) cur _ (xs.drop (i * 2)) (by simp [Act.eval, Act.put]) (by simp [Act.eval, Act.put]) hA.drew (by rw [hzl]; simp only [Nat.min_def]; split <;> omega) (fun _ => rfl) (fun _ => ⟨_, rfl, fun j u hj => hxsrc j u hj⟩) (by omega) hz1 ?_); intro w3 hA3 hk3)
    have hA3l : (splice cur (q * 2) (xs.drop (i * 2))).length = c * 2 := by rw [length_splice _ _ _ (by omega)]; exact hcl
    have hys3 : ∀ j u, ys[j]? = some u → w3.cell? ((⟨gv, 0, none⟩ : Addr).add j) = some u := fun j u hj => (hk3.cell (by rw [Addr.add_lit]; exact hgv) (by rw [Addr.add_lit]; exact hgg)).trans (hysrc j u hj)
    go_wp2_with (refine wpList_copy2 rfl (.tmp 80) (.tmp 81) rfl _ _ _ _ _ _ g (i * 2) (splice cur (q * 2) (xs.drop (i * 2))) _ ys rfl rfl hA3 (by rw [hrl]; simp only [Nat.min_def]; split <;> omega) (fun _ => rfl) (fun _ => ⟨_, rfl, hys3⟩) (by omega) hr1 ?_; intro w4 hA4 hk4)
    go_ret
    have hl3 : (splice (splice cur (q * 2) (xs.drop (i * 2))) (i * 2) ys).length = c * 2 := by
      rw [length_splice _ _ _ (by omega)]
      exact hA3l
    have hct3 : (splice (splice cur (q * 2) (xs.drop (i * 2))) (i * 2) ys).take (N * 2) = xs.take (i * 2) ++ (ys ++ xs.drop (i * 2)) :=
      splice_back cur _ ys _ (i * 2) (q * 2) (N * 2) HTI.out hxl (by omega) (by omega) (by omega)
    refine ⟨_, rfl, ⟨?_, HW.out⟩, (hk3.from_drew.trans hk4).mono (fun j hj => .inl (by subst hj; rfl)), fun k2 hk2 => .inl hk2⟩
    rw [HLL.out, HX.out, show n + m = N by omega]
    exact ownF_mk (by rw [← hct3, List.length_take, hl3]; omega) hbg hA4 (by omega) (by unfold maxLen; unfold maxLen at hcm; omega) hl3 hct3
end Go.Proofs.Ytahalbmcijbbmaa
