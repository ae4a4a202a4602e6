/-
  slices.Replace and slices.Delete on Ranges of the call's own.
-/
import Derived.Test.YtndaikeeikimeaaMq1
import Derived.BigQuiet
namespace Go.Proofs.Ytndaikeeikimeaa
section
set_option linter.unusedVariables false
set_option linter.unusedSimpArgs false
open Go.RowKit
theorem ownF_some {w : World} {base n c : Nat} {ad : Addr} {xs : List Value} (h : OwnF w base (.slice (some ad) n c) n xs) :
    ∃ g cur, ad = ⟨g, 0, none⟩ ∧ base ≤ g ∧ g < w.heap.size ∧ At w g 105 cur ∧ cur.length = c * 2 ∧ cur.take (n * 2) = xs := by
  obtain ⟨A3, c3, e3, hn3, hc3, hx3, ho3⟩ := ownF_open h
  injection e3 with e31 _ e33
  subst e31; subst e33
  rcases ho3 with ⟨h, _⟩ | ⟨g3, cur3, e4, hb3, hg3, hA3, hl3, ht3⟩
  · cases h
  · injection e4 with e4
    exact ⟨g3, cur3, e4, hb3, hg3, hA3, hl3, ht3⟩
def FPost (base : Nat) (v : Value) (n : Nat) (X : List Value) (w : World) (e : Ending) (w' : World) : Prop :=
  ∃ v', e = .returned v' ∧ OwnF w' base v' n X ∧ Kept (fun b => v.ownBlock = some b) w w' ∧ ∀ k, v'.ownBlock = some k → v.ownBlock = some k ∨ w.heap.size ≤ k
theorem fpost_mk {base : Nat} {v v' : Value} {n : Nat} {X : List Value} {w w' : World} (h1 : OwnF w' base v' n X) (hg : w.grownBy w' v.ownBlock) (hv : v'.ownBlock = v.ownBlock ∨ v'.ownBlock = some w.heap.size) : FPost base v n X w (.returned v') w' :=
  ⟨v', rfl, h1, kept_grown hg, fun k hk => hv.elim (fun h => .inl (h ▸ hk)) fun h => .inr (by rw [h] at hk; injection hk with hk; omega)⟩
theorem srcs {Av : Option Addr} {w : World} {g m : Nat} {ys : List Value}
    (hys : 0 < m → ∃ gv curv, Av = some ⟨gv, 0, none⟩ ∧ gv ≠ g ∧ gv < w.heap.size ∧ At w gv 105 curv ∧ 0 < curv.length ∧ ∀ k u, ys[k]? = some u → w.cell? ((⟨gv, 0, none⟩ : Addr).add k) = some u) (h0 : 0 < m) :
    ∃ gv, Av = some ⟨gv, 0, none⟩ ∧ gv ≠ g ∧ gv < w.heap.size ∧ ∀ k u, ys[k]? = some u → w.cell? ((⟨gv, 0, none⟩ : Addr).add k) = some u := by
  obtain ⟨gv, curv, rfl, h1, h2, h3, h4, h5⟩ := hys h0
  exact ⟨_, rfl, h1, h2, h5⟩
theorem srcs_kept {Av : Option Addr} {w w' : World} {g : Nat} {ys : List Value} {S : Nat → Prop}
    (h : ∃ gv, Av = some ⟨gv, 0, none⟩ ∧ gv ≠ g ∧ gv < w.heap.size ∧ ∀ k u, ys[k]? = some u → w.cell? ((⟨gv, 0, none⟩ : Addr).add k) = some u) (k : Kept S w w') (hS : ∀ b, S b → b = g ∨ w.heap.size ≤ b) :
    ∃ ad, Av = some ad ∧ ∀ k u, ys[k]? = some u → w'.cell? (ad.add k) = some u := by
  obtain ⟨gv, e, h1, h2, h3⟩ := h
  refine ⟨_, e, fun j u hj => (k.cell (by rw [Addr.add_lit]; exact h2) ?_).trans (h3 j u hj)⟩
  rw [Addr.add_lit]
  intro hs
  rcases hS _ hs with h | h
  · exact h1 h
  · exact absurd h2 (by simpa using h)
set_option maxHeartbeats 1000000 in
set_option maxRecDepth 100000 in
theorem lrep_b (base n m c cv g i : Nat) (Av : Option Addr) (cur xs ys : List Value) (w : World) (hbg : base ≤ g) (hg : g < w.heap.size) (hA : At w g 105 cur) (hcl : cur.length = c * 2) (hct : cur.take (n * 2) = xs) (hxl : xs.length = n * 2)
    (hx1 : ∀ u ∈ xs, u.oneCell' = true) (hyl : ys.length = m * 2) (hy1 : ∀ u ∈ ys, u.oneCell' = true)
    (hys : 0 < m → ∃ gv curv, Av = some ⟨gv, 0, none⟩ ∧ gv ≠ g ∧ gv < w.heap.size ∧ At w gv 105 curv ∧ 0 < curv.length ∧ ∀ k u, ys[k]? = some u → w.cell? ((⟨gv, 0, none⟩ : Addr).add k) = some u)
    (hb : base ≤ w.heap.size) (hnc : n ≤ c) (hcm : c ≤ maxLen) (hmc : m ≤ cv) (hcvm : cv ≤ maxLen) (hN : n + m ≤ 2000000) (hij : i < n) :
    Calls Try.prog 71 #[.slice (some ⟨g, 0, none⟩) n c, .int .i64 i, .int .i64 n, .slice Av m cv] w (FPost base (.slice (some ⟨g, 0, none⟩) n c) (i + m) (xs.take (i * 2) ++ ys) w) := by
  have hown : OwnF w base (.slice (some ⟨g, 0, none⟩) n c) n xs := ownF_mk hxl hbg hA hnc hcm hcl hct
  have hcm' : c ≤ 9223372036854775807 := by unfold maxLen at hcm; omega
  have hcvm' : cv ≤ 9223372036854775807 := by unfold maxLen at hcvm; omega
  have hiz : (i : Int) ≤ (n : Int) := by omega
  have hnz : (n : Int) ≤ (c : Int) := by omega
  have hne : ¬ (i : Int) = (n : Int) := by omega
  have hcz : (i : Int) ≤ (c : Int) := by omega
  have hci : ¬ c = i := by omega
  have HC := Lib.hid (ownF_cut hown (i := i) (by omega))
  have hs : 0 < m → ∃ ad, Av = some ad ∧ ∀ k u, ys[k]? = some u → w.cell? (ad.add k) = some u := fun h0 => by
    obtain ⟨gv, e, _, _, h⟩ := srcs hys h0
    exact ⟨_, e, h⟩
  clear hct hxl hx1 hys hown
  by_cases hlt : i + m < n
  · have hltz : (i : Int) + (m : Int) < (n : Int) := by omega
    have hcim : ¬ c = i + m := by omega
    go_enter Try.func71, Try.ntmps71
    go_wp2_with (first | (at_builtin; refine wpList_append2 rfl (.tmp 32) (.tmp 33) rfl base _ i _ rfl HC.out Av m cv rfl ys hyl hs hy1 (by omega) hb ?_; intro v2 w2 hown2 hg2 hv2 hin2; obtain rfl := hin2 g c rfl (by omega); obtain ⟨g3, cur3, e4, hb3, hg3, hA3, hl3, ht3⟩ := ownF_some hown2; injection e4 with e4; subst e4; have hcm3 := hcm; have HL3 := Lib.hid hl3; clear hl3; have HT3 := Lib.hid ht3; clear ht3) | (refine wpList_clear2 rfl (.tmp 43) rfl (some ⟨g, (i + m) * 2, none⟩) (n - (i + m)) (c - (i + m)) g ((i + m) * 2) cur3 _ rfl hA3 (fun _ => rfl) (by have := HL3.out; omega) ?_; intro w3 zs hzl hA4 hk4))
    have hl3 := HL3.out
    have ht3 := HT3.out
    go_ret
    refine ⟨_, rfl, ?_, (kept_grown hg2).trans (hk4.mono fun j hj => .inl (by subst hj; rfl)), fun k hk => .inl hk⟩
    refine ownF_mk hown2.1 hb3 hA4 (by omega) hcm (by rw [length_splice _ _ _ (by omega)]; exact hl3) ?_
    rw [splice_take _ _ _ _ (Nat.le_refl _) (by omega)]
    exact ht3
  · have hltz : ¬ (i : Int) + (m : Int) < (n : Int) := by omega
    go_enter Try.func71, Try.ntmps71
    go_wp2_with (first | (at_builtin; refine wpList_append2 rfl (.tmp 32) (.tmp 33) rfl base _ i _ rfl HC.out Av m cv rfl ys hyl hs hy1 (by omega) hb ?_; intro v2 w2 hown2 hg2 hv2 _; obtain ⟨A2, c2, rfl, hn2, hc2, _⟩ := ownF_open hown2; have hc2' : c2 ≤ 9223372036854775807 := (by unfold maxLen at hc2; omega)) | fail)
    go_ret
    exact fpost_mk hown2 hg2 hv2
set_option maxHeartbeats 1000000 in
set_option maxRecDepth 100000 in
theorem lrep_c (base n m c cv g i j : Nat) (Av : Option Addr) (cur xs ys : List Value) (w : World) (hbg : base ≤ g) (hg : g < w.heap.size) (hA : At w g 105 cur) (hcl : cur.length = c * 2) (hct : cur.take (n * 2) = xs) (hxl : xs.length = n * 2)
    (hx1 : ∀ u ∈ xs, u.oneCell' = true) (hyl : ys.length = m * 2) (hy1 : ∀ u ∈ ys, u.oneCell' = true)
    (hys : 0 < m → ∃ gv curv, Av = some ⟨gv, 0, none⟩ ∧ gv ≠ g ∧ gv < w.heap.size ∧ At w gv 105 curv ∧ 0 < curv.length ∧ ∀ k u, ys[k]? = some u → w.cell? ((⟨gv, 0, none⟩ : Addr).add k) = some u)
    (hb : base ≤ w.heap.size) (hnc : n ≤ c) (hcm : c ≤ maxLen) (hmc : m ≤ cv) (hcvm : cv ≤ maxLen) (hN : n + m ≤ 2000000) (hij : i < j) (hjn : j < n) (q N : Nat) (hq : q = i + m) (hNe : N = i + m + (n - j)) (hroom : c < N) :
    Calls Try.prog 71 #[.slice (some ⟨g, 0, none⟩) n c, .int .i64 i, .int .i64 j, .slice Av m cv] w (FPost base (.slice (some ⟨g, 0, none⟩) n c) N (xs.take (i * 2) ++ (ys ++ xs.drop (j * 2))) w) := by
  have hown : OwnF w base (.slice (some ⟨g, 0, none⟩) n c) n xs := ownF_mk hxl hbg hA hnc hcm hcl hct
  have hcm' : c ≤ 9223372036854775807 := by unfold maxLen at hcm; omega
  have hcvm' : cv ≤ 9223372036854775807 := by unfold maxLen at hcvm; omega
  have hiz : (i : Int) ≤ (j : Int) := by omega
  have hnz : (n : Int) ≤ (c : Int) := by omega
  have hjnz : (j : Int) ≤ (n : Int) := by omega
  have hne : ¬ (i : Int) = (j : Int) := by omega
  have hne2 : ¬ (j : Int) = (n : Int) := by omega
  have hcz : (i : Int) ≤ (c : Int) := by omega
  have hjz : (j : Int) ≤ (c : Int) := by omega
  have hci : ¬ c = i := by omega
  have hcj : ¬ c = j := by omega
  have hin : i ≤ n := by omega
  have hqw : IntKind.i64.wrap ((i : Int) + (m : Int)) = (q : Int) := by rw [IntKind.wrap_i64]; omega
  have hNw : IntKind.i64.wrap ((q : Int) + ((n : Int) - (j : Int))) = (N : Int) := by rw [IntKind.wrap_i64]; omega
  have hNw2 : IntKind.i64.wrap ((q : Int) + ((n - j : Nat) : Int)) = (N : Int) := by rw [IntKind.wrap_i64]; omega
  have hqN : (q : Int) ≤ (N : Int) := by omega
  have hiN : (i : Int) ≤ (N : Int) := by omega
  have hzl : (xs.drop (j * 2)).length = n * 2 - j * 2 := by rw [List.length_drop, hxl]
  have hz1 : ∀ u ∈ xs.drop (j * 2), u.oneCell' = true := fun u hu => hx1 u (List.mem_of_mem_drop hu)
  have htl : (xs.take (i * 2)).length = i * 2 := by rw [List.length_take, hxl]; omega
  have hti : cur.take (i * 2) = xs.take (i * 2) := by rw [← hct, List.take_take, Nat.min_eq_left (by omega)]
  have mixed : Try.prog.follows .mixedOrders = true := by kernel_rfl
  have hxsrc : ∀ k u, (xs.drop (j * 2))[k]? = some u → w.cell? ((⟨g, j * 2, none⟩ : Addr).add k) = some u := fun k u hk => by
    rw [Addr.add_lit, hA.cell]
    rw [List.getElem?_drop, ← hct, List.getElem?_take] at hk
    split at hk
    · exact hk
    · cases hk
  obtain ⟨k, hk⟩ : ∃ k, i + k = N := ⟨N - i, by omega⟩
  have HK := Lib.hid hk; clear hk
  have HQ := Lib.hid hq; clear hq
  have HN := Lib.hid hNe; clear hNe
  have hczN : (c : Int) < (N : Int) := by omega
  have HS := Lib.hid (fun h0 => srcs hys h0)
  have HC := Lib.hid (ownF_cut hown (i := i) (by omega))
  have hN3 : N ≤ 4000000 := by have := HN.out; omega
  clear hct hxl hx1 hys hown hti
  go_enter Try.func71, Try.ntmps71
  go_wp2_with fail
  go_quiet (fail)
  generalize hW : World.drewN w _ = W
  obtain ⟨hKW, hbW, HCW⟩ : Kept (fun _ => False) w W ∧ base ≤ W.heap.size ∧ Hid (OwnF W base (.slice (some ⟨g, 0, none⟩) i c) i (xs.take (i * 2))) := by
    subst hW
    exact ⟨(Kept.refl _ _).drewN _, hb, Lib.hid HC.out⟩
  clear hW
  go_wp2_with (first | (at_builtin; refine wpList_zeros2 rfl (.tmp 63) (.tmp 66) rfl base i c _ (xs.take (i * 2)) rfl HCW.out k N HK.out _ rfl (by have := HK.out; omega) (by have := HK.out; omega) (by have := HK.out; omega) (by have := HK.out; have := HN.out; omega) ?_; intro w2 g2 cur2 c2 hg2 hA2 hl2 hN2 hc2 ht2 hb2; have hc2m : c2 ≤ 9223372036854775807 := (by unfold maxLen at hc2; omega); have hc2i : ¬ c2 = i := (by have := HN.out; omega); have hc2j : ¬ c2 = q := (by have := HN.out; have := HQ.out; omega); have HG2 := Lib.hid hg2; clear hg2; have HT2 := Lib.hid ht2; clear ht2; have HL2 := Lib.hid hl2; clear hl2; have hk2 := hKW.trans (Kept.of_below hb2 (fun _ => False)); have hgW := HG2.out; have hsW := hKW.size; have hgg4 : w.heap.size ≤ g2 := (by omega); clear hgW hsW; have hyk := fun h0 => srcs_kept (HS.out h0) hk2 (fun _ h => h.elim); have HYK := Lib.hid hyk; clear hyk) | (refine wpList_copy2 rfl (.tmp 70) (.tmp 71) rfl _ _ _ _ _ _ g2 (i * 2) cur2 _ ys rfl rfl hA2 (by rw [hyl]; have := HK.out; have := HN.out; simp only [Nat.min_def]; split <;> omega) (fun _ => rfl) (fun h0 => HYK.out (by omega)) (by have := HL2.out; have := HK.out; have := HN.out; omega) hy1 ?_; intro w3 hA3 hk3))
  have hk3' := hk2.trans' hk3 (fun b hb => by subst hb; exact .inr (by omega))
  have hx3 : ∀ k u, (xs.drop (j * 2))[k]? = some u → w3.cell? ((⟨g, j * 2, none⟩ : Addr).add k) = some u := fun k u hk => (hk3'.cell (by rw [Addr.add_lit]; exact hg) (fun h => h)).trans (hxsrc k u hk)
  have hfit : q * 2 + (xs.drop (j * 2)).length ≤ (splice cur2 (i * 2) ys).length := by rw [length_splice _ _ _ (by have := HL2.out; have := HN.out; omega), hzl]; have := HL2.out; have := HN.out; have := HQ.out; omega
  go_region_law_o (refine step_copy2 rfl (.tmp 78) (.tmp 81) rfl (some ⟨g2, q * 2, none⟩) (some ⟨g, j * 2, none⟩) (N - q) (c2 - q) (n - j) (c - j) g2 (q * 2) (splice cur2 (i * 2) ys) _ (xs.drop (j * 2)) (by simp [Act.eval, Act.put]) (by simp [Act.eval, Act.put]) hA3.drew (by rw [hzl]; have := HN.out; have := HQ.out; simp only [Nat.min_def]; split <;> omega) (fun _ => rfl) (fun _ => ⟨_, rfl, hx3⟩) hfit hz1 ?_; intro w4 hA4 hk4)
  have hk4' := hk3'.drew.trans' hk4 (fun b hb => by subst hb; exact .inr (by omega))
  go_wp2
  go_ret
  have hl3 : (splice (splice cur2 (i * 2) ys) (q * 2) (xs.drop (j * 2))).length = c2 * 2 := by
    rw [length_splice _ _ _ hfit, length_splice _ _ _ (by have := HL2.out; have := HN.out; omega)]
    exact HL2.out
  have hct3 : (splice (splice cur2 (i * 2) ys) (q * 2) (xs.drop (j * 2))).take (N * 2) = xs.take (i * 2) ++ (ys ++ xs.drop (j * 2)) :=
    splice_splice cur2 _ ys _ (i * 2) (q * 2) (N * 2) HT2.out htl (by have := HQ.out; omega) (by have := HQ.out; have := HN.out; omega) (by have := HL2.out; omega)
  refine ⟨_, rfl, ownF_mk (by rw [← hct3, List.length_take, hl3]; omega) (by omega) hA4 (by assumption) hc2 hl3 hct3, hk4'.mono (fun j hj => hj.elim), fun k2 hk2 => ?_⟩
  have hk2' : g2 = k2 := Option.some.inj hk2
  exact .inr (by omega)
set_option maxHeartbeats 1000000 in
set_option maxRecDepth 100000 in
theorem lrep_d (base n m c cv g i j : Nat) (Av : Option Addr) (cur xs ys : List Value) (w : World) (hbg : base ≤ g) (hg : g < w.heap.size) (hA : At w g 105 cur) (hcl : cur.length = c * 2) (hct : cur.take (n * 2) = xs) (hxl : xs.length = n * 2)
    (hx1 : ∀ u ∈ xs, u.oneCell' = true) (hyl : ys.length = m * 2) (hy1 : ∀ u ∈ ys, u.oneCell' = true)
    (hys : 0 < m → ∃ gv curv, Av = some ⟨gv, 0, none⟩ ∧ gv ≠ g ∧ gv < w.heap.size ∧ At w gv 105 curv ∧ 0 < curv.length ∧ ∀ k u, ys[k]? = some u → w.cell? ((⟨gv, 0, none⟩ : Addr).add k) = some u)
    (hb : base ≤ w.heap.size) (hnc : n ≤ c) (hcm : c ≤ maxLen) (hmc : m ≤ cv) (hcvm : cv ≤ maxLen) (hN : n + m ≤ 2000000) (hij : i < j) (hjn : j < n) (q N : Nat) (hq : q = i + m) (hNe : N = i + m + (n - j)) (hqj : q ≤ j) :
    Calls Try.prog 71 #[.slice (some ⟨g, 0, none⟩) n c, .int .i64 i, .int .i64 j, .slice Av m cv] w (FPost base (.slice (some ⟨g, 0, none⟩) n c) N (xs.take (i * 2) ++ (ys ++ xs.drop (j * 2))) w) := by
  have hown : OwnF w base (.slice (some ⟨g, 0, none⟩) n c) n xs := ownF_mk hxl hbg hA hnc hcm hcl hct
  have hcm' : c ≤ 9223372036854775807 := by unfold maxLen at hcm; omega
  have hcvm' : cv ≤ 9223372036854775807 := by unfold maxLen at hcvm; omega
  have hiz : (i : Int) ≤ (j : Int) := by omega
  have hnz : (n : Int) ≤ (c : Int) := by omega
  have hjnz : (j : Int) ≤ (n : Int) := by omega
  have hne : ¬ (i : Int) = (j : Int) := by omega
  have hne2 : ¬ (j : Int) = (n : Int) := by omega
  have hcz : (i : Int) ≤ (c : Int) := by omega
  have hjz : (j : Int) ≤ (c : Int) := by omega
  have hci : ¬ c = i := by omega
  have hcj : ¬ c = j := by omega
  have hin : i ≤ n := by omega
  have hqw : IntKind.i64.wrap ((i : Int) + (m : Int)) = (q : Int) := by rw [IntKind.wrap_i64]; omega
  have hNw : IntKind.i64.wrap ((q : Int) + ((n : Int) - (j : Int))) = (N : Int) := by rw [IntKind.wrap_i64]; omega
  have hNw2 : IntKind.i64.wrap ((q : Int) + ((n - j : Nat) : Int)) = (N : Int) := by rw [IntKind.wrap_i64]; omega
  have hqN : (q : Int) ≤ (N : Int) := by omega
  have hiN : (i : Int) ≤ (N : Int) := by omega
  have hzl : (xs.drop (j * 2)).length = n * 2 - j * 2 := by rw [List.length_drop, hxl]
  have hz1 : ∀ u ∈ xs.drop (j * 2), u.oneCell' = true := fun u hu => hx1 u (List.mem_of_mem_drop hu)
  have htl : (xs.take (i * 2)).length = i * 2 := by rw [List.length_take, hxl]; omega
  have hti : cur.take (i * 2) = xs.take (i * 2) := by rw [← hct, List.take_take, Nat.min_eq_left (by omega)]
  have mixed : Try.prog.follows .mixedOrders = true := by kernel_rfl
  have hxsrc : ∀ k u, (xs.drop (j * 2))[k]? = some u → w.cell? ((⟨g, j * 2, none⟩ : Addr).add k) = some u := fun k u hk => by
    rw [Addr.add_lit, hA.cell]
    rw [List.getElem?_drop, ← hct, List.getElem?_take] at hk
    split at hk
    · exact hk
    · cases hk
  have HQ := Lib.hid hq; clear hq
  have HN := Lib.hid hNe; clear hNe
  have HS := Lib.hid (fun h0 => srcs hys h0)
  have hczN : ¬ (c : Int) < (N : Int) := by have := HQ.out; have := HN.out; omega
  have hNc : (N : Int) ≤ (c : Int) := by have := HQ.out; have := HN.out; omega
  have hN3 : N ≤ 4000000 := by have := HN.out; omega
  have hcq : ¬ c = q := by have := HQ.out; have := HN.out; omega
  have hqjz : (q : Int) ≤ (j : Int) := by omega
  have hNn : (N : Int) ≤ (n : Int) := by have := HN.out; have := HQ.out; omega
  have HTI := Lib.hid hti; clear hti
  clear hct hxl hx1 hys hown
  by_cases hcN : c = N
  · subst hcN
    obtain rfl : n = c := by omega
    go_enter Try.func71, Try.ntmps71
    go_wp2_with fail
    go_quiet (fail)
    generalize hW : World.drewN w _ = W
    obtain ⟨hKW, hbW, hAW⟩ : Kept (fun _ => False) w W ∧ base ≤ W.heap.size ∧ At W g 105 cur := by
      subst hW
      exact ⟨(Kept.refl _ _).drewN _, hb, hA⟩
    clear hW
    have HYK := Lib.hid (fun h0 => srcs_kept (HS.out h0) hKW (fun _ h => h.elim))
    go_wp2_with (refine wpList_copy2 rfl (.tmp 95) (.tmp 96) rfl _ _ _ _ _ _ g (i * 2) cur _ ys rfl rfl hAW (by rw [hyl]; have := HN.out; have := HQ.out; simp only [Nat.min_def]; split <;> omega) (fun _ => rfl) (fun h0 => HYK.out (by omega)) (by have := HN.out; have := HQ.out; omega) hy1 ?_; intro w3 hA3 hk3)
    have hfit0 : i * 2 + ys.length ≤ cur.length := by have := HQ.out; omega
    have hx3 : ∀ k u, (xs.drop (j * 2))[k]? = some u → w3.cell? ((⟨g, j * 2, none⟩ : Addr).add k) = some u := fun k u hk => by
      have h0 := hxsrc k u hk
      rw [Addr.add_lit, hA.cell] at h0
      rw [Addr.add_lit, hA3.cell]
      unfold splice
      rw [List.getElem?_append_right (by rw [List.length_take]; omega), List.getElem?_append_right (by rw [List.length_take]; have := HQ.out; omega), List.getElem?_drop, List.length_take, Nat.min_eq_left (by omega)]
      rw [show i * 2 + ys.length + (j * 2 + k - i * 2 - ys.length) = j * 2 + k by have := HQ.out; omega]
      exact h0
    have hfit : q * 2 + (xs.drop (j * 2)).length ≤ (splice cur (i * 2) ys).length := by rw [length_splice _ _ _ hfit0, hzl]; have := HN.out; have := HQ.out; omega
    go_region_law_o (refine step_copy2 rfl (.tmp 103) (.tmp 106) rfl (some ⟨g, q * 2, none⟩) (some ⟨g, j * 2, none⟩) (n - q) (n - q) (n - j) (n - j) g (q * 2) (splice cur (i * 2) ys) _ (xs.drop (j * 2)) (by simp [Act.eval, Act.put]) (by simp [Act.eval, Act.put]) hA3.drew (by rw [hzl]; have := HN.out; have := HQ.out; simp only [Nat.min_def]; split <;> omega) (fun _ => rfl) (fun _ => ⟨_, rfl, hx3⟩) hfit hz1 ?_; intro w4 hA4 hk4)
    have hl3 : (splice (splice cur (i * 2) ys) (q * 2) (xs.drop (j * 2))).length = n * 2 := by
      rw [length_splice _ _ _ hfit, length_splice _ _ _ hfit0]
      exact hcl
    have hct3 : (splice (splice cur (i * 2) ys) (q * 2) (xs.drop (j * 2))).take (n * 2) = xs.take (i * 2) ++ (ys ++ xs.drop (j * 2)) :=
      splice_splice cur _ ys _ (i * 2) (q * 2) (n * 2) HTI.out htl (by have := HQ.out; omega) (by have := HQ.out; have := HN.out; omega) (by have := HQ.out; have := HN.out; omega)
    have HL3 := Lib.hid hl3; clear hl3
    have HC3 := Lib.hid hct3; clear hct3
    go_wp2_with (refine wpList_clear2 rfl (.tmp 110) rfl _ 0 0 g (n * 2) _ _ rfl hA4 (fun h => absurd h (by omega)) (by have := HL3.out; omega) ?_; intro w5 zs hzl5 hA5 hk5)
    go_ret
    refine ⟨_, rfl, ownF_mk (by rw [← HC3.out, List.length_take, HL3.out]; omega) hbg hA5 (by omega) hcm (by rw [length_splice _ _ _ (by have := HL3.out; omega)]; exact HL3.out) ?_, ((((hKW.mono (S' := fun b => b = g) fun _ h => h.elim).trans hk3).trans hk4.from_drew).trans hk5).mono (fun b hb => .inl (by subst hb; rfl)), fun k2 hk2 => .inl hk2⟩
    rw [splice_take _ _ _ _ (Nat.le_refl _) (by have := HL3.out; omega)]
    exact HC3.out
  · go_enter Try.func71, Try.ntmps71
    go_wp2_with fail
    go_quiet (fail)
    generalize hW : World.drewN w _ = W
    obtain ⟨hKW, hbW, hAW⟩ : Kept (fun _ => False) w W ∧ base ≤ W.heap.size ∧ At W g 105 cur := by
      subst hW
      exact ⟨(Kept.refl _ _).drewN _, hb, hA⟩
    clear hW
    have HYK := Lib.hid (fun h0 => srcs_kept (HS.out h0) hKW (fun _ h => h.elim))
    go_wp2_with (refine wpList_copy2 rfl (.tmp 95) (.tmp 96) rfl _ _ _ _ _ _ g (i * 2) cur _ ys rfl rfl hAW (by rw [hyl]; have := HN.out; have := HQ.out; simp only [Nat.min_def]; split <;> omega) (fun _ => rfl) (fun h0 => HYK.out (by omega)) (by have := HN.out; have := HQ.out; omega) hy1 ?_; intro w3 hA3 hk3)
    have hfit0 : i * 2 + ys.length ≤ cur.length := by have := HQ.out; omega
    have hx3 : ∀ k u, (xs.drop (j * 2))[k]? = some u → w3.cell? ((⟨g, j * 2, none⟩ : Addr).add k) = some u := fun k u hk => by
      have h0 := hxsrc k u hk
      rw [Addr.add_lit, hA.cell] at h0
      rw [Addr.add_lit, hA3.cell]
      unfold splice
      rw [List.getElem?_append_right (by rw [List.length_take]; omega), List.getElem?_append_right (by rw [List.length_take]; have := HQ.out; omega), List.getElem?_drop, List.length_take, Nat.min_eq_left (by omega)]
      rw [show i * 2 + ys.length + (j * 2 + k - i * 2 - ys.length) = j * 2 + k by have := HQ.out; omega]
      exact h0
    have hfit : q * 2 + (xs.drop (j * 2)).length ≤ (splice cur (i * 2) ys).length := by rw [length_splice _ _ _ hfit0, hzl]; have := HN.out; have := HQ.out; omega
    go_region_law_o (refine step_copy2 rfl (.tmp 103) (.tmp 106) rfl (some ⟨g, q * 2, none⟩) (some ⟨g, j * 2, none⟩) (N - q) (c - q) (n - j) (c - j) g (q * 2) (splice cur (i * 2) ys) _ (xs.drop (j * 2)) (by simp [Act.eval, Act.put]) (by simp [Act.eval, Act.put]) hA3.drew (by rw [hzl]; have := HN.out; have := HQ.out; simp only [Nat.min_def]; split <;> omega) (fun _ => rfl) (fun _ => ⟨_, rfl, hx3⟩) hfit hz1 ?_; intro w4 hA4 hk4)
    have hl3 : (splice (splice cur (i * 2) ys) (q * 2) (xs.drop (j * 2))).length = c * 2 := by
      rw [length_splice _ _ _ hfit, length_splice _ _ _ hfit0]
      exact hcl
    have hct3 : (splice (splice cur (i * 2) ys) (q * 2) (xs.drop (j * 2))).take (N * 2) = xs.take (i * 2) ++ (ys ++ xs.drop (j * 2)) :=
      splice_splice cur _ ys _ (i * 2) (q * 2) (N * 2) HTI.out htl (by have := HQ.out; omega) (by have := HQ.out; have := HN.out; omega) (by have := HQ.out; have := HN.out; omega)
    have HL3 := Lib.hid hl3; clear hl3
    have HC3 := Lib.hid hct3; clear hct3
    go_wp2_with (refine wpList_clear2 rfl (.tmp 110) rfl (some ⟨g, N * 2, none⟩) (n - N) (c - N) g (N * 2) _ _ rfl hA4 (fun _ => rfl) (by have := HL3.out; omega) ?_; intro w5 zs hzl5 hA5 hk5)
    go_ret
    refine ⟨_, rfl, ownF_mk (by rw [← HC3.out, List.length_take, HL3.out]; omega) hbg hA5 (by omega) hcm (by rw [length_splice _ _ _ (by have := HL3.out; omega)]; exact HL3.out) ?_, ((((hKW.mono (S' := fun b => b = g) fun _ h => h.elim).trans hk3).trans hk4.from_drew).trans hk5).mono (fun b hb => .inl (by subst hb; rfl)), fun k2 hk2 => .inl hk2⟩
    rw [splice_take _ _ _ _ (Nat.le_refl _) (by have := HL3.out; omega)]
    exact HC3.out
set_option maxHeartbeats 1000000 in
set_option maxRecDepth 100000 in
theorem lrep_e (base n m c cv g i j : Nat) (Av : Option Addr) (cur xs ys : List Value) (w : World) (hbg : base ≤ g) (hg : g < w.heap.size) (hA : At w g 105 cur) (hcl : cur.length = c * 2) (hct : cur.take (n * 2) = xs) (hxl : xs.length = n * 2)
    (hx1 : ∀ u ∈ xs, u.oneCell' = true) (hyl : ys.length = m * 2) (hy1 : ∀ u ∈ ys, u.oneCell' = true)
    (hys : 0 < m → ∃ gv curv, Av = some ⟨gv, 0, none⟩ ∧ gv ≠ g ∧ gv < w.heap.size ∧ At w gv 105 curv ∧ 0 < curv.length ∧ ∀ k u, ys[k]? = some u → w.cell? ((⟨gv, 0, none⟩ : Addr).add k) = some u)
    (hb : base ≤ w.heap.size) (hnc : n ≤ c) (hcm : c ≤ maxLen) (hmc : m ≤ cv) (hcvm : cv ≤ maxLen) (hN : n + m ≤ 2000000) (hij : i < j) (hjn : j < n) (q N : Nat) (hq : q = i + m) (hNe : N = i + m + (n - j)) (hqj : j < q) (hroom : N ≤ c) :
    Calls Try.prog 71 #[.slice (some ⟨g, 0, none⟩) n c, .int .i64 i, .int .i64 j, .slice Av m cv] w (FPost base (.slice (some ⟨g, 0, none⟩) n c) N (xs.take (i * 2) ++ (ys ++ xs.drop (j * 2))) w) := by
  have hown : OwnF w base (.slice (some ⟨g, 0, none⟩) n c) n xs := ownF_mk hxl hbg hA hnc hcm hcl hct
  have hcm' : c ≤ 9223372036854775807 := by unfold maxLen at hcm; omega
  have hcvm' : cv ≤ 9223372036854775807 := by unfold maxLen at hcvm; omega
  have hiz : (i : Int) ≤ (j : Int) := by omega
  have hnz : (n : Int) ≤ (c : Int) := by omega
  have hjnz : (j : Int) ≤ (n : Int) := by omega
  have hne : ¬ (i : Int) = (j : Int) := by omega
  have hne2 : ¬ (j : Int) = (n : Int) := by omega
  have hcz : (i : Int) ≤ (c : Int) := by omega
  have hjz : (j : Int) ≤ (c : Int) := by omega
  have hci : ¬ c = i := by omega
  have hcj : ¬ c = j := by omega
  have hin : i ≤ n := by omega
  have hqw : IntKind.i64.wrap ((i : Int) + (m : Int)) = (q : Int) := by rw [IntKind.wrap_i64]; omega
  have hNw : IntKind.i64.wrap ((q : Int) + ((n : Int) - (j : Int))) = (N : Int) := by rw [IntKind.wrap_i64]; omega
  have hNw2 : IntKind.i64.wrap ((q : Int) + ((n - j : Nat) : Int)) = (N : Int) := by rw [IntKind.wrap_i64]; omega
  have hqN : (q : Int) ≤ (N : Int) := by omega
  have hiN : (i : Int) ≤ (N : Int) := by omega
  have hzl : (xs.drop (j * 2)).length = n * 2 - j * 2 := by rw [List.length_drop, hxl]
  have hz1 : ∀ u ∈ xs.drop (j * 2), u.oneCell' = true := fun u hu => hx1 u (List.mem_of_mem_drop hu)
  have htl : (xs.take (i * 2)).length = i * 2 := by rw [List.length_take, hxl]; omega
  have hti : cur.take (i * 2) = xs.take (i * 2) := by rw [← hct, List.take_take, Nat.min_eq_left (by omega)]
  have mixed : Try.prog.follows .mixedOrders = true := by kernel_rfl
  have hxsrc : ∀ k u, (xs.drop (j * 2))[k]? = some u → w.cell? ((⟨g, j * 2, none⟩ : Addr).add k) = some u := fun k u hk => by
    rw [Addr.add_lit, hA.cell]
    rw [List.getElem?_drop, ← hct, List.getElem?_take] at hk
    split at hk
    · exact hk
    · cases hk
  have HQ := Lib.hid hq; clear hq
  have HN := Lib.hid hNe; clear hNe
  have HS := Lib.hid (fun h0 => srcs hys h0)
  have hczN : ¬ (c : Int) < (N : Int) := by have := HQ.out; have := HN.out; omega
  have hNc : (N : Int) ≤ (c : Int) := by have := HQ.out; have := HN.out; omega
  have hN3 : N ≤ 4000000 := by have := HN.out; omega
  have hcq : ¬ c = q := by have := HQ.out; have := HN.out; omega
  have hqjz : ¬ (q : Int) ≤ (j : Int) := by omega
  have hm0 : 0 < m := by have := HQ.out; omega
  obtain ⟨gv, curv, rfl, hgg, hgv, hAv, hcv0, hysrc⟩ := hys hm0
  have hcN : ¬ c = N ∨ True := .inr trivial
  have HTI := Lib.hid hti; clear hti
  clear hct hxl hx1 hown
  go_enter Try.func71, Try.ntmps71
  go_wp2_with fail
  go_quiet (fail)
  generalize hW : World.drewN w _ = W
  obtain ⟨hKW, hbW, hAW, hxW, hov⟩ : Kept (fun _ => False) w W ∧ base ≤ W.heap.size ∧ At W g 105 cur ∧ (∀ k u, (xs.drop (j * 2))[k]? = some u → W.cell? ((⟨g, j * 2, none⟩ : Addr).add k) = some u) ∧
      (callFunc 74 #[.slice (some ⟨g, q * 2, none⟩) (N - q) (c - q), .slice (some ⟨gv, 0, none⟩) m cv]).run Try.prog W = .ok (.value (.bool false)) W := by
    have ho := fun W (hA : At W g 105 cur) (hAv : At W gv 105 curv) => (overlaps_none W hgg hA hAv (by omega) hcv0 (q * 2) m cv (N - q) (c - q)).2
    subst hW
    exact ⟨(Kept.refl _ _).drewN _, hb, hA, hxsrc, ho _ hA hAv⟩
  clear hW hys
  go_wp2
  have hfit : q * 2 + (xs.drop (j * 2)).length ≤ cur.length := by rw [hzl]; have := HN.out; have := HQ.out; omega
  go_region_law_o (refine step_copy2 rfl (.tmp 126) (.tmp 129) rfl (some ⟨g, q * 2, none⟩) (some ⟨g, j * 2, none⟩) (N - q) (c - q) (n - j) (c - j) g (q * 2) cur _ (xs.drop (j * 2)) (by simp [Act.eval, Act.put]) (by simp [Act.eval, Act.put]) hAW.drew (by rw [hzl]; have := HN.out; have := HQ.out; simp only [Nat.min_def]; split <;> omega) (fun _ => rfl) (fun _ => ⟨_, rfl, hxW⟩) hfit hz1 ?_; intro w3 hA3 hk3)
  have hA3l : (splice cur (q * 2) (xs.drop (j * 2))).length = c * 2 := by rw [length_splice _ _ _ hfit]; exact hcl
  have hk3' := (hKW.mono (S' := fun b => b = g) fun _ h => h.elim).trans hk3.from_drew
  have hys3 : ∀ k u, ys[k]? = some u → w3.cell? ((⟨gv, 0, none⟩ : Addr).add k) = some u := fun k u hk => (hk3'.cell (by rw [Addr.add_lit]; exact hgv) (by rw [Addr.add_lit]; exact hgg)).trans (hysrc k u hk)
  have hfit2 : i * 2 + ys.length ≤ (splice cur (q * 2) (xs.drop (j * 2))).length := by have := HN.out; omega
  go_wp2_with (refine wpList_copy2 rfl (.tmp 133) (.tmp 134) rfl _ _ _ _ _ _ g (i * 2) (splice cur (q * 2) (xs.drop (j * 2))) _ ys rfl rfl hA3 (by rw [hyl]; have := HN.out; have := HQ.out; simp only [Nat.min_def]; split <;> omega) (fun _ => rfl) (fun _ => ⟨_, rfl, hys3⟩) hfit2 hy1 ?_; intro w4 hA4 hk4)
  go_ret
  have hl3 : (splice (splice cur (q * 2) (xs.drop (j * 2))) (i * 2) ys).length = c * 2 := by
    rw [length_splice _ _ _ hfit2]
    exact hA3l
  have hct3 : (splice (splice cur (q * 2) (xs.drop (j * 2))) (i * 2) ys).take (N * 2) = xs.take (i * 2) ++ (ys ++ xs.drop (j * 2)) :=
    splice_back cur _ ys _ (i * 2) (q * 2) (N * 2) HTI.out htl (by have := HQ.out; omega) (by have := HQ.out; have := HN.out; omega) (by omega)
  exact ⟨_, rfl, ownF_mk (by rw [← hct3, List.length_take, hl3]; omega) hbg hA4 (by omega) hcm hl3 hct3, (hk3'.trans hk4).mono (fun b hb => .inl (by subst hb; rfl)), fun k2 hk2 => .inl hk2⟩
end
section
set_option linter.unusedVariables false
set_option linter.unusedSimpArgs false
open Go.RowKit
theorem spost_of_f {base : Nat} {v : Value} {n : Nat} {X : List Value} {l' : RL} {w : World} {e : Ending} {w' : World} (h : FPost base v n X w e w') (hn : n = l'.length) (hX : X = rlC l') (wd : WdL l') : SPost base v l' w e w' := by
  obtain ⟨v', he, h1, h2, h3⟩ := h
  subst hn; subst hX
  exact ⟨v', he, ⟨h1, wd⟩, h2, h3⟩
set_option maxHeartbeats 1000000 in
set_option maxRecDepth 100000 in
theorem lrep_i (base basev : Nat) (v vv : Value) (l rs : RL) (i : Nat) (w : World) (hl : OwnL w base v l) (hr : OwnL w basev vv rs) (hne : ∀ k, v.ownBlock = some k → vv.ownBlock ≠ some k) (hi : i ≤ l.length) (hN : l.length + rs.length ≤ 2000000) (hb : base ≤ w.heap.size) :
    Calls Try.prog 71 #[v, .int .i64 i, .int .i64 i, vv] w (SPost base v (l.take i ++ rs ++ l.drop i) w) := by
  have hI := linsert_any base basev v vv l rs i w hl hr hne hi hN hb
  have hI' := Lib.hid hI
  clear hI
  obtain ⟨A, c, rfl, hnc, hcm⟩ := hl.shape
  obtain ⟨A2, c2, rfl, hnc2, hcm2⟩ := hr.shape
  have hcz : (i : Int) ≤ (c : Int) := by omega
  have hcm' : c ≤ 9223372036854775807 := by unfold maxLen at hcm; omega
  have ho2 : A = none → c = i := fun hA => by
    obtain ⟨A', c', e, _, _, _, h⟩ := ownF_open hl.own
    injection e with e1 e2 e3
    subst e1; subst e3
    rcases h with ⟨_, h1, h2, _⟩ | ⟨g, cur, h1, _⟩
    · omega
    · rw [h1] at hA; cases hA
  clear hl hr hne
  generalize l.length = n at *
  generalize rs.length = m at *
  generalize hX : l.take i ++ rs ++ l.drop i = X at *
  clear hX
  by_cases hci : c = i
  · clear ho2
    subst hci
    go_enter Try.func71, Try.ntmps71
    go_wp2_with (go_at_call 73; refine hI'.out.mono ?_; rintro e w' ⟨v', rfl, h1, h2, h3⟩)
    go_ret
    exact ⟨_, rfl, h1, h2, h3⟩
  · cases A with
    | none => exact absurd (ho2 rfl) hci
    | some ad =>
      clear ho2
      go_enter Try.func71, Try.ntmps71
      go_wp2_with (go_at_call 73; refine hI'.out.mono ?_; rintro e w' ⟨v', rfl, h1, h2, h3⟩)
      go_ret
      exact ⟨_, rfl, h1, h2, h3⟩
theorem lreplace_any (base basev : Nat) (v vv : Value) (l rs : RL) (i j : Nat) (w : World) (hl : OwnL w base v l) (hr : OwnL w basev vv rs) (hne : ∀ k, v.ownBlock = some k → vv.ownBlock ≠ some k) (hij : i ≤ j) (hj : j ≤ l.length) (hN : l.length + rs.length ≤ 2000000) (hb : base ≤ w.heap.size) :
    Calls Try.prog 71 #[v, .int .i64 i, .int .i64 j, vv] w (SPost base v (l.take i ++ rs ++ l.drop j) w) := by
  rcases Nat.eq_or_lt_of_le hij with rfl | hlt
  · exact lrep_i base basev v vv l rs i w hl hr hne hj hN hb
  have wd := (hl.wd.take i).app hr.wd |>.app (hl.wd.drop j)
  have hXE : rlC (l.take i ++ rs ++ l.drop j) = (rlC l).take (i * 2) ++ (rlC rs ++ (rlC l).drop (j * 2)) := by rw [List.append_assoc, rlC_app, rlC_app, rlC_take, rlC_drop]
  have hLE : (l.take i ++ rs ++ l.drop j).length = i + rs.length + (l.length - j) := by simp; omega
  obtain ⟨A, c, rfl, hnc, hcm, hx, ho⟩ := ownF_open hl.own
  obtain ⟨Av, cv, rfl, hnv, hcmv, hxv, hov⟩ := ownF_open hr.own
  rcases ho with ⟨_, h, _⟩ | ⟨g, cur, rfl, hbg, hg, hA, hcl, hct⟩
  · omega
  have hys : 0 < rs.length → ∃ gv curv, Av = some ⟨gv, 0, none⟩ ∧ gv ≠ g ∧ gv < w.heap.size ∧ At w gv 105 curv ∧ 0 < curv.length ∧ ∀ k u, (rlC rs)[k]? = some u → w.cell? ((⟨gv, 0, none⟩ : Addr).add k) = some u := fun h0 => by
    obtain ⟨ad, e, hc⟩ := src_own hr Av cv rfl h0
    rcases hov with ⟨_, h, _⟩ | ⟨gv, curv, rfl, _, h1, h2, h3, h4⟩
    · omega
    · injection e with e
      subst e
      exact ⟨gv, curv, rfl, fun e => hne g rfl (by rw [e]; rfl), h1, h2, by omega, hc⟩
  rcases Nat.eq_or_lt_of_le hj with hjn | hjn
  · subst hjn
    refine (lrep_b base l.length rs.length c cv g i Av cur (rlC l) (rlC rs) w hbg hg hA hcl hct hx (rlC_one l) (rlC_len rs) (rlC_one rs) hys hb hnc hcm hnv hcmv hN hlt).mono ?_
    intro e w' h
    refine spost_of_f h (by rw [hLE]; omega) ?_ wd
    rw [hXE, List.drop_eq_nil_of_le (by omega), List.append_nil]
  · have conv := fun (h : Calls Try.prog 71 #[.slice (some ⟨g, 0, none⟩) l.length c, .int .i64 i, .int .i64 j, .slice Av rs.length cv] w (FPost base (.slice (some ⟨g, 0, none⟩) l.length c) (i + rs.length + (l.length - j)) ((rlC l).take (i * 2) ++ (rlC rs ++ (rlC l).drop (j * 2))) w)) =>
      h.mono (fun e w' h => spost_of_f h hLE.symm hXE.symm wd)
    apply conv
    by_cases hroom : c < i + rs.length + (l.length - j)
    · exact lrep_c base l.length rs.length c cv g i j Av cur (rlC l) (rlC rs) w hbg hg hA hcl hct hx (rlC_one l) (rlC_len rs) (rlC_one rs) hys hb hnc hcm hnv hcmv hN hlt hjn _ _ rfl rfl hroom
    · by_cases hqj : i + rs.length ≤ j
      · exact lrep_d base l.length rs.length c cv g i j Av cur (rlC l) (rlC rs) w hbg hg hA hcl hct hx (rlC_one l) (rlC_len rs) (rlC_one rs) hys hb hnc hcm hnv hcmv hN hlt hjn _ _ rfl rfl hqj
      · exact lrep_e base l.length rs.length c cv g i j Av cur (rlC l) (rlC rs) w hbg hg hA hcl hct hx (rlC_one l) (rlC_len rs) (rlC_one rs) hys hb hnc hcm hnv hcmv hN hlt hjn _ _ rfl rfl (by omega) (by omega)
set_option maxHeartbeats 1000000 in
set_option maxRecDepth 100000 in
theorem ldel_any (base : Nat) (v : Value) (l : RL) (k : Nat) (w : World) (hl : OwnL w base v l) (hk0 : 0 < k) (hkn : k < l.length) (hN : l.length ≤ 2000000) (hb : base ≤ w.heap.size) :
    Calls Try.prog 72 #[v, .int .i64 0, .int .i64 k] w (SPost base v (l.drop k) w) := by
  obtain ⟨A, c, rfl, hnc, hcm, hx, ho⟩ := ownF_open hl.own
  rcases ho with ⟨_, h, _⟩ | ⟨g, cur, rfl, hbg, hg, hA, hcl, hct⟩
  · omega
  have HW := Lib.hid (hl.wd.drop k)
  have HL := Lib.hid (show (l.drop k).length = l.length - k from List.length_drop)
  have HX := Lib.hid (rlC_drop l k)
  have hown : OwnF w base (.slice (some ⟨g, 0, none⟩) 0 c) 0 [] := ownF_cut hl.own (i := 0) (by omega)
  have hsrc : ∀ j u, ((rlC l).drop (k * 2))[j]? = some u → w.cell? ((⟨g, k * 2, none⟩ : Addr).add j) = some u := fun j u hj => by
    rw [Addr.add_lit, hA.cell]
    rw [List.getElem?_drop, ← hct, List.getElem?_take] at hj
    split at hj
    · exact hj
    · cases hj
  have hsl : ((rlC l).drop (k * 2)).length = (l.length - k) * 2 := by rw [List.length_drop, hx]; omega
  have hs1 : ∀ u ∈ (rlC l).drop (k * 2), u.oneCell' = true := fun u hu => rlC_one l u (List.mem_of_mem_drop hu)
  have hcm' : c ≤ 9223372036854775807 := by unfold maxLen at hcm; omega
  have hck : ¬ c = k := by omega
  have hc0 : ¬ c = 0 := by omega
  have hcz : (k : Int) ≤ (c : Int) := by omega
  have hnz : ((l.length : Nat) : Int) ≤ (c : Int) := by omega
  have hkz : (k : Int) ≤ ((l.length : Nat) : Int) := by omega
  have hk1 : ¬ (0 : Int) = (k : Int) := by omega
  clear hl hct
  generalize l.length = n at *
  have hcq : ¬ c = n - k := by omega
  have mixed : Try.prog.follows .mixedOrders = true := by kernel_rfl
  go_enter Try.func72, Try.ntmps72
  have hown' : OwnF w.drew base (.slice (some ⟨g, 0, none⟩) 0 c) 0 [] := ownF_keep hown fun _ _ => rfl
  have hb' : base ≤ w.drew.heap.size := hb
  have hsrc' : ∀ j u, ((rlC l).drop (k * 2))[j]? = some u → w.drew.cell? ((⟨g, k * 2, none⟩ : Addr).add j) = some u := hsrc
  clear hown hsrc
  go_wp2_with fail
  go_region_law_o (refine step_append2 rfl (.tmp 22) (.tmp 25) rfl base (.slice (some ⟨g, 0, none⟩) 0 c) 0 [] (by simp [Act.eval, Act.put]) hown' (some ⟨g, k * 2, none⟩) (n - k) (c - k) (by simp [Act.eval, Act.put]) ((rlC l).drop (k * 2)) hsl (fun _ => ⟨_, rfl, hsrc'⟩) hs1 (by omega) hb' ?_; intro v2 w2 hown2 hg2 hv2 hin2; obtain rfl := hin2 g c rfl (by omega); obtain ⟨g3, cur3, e4, hb3, hg3, hA3, hl3, ht3⟩ := ownF_some hown2; injection e4 with e4; subst e4)
  simp only [Nat.zero_add, List.nil_append] at hown2 ht3
  have HL3 := Lib.hid hl3; clear hl3
  have HT3 := Lib.hid ht3; clear ht3
  have hnkz : ((n - k : Nat) : Int) ≤ (n : Int) := by omega
  go_wp2_with (refine wpList_clear2 rfl (.tmp 31) rfl (some ⟨g, (n - k) * 2, none⟩) (n - (n - k)) (c - (n - k)) g ((n - k) * 2) cur3 _ rfl hA3 (fun _ => rfl) (by have := HL3.out; omega) ?_; intro w3 zs hzl hA4 hk4)
  go_ret
  refine ⟨_, rfl, ⟨?_, HW.out⟩, (Kept.from_drew (kept_grown hg2)).trans (hk4.mono fun j hj => .inl (by subst hj; rfl)), fun k hk => .inl hk⟩
  rw [HL.out, HX.out]
  refine ownF_mk hsl hb3 hA4 (by omega) hcm (by rw [length_splice _ _ _ (by have := HL3.out; omega)]; exact HL3.out) ?_
  rw [splice_take _ _ _ _ (Nat.le_refl _) (by have := HL3.out; omega)]
  exact HT3.out
end
end Go.Proofs.Ytndaikeeikimeaa
