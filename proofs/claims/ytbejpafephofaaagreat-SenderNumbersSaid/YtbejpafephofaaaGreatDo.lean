/-
  outbuf.Buffer: Next, where region 4 gives s4.
-/
import Derived.Test.YtbejpafephofaaaGreatMq9
namespace Go.Proofs.YtbejpafephofaaaGreat
set_option linter.unusedVariables false
set_option linter.unusedSimpArgs false
open Go.RowKit
set_option maxHeartbeats 16000000 in
set_option maxRecDepth 100000 in
theorem onext_s4 {w : World} {base p : Nat} {O : Nat → Prop} {S : OS} (h : Of w base p O S) (hok : S.ok) (hb : base ≤ w.heap.size) (hL : S.bs.length ≤ 1099511627776)  (limit : Nat) (hl : limit < 18446744073709551616)
    (lo hi0 hi : Nat) (hah : ∀ la ll, Sa S la ll → ahO S ll limit = (((lo : Int), (hi0 : Int)), true)) (hlh : lo ≤ hi) (hhl : hi ≤ S.bs.length) (hh0 : hi0 ≤ S.bs.length) (hbl : baseO S ≤ lo) (hge : lo = hi → lo ≤ S.gn) (hs1 : hi = lo) (hs2 : hi0 = lo)
    (hr : nextR S ((0 : Int) : Int).toNat limit = ⟨lo, hi - lo, decide (hi = S.bs.length) && endO S, true⟩) :
    Calls Tryz.prog 56 #[.pointer (some ⟨p, 0, none⟩), .int .i64 (0 : Int), .int .u64 limit] w (ONPost base p O S ((0 : Int) : Int).toNat limit w) := by
  obtain ⟨pa, pl, va, vl, vw, la, ll, rfl, hO, hy⟩ := h
  have HA := Lib.hid (ahead_at hO hy (by have := hy.ll_few hok; omega) hL limit hl)
  rw [hah la ll hy] at HA
  unfold ahV at HA
  simp only at HA
  have hgb := gn_base hok
  have HX : Hid (∀ w2, Below w.heap.size w w2 → ∃ X, X = w2.alloc (.cells #[.int .u64 lo, .int .u64 hi] 89) ∧ X.cell? ⟨p, 4, none⟩ = some (.pointer (some ⟨pl, 0, none⟩)) ∧ X.cell? ⟨w2.heap.size, 0, none⟩ = some (.int .u64 lo) ∧ X.cell? ⟨w2.heap.size, 1, none⟩ = some (.int .u64 hi) ∧
      Hid (Calls Tryz.prog 53 #[.pointer (some ⟨pl, 0, none⟩), .int .u64 lo, .int .u64 hi] X.drew fun e w' => e = .returned (.tuple #[]) ∧ ∃ vl', Hid (Nz w w' base p pa pl va vl vw la (cutL ll lo hi 2048) S lo hi w2.heap.size vl' S.gn (endO S) S.en))) := Lib.hid (fun w2 hB => by
    have hA := At.new w2 89 [.int .u64 lo, .int .u64 hi]
    have hBX : Below w.heap.size w (w2.alloc (.cells #[.int .u64 lo, .int .u64 hi] 89)) := hB.alloc hB.size _
    exact ⟨_, rfl, (hO.below hBX).c4, by rw [hA.cell]; rfl, by rw [hA.cell]; rfl, Lib.hid (nz_cut hO hy hok hb hBX hA hB.size (by omega))⟩)
  have HEND := Lib.hid (fun (W : World) (g : Nat) (vl' : Value) (du en fin : Bool) (hz : Nz w W base p pa pl va vl vw la (cutL ll lo hi 2048) S lo hi g vl' (max S.gn hi) du en) => nz_end fin hz hok hy hlh hge)
  have hml : (S.bs.drop (baseO S)).length = S.bs.length - baseO S := List.length_drop
  obtain ⟨Aw, cw, rfl, hmc, hcm, hrw⟩ := hO.own.open_n _ hml
  have hAw : Aw = none → cw = 0 := by
    intro e
    obtain ⟨A', c', e1, _, _, ho⟩ := ow_open (own_ow hO.own)
    injection e1 with e1 _ e3
    subst e1; subst e3
    rcases ho with ⟨_, h, _⟩ | ⟨g', cur, h, _⟩
    · exact h
    · rw [e] at h; cases h
  obtain ⟨b, hbb⟩ : ∃ b, b = baseO S := ⟨_, rfl⟩
  obtain ⟨K, hK⟩ : ∃ K, K = lo - b := ⟨_, rfl⟩
  obtain ⟨H, hH⟩ : ∃ H, H = hi - b := ⟨_, rfl⟩
  obtain ⟨len, hlen⟩ : ∃ len, len = S.bs.length := ⟨_, rfl⟩
  have hrd : ∀ g vl' gn du en W, Nz w W base p pa pl va vl (.slice Aw (S.bs.length - baseO S) cw) la (cutL ll lo hi 2048) S lo hi g vl' gn du en → Rd W W.heap.size (cutA Aw cw K) (H - K) ((S.bs.drop lo).take (hi - lo)) := fun g vl' gn du en W hz => by
    obtain ⟨A', c', e1, _, _, hr⟩ := hz.om.own.open_n _ hml
    injection e1 with e1 _ e3
    subst e1; subst e3
    have h1 := (hr.cutTo (m := H) (by omega)).cutFrom (c := cw) (k := K) (by omega) (by omega)
    have e : ((S.bs.drop (baseO S)).take H).drop K = (S.bs.drop lo).take (hi - lo) := by
      rw [List.drop_take, List.drop_drop, show baseO S + K = lo by omega, show H - K = hi - lo by omega]
    rw [e] at h1
    exact h1
  have HCL : Hid (∀ g vl' gn du en W, Nz w W base p pa pl va vl (.slice Aw (S.bs.length - baseO S) cw) la (cutL ll lo hi 2048) S lo hi g vl' gn du en → Calls Tryz.prog 72 #[.slice (cutA Aw cw K) (H - K) (cw - K)] W fun e w' => ∃ v, e = .returned v ∧ Own w' W.heap.size 5 v ((S.bs.drop lo).take (hi - lo)) ∧ Below W.heap.size W w') := Lib.hid (fun g vl' gn du en W hz => clone8 _ _ _ _ W (hrd g vl' gn du en W hz) (by omega) (by
    intro e
    unfold cutA at e
    split at e
    · have := hAw e
      omega
    · cases Aw with
      | none => have := hAw rfl; omega
      | some a => cases e))
  have HL : Hid (∀ g vl' gn du en W n, Nz w W base p pa pl va vl (.slice Aw (S.bs.length - baseO S) cw) la (cutL ll lo hi 2048) S lo hi g vl' gn du en → Calls Tryz.prog 62 #[.pointer (some ⟨p, 0, none⟩)] (W.drewN n) fun e w' => e = .returned (.int .u64 len) ∧ ∃ d, w' = W.drewN d) := Lib.hid (fun g vl' gn du en W n hz => by
    refine (olen_at (hz.drewN n).om (by omega)).mono fun e w' hP => ?_
    obtain ⟨he, d, hd⟩ := hP
    rw [show baseO S + (S.bs.length - baseO S) = len by omega] at he
    exact ⟨he, _, by rw [hd, World.drewN_drewN]⟩)
  have HQ : Hid (∀ (fin : Bool) (v : Value) (W W' : World) g vl' du en, fin = (decide (hi = len) && endO S) → Nz w W base p pa pl va vl (.slice Aw (S.bs.length - baseO S) cw) la (cutL ll lo hi 2048) S lo hi g vl' (max S.gn hi) du en → du = (endO S && !fin) → en = (S.en || fin) → Below W.heap.size W W' → Own W' W.heap.size 5 v ((S.bs.drop lo).take (hi - lo)) →
      ONPost base p (oO p pa pl va vl (.slice Aw (S.bs.length - baseO S) cw)) S ((0 : Int) : Int).toNat limit w (.returned (.tuple #[.int .u64 lo, v, .bool fin, .bool true])) W') := Lib.hid (fun fin v W W' g vl' du en hf hz h1 h2 hB hv => by
    have hf' := hf
    rw [hlen] at hf'
    refine ⟨v, by rw [hr, ← hf'], ?_, ?_⟩
    · rw [hr]
      exact hv.base_ hz.k.size
    · rw [nextO_eq hr, ← hf']
      exact HEND.out W' g vl' du en fin (hz.below hB) h1 h2)
  have zKi : (lo : Int) - (b : Int) = (K : Int) := by omega
  have zHi : (hi : Int) - (b : Int) = (H : Int) := by omega
  have zKH : (K : Int) ≤ (H : Int) := by omega
  have zHc : (H : Int) ≤ (cw : Int) := by omega
  have hKH : K ≤ H := by omega
  have hHcw : H ≤ cw := by omega
  have hKb : K ≤ 1099511627776 := by omega
  have hHb : H ≤ 1099511627776 := by omega
  have hlob : lo ≤ 1099511627776 := by omega
  have hhib : hi ≤ 1099511627776 := by omega
  have hh0b : hi0 ≤ 1099511627776 := by omega
  have hcw : cw ≤ 9223372036854775807 := by unfold maxLen at hcm; omega
  have wK : IntKind.u64.wrap (K : Int) = (K : Int) := by rw [IntKind.wrap_u64]; omega
  have wH : IntKind.u64.wrap (H : Int) = (H : Int) := by rw [IntKind.wrap_u64]; omega
  obtain ⟨UA, hUA⟩ : ∃ UA, (if cw = K then Aw else Option.map (fun x => x.add K) Aw) = UA := ⟨_, rfl⟩
  have e1 : cutA Aw cw K = UA := hUA
  rw [e1] at HCL
  have HM := Lib.hid (And.intro hK (And.intro hH (And.intro hlen hbb)))
  obtain ⟨gx, hgx⟩ : ∃ gx, gx = max S.gn hi := ⟨_, rfl⟩
  have zgx : (if (S.gn : Int) < (hi : Int) then (hi : Int) else (S.gn : Int)) = (gx : Int) := by split <;> omega
  have HGX : Hid ((if S.gn < hi then (hi : Int) else (S.gn : Int)) = (gx : Int)) := Lib.hid (by split <;> omega)
  have hgxb : gx ≤ 1099511627776 := by omega
  have HCELL : Hid (∀ g vl' gn du en W, Nz w W base p pa pl va vl (.slice Aw (S.bs.length - baseO S) cw) la (cutL ll lo hi 2048) S lo hi g vl' gn du en → W.cell? ⟨p, 0, none⟩ = some (.int .u64 b) ∧ W.cell? ⟨p, 1, none⟩ = some (.slice Aw (S.bs.length - baseO S) cw) ∧ W.cell? ⟨p, 2, none⟩ = some (.int .u64 gn) ∧ W.frozen? ⟨p, 2, none⟩ = false ∧ W.cell? ⟨p, 6, none⟩ = some (.bool du) ∧ W.frozen? ⟨p, 6, none⟩ = false ∧ W.cell? ⟨p, 7, none⟩ = some (.bool en) ∧ W.frozen? ⟨p, 7, none⟩ = false ∧ W.cell? ⟨g, 0, none⟩ = some (.int .u64 lo) ∧ W.cell? ⟨g, 1, none⟩ = some (.int .u64 hi)) := Lib.hid (fun g vl' gn du en W hz => ⟨by rw [hbb]; exact hz.om.c0, hz.om.c1, hz.om.c2, hz.om.at_.frozen 2, hz.om.c6, hz.om.at_.frozen 6, hz.om.c7, hz.om.at_.frozen 7, hz.r0, hz.r1⟩)
  rw [← hgx] at HQ
  have HGN : Hid (∀ g vl' W, Nz w W base p pa pl va vl (.slice Aw (S.bs.length - baseO S) cw) la (cutL ll lo hi 2048) S lo hi g vl' S.gn (endO S) S.en → Nz w (W.setCell ⟨p, 2, none⟩ (.int .u64 gx)) base p pa pl va vl (.slice Aw (S.bs.length - baseO S) cw) la (cutL ll lo hi 2048) S lo hi g vl' gx (endO S) S.en) := Lib.hid (fun g vl' W hz => hz.set_gn gx)
  have HFIN2 : Hid (∀ g vl' gn du en W, Nz w W base p pa pl va vl (.slice Aw (S.bs.length - baseO S) cw) la (cutL ll lo hi 2048) S lo hi g vl' gn du en → Nz w ((W.setCell ⟨p, 6, none⟩ (.bool false)).setCell ⟨p, 7, none⟩ (.bool true)) base p pa pl va vl (.slice Aw (S.bs.length - baseO S) cw) la (cutL ll lo hi 2048) S lo hi g vl' gn false true) := Lib.hid (fun g vl' gn du en W hz => (hz.set_du false).set_en true)
  have HGNB : Hid (S.gn ≤ 1099511627776) := Lib.hid (by omega)
  have hlenb : len ≤ 1099511627776 := by omega
  have mixed : Tryz.prog.follows .mixedOrders = true := by kernel_rfl
  clear hO hy hah hok hgb hml hrd hrw hmc hK hH hbb hgx e1 hAw hcm hbl hhl hh0 hge hlen hr hL hl hb HEND
  generalize hmm : S.bs.length - baseO S = m at *
  clear hmm
  generalize hdue : endO S = du at *
  generalize hene : S.en = en at *
  generalize hgne : S.gn = gn at *
  clear hdue hene hgne
  obtain hHK : H = K := by have := HM.out; omega
  clear HM
  subst hHK
  rw [Nat.sub_self H] at HCL
  subst hs1
  subst hs2
  have hll : ¬ (hi0 : Int) < (hi0 : Int) := by omega
  go_enter Tryz.func56, Tryz.ntmps56
  go_wp2_with (go_at_call 71; (with_reducible refine HA.out.mono ?_); rintro ez w2 ⟨rfl, hB2⟩; have HY := Lib.hid (HX.out w2 hB2); clear hB2)
  obtain ⟨X, hXe, x4, x0, x1, HCU⟩ := HY.out
  rw [← hXe]
  clear hXe HY
  generalize w2.heap.size = g at *
  go_still_tail 8, (by kernel_rfl)
  change wpList _ _ _ _ _ (World.drew X)
  generalize World.drew X = X2 at HCU ⊢
  go_wp2_with (go_at_call 53; (with_reducible refine HCU.out.mono ?_); rintro ez w5 ⟨rfl, vl', hz5⟩)
  obtain ⟨k0, k1, k2, kf2, k6, kf6, k7, kf7, g0, g1⟩ := HCELL.out g vl' _ _ _ w5 hz5.out
  obtain ⟨Y, hY⟩ : ∃ Y, w5.drew = Y := ⟨_, rfl⟩
  have hz5d : Nz w w5.drew base p pa pl va vl (.slice Aw m cw) la (cutL ll hi0 hi0 2048) S hi0 hi0 g vl' gn du en := hz5.out.drewN 1
  rw [hY] at hz5d
  have HZ6 := Lib.hid (HGN.out g vl' Y hz5d)
  have hHeld : (fun W => W.cell? ⟨p, 2, none⟩ = some (.int .u64 gn) ∧ W.cell? ⟨g, 1, none⟩ = some (.int .u64 hi0)) Y := ⟨hz5d.om.c2, hz5d.r1⟩
  have sf2 := hz5d.om.at_.frozen 2
  have sc2 := hz5d.om.c2
  clear k0 k1 k2 kf2 k6 kf6 k7 kf7 g0 g1 hz5d hz5
  refine wp_region_tail (S := (fun W => W.cell? ⟨p, 2, none⟩ = some (.int .u64 gn) ∧ W.cell? ⟨g, 1, none⟩ = some (.int .u64 hi0))) (D := 10) (by kernel_rfl) ?_
  rw [hY]
  clear hY
  refine tail_pure 0 (some 51) (v := ?_) rfl (Or.inl ⟨by rfl, ?_⟩) (fun _ => hHeld) ?_
  rotate_left
  · intro w hSw; (try dsimp only at hSw); go_simp; first | done | (with_reducible rfl)
  simp only [Act.put, List.setIfInBounds_toArray, List.set_cons_zero, List.set_cons_succ]
  refine tail_pure 1 (some 52) (v := ?_) rfl (Or.inl ⟨by rfl, ?_⟩) (fun _ => hHeld) ?_
  rotate_left
  · intro w hSw; (try dsimp only at hSw); go_simp; first | done | (with_reducible rfl)
  simp only [Act.put, List.setIfInBounds_toArray, List.set_cons_zero, List.set_cons_succ]
  refine tail_pure 2 (some 53) (v := ?_) rfl (Or.inl ⟨by rfl, ?_⟩) (fun _ => hHeld) ?_
  rotate_left
  · intro w hSw; (try dsimp only at hSw); go_simp; first | done | (with_reducible rfl)
  simp only [Act.put, List.setIfInBounds_toArray, List.set_cons_zero, List.set_cons_succ]
  refine tail_pure 3 (some 54) (v := ?_) rfl (Or.inl ⟨by rfl, ?_⟩) (fun _ => hHeld) ?_
  rotate_left
  · intro w hSw; (try dsimp only at hSw); go_simp; first | done | (with_reducible rfl)
  simp only [Act.put, List.setIfInBounds_toArray, List.set_cons_zero, List.set_cons_succ]
  refine tail_load 4 (some 55) [7, 10] (v := ?_) rfl (Or.inl ⟨by rfl, ?_⟩) hHeld ?_
  rotate_left
  · intro w hSw; (try dsimp only at hSw); go_simp; first | done | (with_reducible rfl)
  simp only [Act.put, List.setIfInBounds_toArray, List.set_cons_zero, List.set_cons_succ]
  refine tail_pure 5 (some 56) (v := ?_) rfl (Or.inl ⟨by rfl, ?_⟩) (fun _ => hHeld) ?_
  rotate_left
  · intro w hSw; (try dsimp only at hSw); go_simp; first | done | (with_reducible rfl)
  simp only [Act.put, List.setIfInBounds_toArray, List.set_cons_zero, List.set_cons_succ]
  refine tail_load 6 (some 57) [7, 10] (v := ?_) rfl (Or.inl ⟨by rfl, ?_⟩) hHeld ?_
  rotate_left
  · intro w hSw; (try dsimp only at hSw); go_simp; first | done | (with_reducible rfl)
  simp only [Act.put, List.setIfInBounds_toArray, List.set_cons_zero, List.set_cons_succ]
  refine tail_pure 7 (some 58) (v := .int .u64 gx) rfl (Or.inl ⟨by rfl, ?_⟩) (fun _ => hHeld) ?_
  · intro w hSw; (try dsimp only at hSw); go_simp; exact HGX.out
  simp only [Act.put, List.setIfInBounds_toArray, List.set_cons_zero, List.set_cons_succ]
  refine tail_pure 8 (some 59) (v := ?_) rfl (Or.inl ⟨by rfl, ?_⟩) (fun _ => hHeld) ?_
  rotate_left
  · intro w hSw; (try dsimp only at hSw); go_simp; first | done | (with_reducible rfl)
  simp only [Act.put, List.setIfInBounds_toArray, List.set_cons_zero, List.set_cons_succ]
  refine tail_pure 9 (some 60) (v := ?_) rfl (Or.inl ⟨by rfl, ?_⟩) (fun _ => hHeld) ?_
  rotate_left
  · intro w hSw; (try dsimp only at hSw); go_simp; first | done | (with_reducible rfl)
  simp only [Act.put, List.setIfInBounds_toArray, List.set_cons_zero, List.set_cons_succ]
  refine wpTail.ready (rs := [10]) (by kernel_rfl) (by simp) ?_
  refine AllTail.late rfl (by kernel_rfl) (fun K hK => ?_) AllTail.nil
  go_simp
  go_wp2_with (fail)
  refine hK.out _ _ ?_
  clear hK K
  refine wpTail.done (by kernel_rfl) ?_ _
  go_wp2_with fail
  generalize hX6 : World.setCell Y ⟨p, 2, none⟩ (.int .u64 gx) = X6 at HZ6 ⊢
  clear hX6 sf2 sc2
  obtain ⟨k0, k1, k2, kf2, k6, kf6, k7, kf7, g0, g1⟩ := HCELL.out g vl' _ _ _ X6 HZ6.out
  cases du
  · go_quiet (fail)
    go_wp2
    generalize hZ : World.drewN X6 _ = Z
    have HZZ : Hid (Nz w Z base p pa pl va vl (.slice Aw m cw) la (cutL ll hi0 hi0 2048) S hi0 hi0 g vl' gx false en) := Lib.hid (by rw [← hZ]; exact HZ6.out.drewN _)
    clear hZ k0 k1 k2 kf2 k6 kf6 k7 kf7 g0 g1 HZ6
    obtain ⟨k0, k1, _, _, _, _, _, _, g0, g1⟩ := HCELL.out g vl' _ _ _ Z HZZ.out
    have hzd : Nz w Z.drew base p pa pl va vl (.slice Aw m cw) la (cutL ll hi0 hi0 2048) S hi0 hi0 g vl' gx false en := HZZ.out.drewN 1
    obtain ⟨Y2, hY2⟩ : ∃ Y, Z.drew = Y := ⟨_, rfl⟩
    rw [hY2] at hzd
    have HC10 := Lib.hid (HCL.out g vl' _ _ _ Y2 hzd)
    have HK10 : Hid (∀ W, Below Y2.heap.size Y2 W → (fun W => W.cell? ⟨g, 0, none⟩ = some (.int .u64 hi0) ∧ W.cell? ⟨g, 1, none⟩ = some (.int .u64 hi0) ∧ W.cell? ⟨p, 0, none⟩ = some (.int .u64 b) ∧ W.cell? ⟨p, 1, none⟩ = some (.slice Aw m cw)) W) := Lib.hid (fun W hB => by
      obtain ⟨k0, k1, _, _, _, _, _, _, g0, g1⟩ := HCELL.out g vl' _ _ _ W (hzd.below hB)
      exact ⟨g0, g1, k0, k1⟩)
    have HQ10 := Lib.hid (fun (v : Value) (W' : World) (hB : Below Y2.heap.size Y2 W') (hv : Own W' Y2.heap.size 5 v ((S.bs.drop hi0).take (hi0 - hi0))) => HQ.out false v Y2 W' g vl' false en (by simp) hzd (by simp) (by simp) hB hv)
    clear hzd
    refine wp_region_held_drew (S := (fun W => W.cell? ⟨g, 0, none⟩ = some (.int .u64 hi0) ∧ W.cell? ⟨g, 1, none⟩ = some (.int .u64 hi0) ∧ W.cell? ⟨p, 0, none⟩ = some (.int .u64 b) ∧ W.cell? ⟨p, 1, none⟩ = some (.slice Aw m cw))) (by kernel_rfl) (⟨g0, g1, k0, k1⟩) (fun hHeld => ?_)
    rw [hY2] at hHeld ⊢
    clear hY2
    refine tkq 0 (some 82) (v := ?_) rfl (Or.inl ⟨by rfl, ?_⟩) (by assumption) ?_
    rotate_left
    · intro w hSw; (try dsimp only at hSw); go_simp; first | done | (with_reducible rfl)
    simp only [Act.put, List.setIfInBounds_toArray, List.set_cons_zero, List.set_cons_succ]
    refine tkq 1 (some 83) (v := ?_) rfl (Or.inl ⟨by rfl, ?_⟩) (by assumption) ?_
    rotate_left
    · intro w hSw; (try dsimp only at hSw); go_simp; first | done | (with_reducible rfl)
    simp only [Act.put, List.setIfInBounds_toArray, List.set_cons_zero, List.set_cons_succ]
    refine tkq 2 (some 84) (v := ?_) rfl (Or.inl ⟨by rfl, ?_⟩) (by assumption) ?_
    rotate_left
    · intro w hSw; (try dsimp only at hSw); go_simp; first | done | (with_reducible rfl)
    simp only [Act.put, List.setIfInBounds_toArray, List.set_cons_zero, List.set_cons_succ]
    refine tkq 3 (some 85) (v := ?_) rfl (Or.inl ⟨by rfl, ?_⟩) (by assumption) ?_
    rotate_left
    · intro w hSw; (try dsimp only at hSw); go_simp; first | done | (with_reducible rfl)
    simp only [Act.put, List.setIfInBounds_toArray, List.set_cons_zero, List.set_cons_succ]
    refine tkq 4 (some 86) (v := ?_) rfl (Or.inl ⟨by rfl, ?_⟩) (by assumption) ?_
    rotate_left
    · intro w hSw; (try dsimp only at hSw); go_simp; first | done | (with_reducible rfl)
    simp only [Act.put, List.setIfInBounds_toArray, List.set_cons_zero, List.set_cons_succ]
    refine tkq 5 (some 87) (v := ?_) rfl (Or.inl ⟨by rfl, ?_⟩) (by assumption) ?_
    rotate_left
    · intro w hSw; (try dsimp only at hSw); go_simp; first | done | (with_reducible rfl)
    simp only [Act.put, List.setIfInBounds_toArray, List.set_cons_zero, List.set_cons_succ]
    refine tkq 6 (some 88) (v := ?_) rfl (Or.inl ⟨by rfl, ?_⟩) (by assumption) ?_
    rotate_left
    · intro w hSw; (try dsimp only at hSw); go_simp; first | done | (with_reducible rfl)
    simp only [Act.put, List.setIfInBounds_toArray, List.set_cons_zero, List.set_cons_succ]
    refine tkq 7 (some 89) (v := ?_) rfl (Or.inl ⟨by rfl, ?_⟩) (by assumption) ?_
    rotate_left
    · intro w hSw; (try dsimp only at hSw); go_simp; first | done | (with_reducible rfl)
    simp only [Act.put, List.setIfInBounds_toArray, List.set_cons_zero, List.set_cons_succ]
    refine tkq 8 (some 90) (v := ?_) rfl (Or.inl ⟨by rfl, ?_⟩) (by assumption) ?_
    rotate_left
    · intro w hSw; (try dsimp only at hSw); go_simp; first | done | (with_reducible rfl)
    simp only [Act.put, List.setIfInBounds_toArray, List.set_cons_zero, List.set_cons_succ]
    refine tkq 9 (some 91) (v := ?_) rfl (Or.inl ⟨by rfl, ?_⟩) (by assumption) ?_
    rotate_left
    · intro w hSw; (try dsimp only at hSw); go_simp; first | done | (with_reducible rfl)
    simp only [Act.put, List.setIfInBounds_toArray, List.set_cons_zero, List.set_cons_succ]
    refine tkq 10 (some 92) (v := ?_) rfl (Or.inl ⟨by rfl, ?_⟩) (by assumption) ?_
    rotate_left
    · intro w hSw; (try dsimp only at hSw); go_simp; first | done | (with_reducible rfl)
    simp only [Act.put, List.setIfInBounds_toArray, List.set_cons_zero, List.set_cons_succ]
    refine tkq 11 (some 93) (v := ?_) rfl (Or.inl ⟨by rfl, ?_⟩) (by assumption) ?_
    rotate_left
    · intro w hSw; (try dsimp only at hSw); go_simp; first | done | (with_reducible rfl)
    simp only [Act.put, List.setIfInBounds_toArray, List.set_cons_zero, List.set_cons_succ]
    refine tkq 12 (some 94) (v := ?_) rfl (Or.inl ⟨by rfl, ?_⟩) (by assumption) ?_
    rotate_left
    · intro w hSw; (try dsimp only at hSw); go_simp; first | done | (with_reducible rfl)
    simp only [Act.put, List.setIfInBounds_toArray, List.set_cons_zero, List.set_cons_succ]
    refine tkq 13 (some 95) (v := ?_) rfl (Or.inl ⟨by rfl, ?_⟩) (by assumption) ?_
    rotate_left
    · intro w hSw; (try dsimp only at hSw); go_simp; first | done | (with_reducible rfl)
    simp only [Act.put, List.setIfInBounds_toArray, List.set_cons_zero, List.set_cons_succ]
    refine tkq 14 (some 96) (v := ?_) rfl (Or.inl ⟨by rfl, ?_⟩) (by assumption) ?_
    rotate_left
    · intro w hSw; (try dsimp only at hSw); go_simp; first | done | (with_reducible rfl)
    simp only [Act.put, List.setIfInBounds_toArray, List.set_cons_zero, List.set_cons_succ]
    refine tkq 15 (some 97) (v := ?_) rfl (Or.inl ⟨by rfl, ?_⟩) (by assumption) ?_
    rotate_left
    · intro w hSw; (try dsimp only at hSw); go_simp; first | done | (with_reducible rfl)
    simp only [Act.put, List.setIfInBounds_toArray, List.set_cons_zero, List.set_cons_succ]
    refine tkq 16 (some 98) (v := ?_) rfl (Or.inl ⟨by rfl, ?_⟩) (by assumption) ?_
    rotate_left
    · intro w hSw; (try dsimp only at hSw); go_simp; first | done | (with_reducible rfl)
    simp only [Act.put, List.setIfInBounds_toArray, List.set_cons_zero, List.set_cons_succ]
    refine tkq 17 (some 99) (v := ?_) rfl (Or.inl ⟨by rfl, ?_⟩) (by assumption) ?_
    rotate_left
    · intro w hSw; (try dsimp only at hSw); go_simp; first | done | (with_reducible rfl)
    simp only [Act.put, List.setIfInBounds_toArray, List.set_cons_zero, List.set_cons_succ]
    refine tkq 18 (some 100) (v := ?_) rfl (Or.inl ⟨by rfl, ?_⟩) (by assumption) ?_
    rotate_left
    · intro w hSw; (try dsimp only at hSw); go_simp; first | done | (with_reducible rfl)
    simp only [Act.put, List.setIfInBounds_toArray, List.set_cons_zero, List.set_cons_succ]
    refine tkq 19 (some 101) (v := ?_) rfl (Or.inl ⟨by rfl, ?_⟩) (by assumption) ?_
    rotate_left
    · intro w hSw; (try dsimp only at hSw); go_simp; first | done | (with_reducible rfl)
    simp only [Act.put, List.setIfInBounds_toArray, List.set_cons_zero, List.set_cons_succ]
    refine tkq 20 (some 102) (v := ?_) rfl (Or.inl ⟨by rfl, ?_⟩) (by assumption) ?_
    rotate_left
    · intro w hSw; (try dsimp only at hSw); go_simp; first | done | (with_reducible rfl)
    simp only [Act.put, List.setIfInBounds_toArray, List.set_cons_zero, List.set_cons_succ]
    refine tkq 22 (some 104) (v := ?_) rfl (Or.inl ⟨by rfl, ?_⟩) (by assumption) ?_
    rotate_left
    · intro w hSw; (try dsimp only at hSw); go_simp; first | done | (with_reducible rfl)
    simp only [Act.put, List.setIfInBounds_toArray, List.set_cons_zero, List.set_cons_succ]
    refine wpAnyH_ready (rs := [21]) (by kernel_rfl) (by simp) ?_
    refine AllReadyH.cons rfl (fun K hK => ?_) AllReadyH.nil
    go_simp
    go_wp2_with (go_at_call 72; (with_reducible refine HC10.out.mono ?_); rintro ez w9 ⟨v, rfl, hv9, hB9⟩)
    refine hK.out _ _ ((HK10.out _ hB9)) (fun hHeld => ?_)
    clear hK K
    refine tkq 23 (some 6) (v := ?_) rfl (Or.inl ⟨by rfl, ?_⟩) (by assumption) ?_
    rotate_left
    · intro w hSw; (try dsimp only at hSw); go_simp; first | done | (with_reducible rfl)
    simp only [Act.put, List.setIfInBounds_toArray, List.set_cons_zero, List.set_cons_succ]
    refine tkq 24 (some 7) (v := ?_) rfl (Or.inl ⟨by rfl, ?_⟩) (by assumption) ?_
    rotate_left
    · intro w hSw; (try dsimp only at hSw); go_simp; first | done | (with_reducible rfl)
    simp only [Act.put, List.setIfInBounds_toArray, List.set_cons_zero, List.set_cons_succ]
    refine tkq 25 (some 8) (v := ?_) rfl (Or.inl ⟨by rfl, ?_⟩) (by assumption) ?_
    rotate_left
    · intro w hSw; (try dsimp only at hSw); go_simp; first | done | (with_reducible rfl)
    simp only [Act.put, List.setIfInBounds_toArray, List.set_cons_zero, List.set_cons_succ]
    refine tkq 26 (some 9) (v := ?_) rfl (Or.inl ⟨by rfl, ?_⟩) (by assumption) ?_
    rotate_left
    · intro w hSw; (try dsimp only at hSw); go_simp; first | done | (with_reducible rfl)
    simp only [Act.put, List.setIfInBounds_toArray, List.set_cons_zero, List.set_cons_succ]
    refine wpAnyH_done (by kernel_rfl) ?_ _
    go_wp2_with fail
    refine bodyPost_ret (results_tmp4 rfl _ _ _) rfl ?_
    exact HQ10.out v w9 hB9 hv9
  · have HLX := Lib.hid (fun n => HL.out g vl' _ _ _ X6 n HZ6.out)
    by_cases hcl : hi0 = len
    · have hclz : (hi0 : Int) = (len : Int) := by omega
      go_quiet ((go_at_call 62; (with_reducible exact HLX.out _)))
      go_wp2
      generalize hZ : World.setCell (World.setCell (World.drewN X6 _) _ _) _ _ = Z
      have HZZ : Hid (Nz w Z base p pa pl va vl (.slice Aw m cw) la (cutL ll hi0 hi0 2048) S hi0 hi0 g vl' gx false true) := Lib.hid (by rw [← hZ]; exact HFIN2.out g vl' _ _ _ _ (HZ6.out.drewN _))
      have HCLX := Lib.hid hcl
      clear hZ k0 k1 k2 kf2 k6 kf6 k7 kf7 g0 g1 HZ6 HLX hclz hcl
      obtain ⟨k0, k1, _, _, _, _, _, _, g0, g1⟩ := HCELL.out g vl' _ _ _ Z HZZ.out
      have hzd : Nz w Z.drew base p pa pl va vl (.slice Aw m cw) la (cutL ll hi0 hi0 2048) S hi0 hi0 g vl' gx false true := HZZ.out.drewN 1
      obtain ⟨Y2, hY2⟩ : ∃ Y, Z.drew = Y := ⟨_, rfl⟩
      rw [hY2] at hzd
      have HC10 := Lib.hid (HCL.out g vl' _ _ _ Y2 hzd)
      have HK10 : Hid (∀ W, Below Y2.heap.size Y2 W → (fun W => W.cell? ⟨g, 0, none⟩ = some (.int .u64 hi0) ∧ W.cell? ⟨g, 1, none⟩ = some (.int .u64 hi0) ∧ W.cell? ⟨p, 0, none⟩ = some (.int .u64 b) ∧ W.cell? ⟨p, 1, none⟩ = some (.slice Aw m cw)) W) := Lib.hid (fun W hB => by
        obtain ⟨k0, k1, _, _, _, _, _, _, g0, g1⟩ := HCELL.out g vl' _ _ _ W (hzd.below hB)
        exact ⟨g0, g1, k0, k1⟩)
      have HQ10 := Lib.hid (fun (v : Value) (W' : World) (hB : Below Y2.heap.size Y2 W') (hv : Own W' Y2.heap.size 5 v ((S.bs.drop hi0).take (hi0 - hi0))) => HQ.out true v Y2 W' g vl' false true (by simp [HCLX.out]) hzd (by simp) (by simp) hB hv)
      clear hzd
      refine wp_region_held_drew (S := (fun W => W.cell? ⟨g, 0, none⟩ = some (.int .u64 hi0) ∧ W.cell? ⟨g, 1, none⟩ = some (.int .u64 hi0) ∧ W.cell? ⟨p, 0, none⟩ = some (.int .u64 b) ∧ W.cell? ⟨p, 1, none⟩ = some (.slice Aw m cw))) (by kernel_rfl) (⟨g0, g1, k0, k1⟩) (fun hHeld => ?_)
      rw [hY2] at hHeld ⊢
      clear hY2
      refine tkq 0 (some 82) (v := ?_) rfl (Or.inl ⟨by rfl, ?_⟩) (by assumption) ?_
      rotate_left
      · intro w hSw; (try dsimp only at hSw); go_simp; first | done | (with_reducible rfl)
      simp only [Act.put, List.setIfInBounds_toArray, List.set_cons_zero, List.set_cons_succ]
      refine tkq 1 (some 83) (v := ?_) rfl (Or.inl ⟨by rfl, ?_⟩) (by assumption) ?_
      rotate_left
      · intro w hSw; (try dsimp only at hSw); go_simp; first | done | (with_reducible rfl)
      simp only [Act.put, List.setIfInBounds_toArray, List.set_cons_zero, List.set_cons_succ]
      refine tkq 2 (some 84) (v := ?_) rfl (Or.inl ⟨by rfl, ?_⟩) (by assumption) ?_
      rotate_left
      · intro w hSw; (try dsimp only at hSw); go_simp; first | done | (with_reducible rfl)
      simp only [Act.put, List.setIfInBounds_toArray, List.set_cons_zero, List.set_cons_succ]
      refine tkq 3 (some 85) (v := ?_) rfl (Or.inl ⟨by rfl, ?_⟩) (by assumption) ?_
      rotate_left
      · intro w hSw; (try dsimp only at hSw); go_simp; first | done | (with_reducible rfl)
      simp only [Act.put, List.setIfInBounds_toArray, List.set_cons_zero, List.set_cons_succ]
      refine tkq 4 (some 86) (v := ?_) rfl (Or.inl ⟨by rfl, ?_⟩) (by assumption) ?_
      rotate_left
      · intro w hSw; (try dsimp only at hSw); go_simp; first | done | (with_reducible rfl)
      simp only [Act.put, List.setIfInBounds_toArray, List.set_cons_zero, List.set_cons_succ]
      refine tkq 5 (some 87) (v := ?_) rfl (Or.inl ⟨by rfl, ?_⟩) (by assumption) ?_
      rotate_left
      · intro w hSw; (try dsimp only at hSw); go_simp; first | done | (with_reducible rfl)
      simp only [Act.put, List.setIfInBounds_toArray, List.set_cons_zero, List.set_cons_succ]
      refine tkq 6 (some 88) (v := ?_) rfl (Or.inl ⟨by rfl, ?_⟩) (by assumption) ?_
      rotate_left
      · intro w hSw; (try dsimp only at hSw); go_simp; first | done | (with_reducible rfl)
      simp only [Act.put, List.setIfInBounds_toArray, List.set_cons_zero, List.set_cons_succ]
      refine tkq 7 (some 89) (v := ?_) rfl (Or.inl ⟨by rfl, ?_⟩) (by assumption) ?_
      rotate_left
      · intro w hSw; (try dsimp only at hSw); go_simp; first | done | (with_reducible rfl)
      simp only [Act.put, List.setIfInBounds_toArray, List.set_cons_zero, List.set_cons_succ]
      refine tkq 8 (some 90) (v := ?_) rfl (Or.inl ⟨by rfl, ?_⟩) (by assumption) ?_
      rotate_left
      · intro w hSw; (try dsimp only at hSw); go_simp; first | done | (with_reducible rfl)
      simp only [Act.put, List.setIfInBounds_toArray, List.set_cons_zero, List.set_cons_succ]
      refine tkq 9 (some 91) (v := ?_) rfl (Or.inl ⟨by rfl, ?_⟩) (by assumption) ?_
      rotate_left
      · intro w hSw; (try dsimp only at hSw); go_simp; first | done | (with_reducible rfl)
      simp only [Act.put, List.setIfInBounds_toArray, List.set_cons_zero, List.set_cons_succ]
      refine tkq 10 (some 92) (v := ?_) rfl (Or.inl ⟨by rfl, ?_⟩) (by assumption) ?_
      rotate_left
      · intro w hSw; (try dsimp only at hSw); go_simp; first | done | (with_reducible rfl)
      simp only [Act.put, List.setIfInBounds_toArray, List.set_cons_zero, List.set_cons_succ]
      refine tkq 11 (some 93) (v := ?_) rfl (Or.inl ⟨by rfl, ?_⟩) (by assumption) ?_
      rotate_left
      · intro w hSw; (try dsimp only at hSw); go_simp; first | done | (with_reducible rfl)
      simp only [Act.put, List.setIfInBounds_toArray, List.set_cons_zero, List.set_cons_succ]
      refine tkq 12 (some 94) (v := ?_) rfl (Or.inl ⟨by rfl, ?_⟩) (by assumption) ?_
      rotate_left
      · intro w hSw; (try dsimp only at hSw); go_simp; first | done | (with_reducible rfl)
      simp only [Act.put, List.setIfInBounds_toArray, List.set_cons_zero, List.set_cons_succ]
      refine tkq 13 (some 95) (v := ?_) rfl (Or.inl ⟨by rfl, ?_⟩) (by assumption) ?_
      rotate_left
      · intro w hSw; (try dsimp only at hSw); go_simp; first | done | (with_reducible rfl)
      simp only [Act.put, List.setIfInBounds_toArray, List.set_cons_zero, List.set_cons_succ]
      refine tkq 14 (some 96) (v := ?_) rfl (Or.inl ⟨by rfl, ?_⟩) (by assumption) ?_
      rotate_left
      · intro w hSw; (try dsimp only at hSw); go_simp; first | done | (with_reducible rfl)
      simp only [Act.put, List.setIfInBounds_toArray, List.set_cons_zero, List.set_cons_succ]
      refine tkq 15 (some 97) (v := ?_) rfl (Or.inl ⟨by rfl, ?_⟩) (by assumption) ?_
      rotate_left
      · intro w hSw; (try dsimp only at hSw); go_simp; first | done | (with_reducible rfl)
      simp only [Act.put, List.setIfInBounds_toArray, List.set_cons_zero, List.set_cons_succ]
      refine tkq 16 (some 98) (v := ?_) rfl (Or.inl ⟨by rfl, ?_⟩) (by assumption) ?_
      rotate_left
      · intro w hSw; (try dsimp only at hSw); go_simp; first | done | (with_reducible rfl)
      simp only [Act.put, List.setIfInBounds_toArray, List.set_cons_zero, List.set_cons_succ]
      refine tkq 17 (some 99) (v := ?_) rfl (Or.inl ⟨by rfl, ?_⟩) (by assumption) ?_
      rotate_left
      · intro w hSw; (try dsimp only at hSw); go_simp; first | done | (with_reducible rfl)
      simp only [Act.put, List.setIfInBounds_toArray, List.set_cons_zero, List.set_cons_succ]
      refine tkq 18 (some 100) (v := ?_) rfl (Or.inl ⟨by rfl, ?_⟩) (by assumption) ?_
      rotate_left
      · intro w hSw; (try dsimp only at hSw); go_simp; first | done | (with_reducible rfl)
      simp only [Act.put, List.setIfInBounds_toArray, List.set_cons_zero, List.set_cons_succ]
      refine tkq 19 (some 101) (v := ?_) rfl (Or.inl ⟨by rfl, ?_⟩) (by assumption) ?_
      rotate_left
      · intro w hSw; (try dsimp only at hSw); go_simp; first | done | (with_reducible rfl)
      simp only [Act.put, List.setIfInBounds_toArray, List.set_cons_zero, List.set_cons_succ]
      refine tkq 20 (some 102) (v := ?_) rfl (Or.inl ⟨by rfl, ?_⟩) (by assumption) ?_
      rotate_left
      · intro w hSw; (try dsimp only at hSw); go_simp; first | done | (with_reducible rfl)
      simp only [Act.put, List.setIfInBounds_toArray, List.set_cons_zero, List.set_cons_succ]
      refine tkq 22 (some 104) (v := ?_) rfl (Or.inl ⟨by rfl, ?_⟩) (by assumption) ?_
      rotate_left
      · intro w hSw; (try dsimp only at hSw); go_simp; first | done | (with_reducible rfl)
      simp only [Act.put, List.setIfInBounds_toArray, List.set_cons_zero, List.set_cons_succ]
      refine wpAnyH_ready (rs := [21]) (by kernel_rfl) (by simp) ?_
      refine AllReadyH.cons rfl (fun K hK => ?_) AllReadyH.nil
      go_simp
      go_wp2_with (go_at_call 72; (with_reducible refine HC10.out.mono ?_); rintro ez w9 ⟨v, rfl, hv9, hB9⟩)
      refine hK.out _ _ ((HK10.out _ hB9)) (fun hHeld => ?_)
      clear hK K
      refine tkq 23 (some 6) (v := ?_) rfl (Or.inl ⟨by rfl, ?_⟩) (by assumption) ?_
      rotate_left
      · intro w hSw; (try dsimp only at hSw); go_simp; first | done | (with_reducible rfl)
      simp only [Act.put, List.setIfInBounds_toArray, List.set_cons_zero, List.set_cons_succ]
      refine tkq 24 (some 7) (v := ?_) rfl (Or.inl ⟨by rfl, ?_⟩) (by assumption) ?_
      rotate_left
      · intro w hSw; (try dsimp only at hSw); go_simp; first | done | (with_reducible rfl)
      simp only [Act.put, List.setIfInBounds_toArray, List.set_cons_zero, List.set_cons_succ]
      refine tkq 25 (some 8) (v := ?_) rfl (Or.inl ⟨by rfl, ?_⟩) (by assumption) ?_
      rotate_left
      · intro w hSw; (try dsimp only at hSw); go_simp; first | done | (with_reducible rfl)
      simp only [Act.put, List.setIfInBounds_toArray, List.set_cons_zero, List.set_cons_succ]
      refine tkq 26 (some 9) (v := ?_) rfl (Or.inl ⟨by rfl, ?_⟩) (by assumption) ?_
      rotate_left
      · intro w hSw; (try dsimp only at hSw); go_simp; first | done | (with_reducible rfl)
      simp only [Act.put, List.setIfInBounds_toArray, List.set_cons_zero, List.set_cons_succ]
      refine wpAnyH_done (by kernel_rfl) ?_ _
      go_wp2_with fail
      refine bodyPost_ret (results_tmp4 rfl _ _ _) rfl ?_
      exact HQ10.out v w9 hB9 hv9
    · have hclz : ¬ (hi0 : Int) = (len : Int) := by omega
      go_quiet ((go_at_call 62; (with_reducible exact HLX.out _)))
      go_wp2
      generalize hZ : World.drewN X6 _ = Z
      have HZZ : Hid (Nz w Z base p pa pl va vl (.slice Aw m cw) la (cutL ll hi0 hi0 2048) S hi0 hi0 g vl' gx true en) := Lib.hid (by rw [← hZ]; exact HZ6.out.drewN _)
      have HCLX := Lib.hid hcl
      clear hZ k0 k1 k2 kf2 k6 kf6 k7 kf7 g0 g1 HZ6 HLX hclz hcl
      obtain ⟨k0, k1, _, _, _, _, _, _, g0, g1⟩ := HCELL.out g vl' _ _ _ Z HZZ.out
      have hzd : Nz w Z.drew base p pa pl va vl (.slice Aw m cw) la (cutL ll hi0 hi0 2048) S hi0 hi0 g vl' gx true en := HZZ.out.drewN 1
      obtain ⟨Y2, hY2⟩ : ∃ Y, Z.drew = Y := ⟨_, rfl⟩
      rw [hY2] at hzd
      have HC10 := Lib.hid (HCL.out g vl' _ _ _ Y2 hzd)
      have HK10 : Hid (∀ W, Below Y2.heap.size Y2 W → (fun W => W.cell? ⟨g, 0, none⟩ = some (.int .u64 hi0) ∧ W.cell? ⟨g, 1, none⟩ = some (.int .u64 hi0) ∧ W.cell? ⟨p, 0, none⟩ = some (.int .u64 b) ∧ W.cell? ⟨p, 1, none⟩ = some (.slice Aw m cw)) W) := Lib.hid (fun W hB => by
        obtain ⟨k0, k1, _, _, _, _, _, _, g0, g1⟩ := HCELL.out g vl' _ _ _ W (hzd.below hB)
        exact ⟨g0, g1, k0, k1⟩)
      have HQ10 := Lib.hid (fun (v : Value) (W' : World) (hB : Below Y2.heap.size Y2 W') (hv : Own W' Y2.heap.size 5 v ((S.bs.drop hi0).take (hi0 - hi0))) => HQ.out false v Y2 W' g vl' true en (by simp [HCLX.out]) hzd (by simp) (by simp) hB hv)
      clear hzd
      refine wp_region_held_drew (S := (fun W => W.cell? ⟨g, 0, none⟩ = some (.int .u64 hi0) ∧ W.cell? ⟨g, 1, none⟩ = some (.int .u64 hi0) ∧ W.cell? ⟨p, 0, none⟩ = some (.int .u64 b) ∧ W.cell? ⟨p, 1, none⟩ = some (.slice Aw m cw))) (by kernel_rfl) (⟨g0, g1, k0, k1⟩) (fun hHeld => ?_)
      rw [hY2] at hHeld ⊢
      clear hY2
      refine tkq 0 (some 82) (v := ?_) rfl (Or.inl ⟨by rfl, ?_⟩) (by assumption) ?_
      rotate_left
      · intro w hSw; (try dsimp only at hSw); go_simp; first | done | (with_reducible rfl)
      simp only [Act.put, List.setIfInBounds_toArray, List.set_cons_zero, List.set_cons_succ]
      refine tkq 1 (some 83) (v := ?_) rfl (Or.inl ⟨by rfl, ?_⟩) (by assumption) ?_
      rotate_left
      · intro w hSw; (try dsimp only at hSw); go_simp; first | done | (with_reducible rfl)
      simp only [Act.put, List.setIfInBounds_toArray, List.set_cons_zero, List.set_cons_succ]
      refine tkq 2 (some 84) (v := ?_) rfl (Or.inl ⟨by rfl, ?_⟩) (by assumption) ?_
      rotate_left
      · intro w hSw; (try dsimp only at hSw); go_simp; first | done | (with_reducible rfl)
      simp only [Act.put, List.setIfInBounds_toArray, List.set_cons_zero, List.set_cons_succ]
      refine tkq 3 (some 85) (v := ?_) rfl (Or.inl ⟨by rfl, ?_⟩) (by assumption) ?_
      rotate_left
      · intro w hSw; (try dsimp only at hSw); go_simp; first | done | (with_reducible rfl)
      simp only [Act.put, List.setIfInBounds_toArray, List.set_cons_zero, List.set_cons_succ]
      refine tkq 4 (some 86) (v := ?_) rfl (Or.inl ⟨by rfl, ?_⟩) (by assumption) ?_
      rotate_left
      · intro w hSw; (try dsimp only at hSw); go_simp; first | done | (with_reducible rfl)
      simp only [Act.put, List.setIfInBounds_toArray, List.set_cons_zero, List.set_cons_succ]
      refine tkq 5 (some 87) (v := ?_) rfl (Or.inl ⟨by rfl, ?_⟩) (by assumption) ?_
      rotate_left
      · intro w hSw; (try dsimp only at hSw); go_simp; first | done | (with_reducible rfl)
      simp only [Act.put, List.setIfInBounds_toArray, List.set_cons_zero, List.set_cons_succ]
      refine tkq 6 (some 88) (v := ?_) rfl (Or.inl ⟨by rfl, ?_⟩) (by assumption) ?_
      rotate_left
      · intro w hSw; (try dsimp only at hSw); go_simp; first | done | (with_reducible rfl)
      simp only [Act.put, List.setIfInBounds_toArray, List.set_cons_zero, List.set_cons_succ]
      refine tkq 7 (some 89) (v := ?_) rfl (Or.inl ⟨by rfl, ?_⟩) (by assumption) ?_
      rotate_left
      · intro w hSw; (try dsimp only at hSw); go_simp; first | done | (with_reducible rfl)
      simp only [Act.put, List.setIfInBounds_toArray, List.set_cons_zero, List.set_cons_succ]
      refine tkq 8 (some 90) (v := ?_) rfl (Or.inl ⟨by rfl, ?_⟩) (by assumption) ?_
      rotate_left
      · intro w hSw; (try dsimp only at hSw); go_simp; first | done | (with_reducible rfl)
      simp only [Act.put, List.setIfInBounds_toArray, List.set_cons_zero, List.set_cons_succ]
      refine tkq 9 (some 91) (v := ?_) rfl (Or.inl ⟨by rfl, ?_⟩) (by assumption) ?_
      rotate_left
      · intro w hSw; (try dsimp only at hSw); go_simp; first | done | (with_reducible rfl)
      simp only [Act.put, List.setIfInBounds_toArray, List.set_cons_zero, List.set_cons_succ]
      refine tkq 10 (some 92) (v := ?_) rfl (Or.inl ⟨by rfl, ?_⟩) (by assumption) ?_
      rotate_left
      · intro w hSw; (try dsimp only at hSw); go_simp; first | done | (with_reducible rfl)
      simp only [Act.put, List.setIfInBounds_toArray, List.set_cons_zero, List.set_cons_succ]
      refine tkq 11 (some 93) (v := ?_) rfl (Or.inl ⟨by rfl, ?_⟩) (by assumption) ?_
      rotate_left
      · intro w hSw; (try dsimp only at hSw); go_simp; first | done | (with_reducible rfl)
      simp only [Act.put, List.setIfInBounds_toArray, List.set_cons_zero, List.set_cons_succ]
      refine tkq 12 (some 94) (v := ?_) rfl (Or.inl ⟨by rfl, ?_⟩) (by assumption) ?_
      rotate_left
      · intro w hSw; (try dsimp only at hSw); go_simp; first | done | (with_reducible rfl)
      simp only [Act.put, List.setIfInBounds_toArray, List.set_cons_zero, List.set_cons_succ]
      refine tkq 13 (some 95) (v := ?_) rfl (Or.inl ⟨by rfl, ?_⟩) (by assumption) ?_
      rotate_left
      · intro w hSw; (try dsimp only at hSw); go_simp; first | done | (with_reducible rfl)
      simp only [Act.put, List.setIfInBounds_toArray, List.set_cons_zero, List.set_cons_succ]
      refine tkq 14 (some 96) (v := ?_) rfl (Or.inl ⟨by rfl, ?_⟩) (by assumption) ?_
      rotate_left
      · intro w hSw; (try dsimp only at hSw); go_simp; first | done | (with_reducible rfl)
      simp only [Act.put, List.setIfInBounds_toArray, List.set_cons_zero, List.set_cons_succ]
      refine tkq 15 (some 97) (v := ?_) rfl (Or.inl ⟨by rfl, ?_⟩) (by assumption) ?_
      rotate_left
      · intro w hSw; (try dsimp only at hSw); go_simp; first | done | (with_reducible rfl)
      simp only [Act.put, List.setIfInBounds_toArray, List.set_cons_zero, List.set_cons_succ]
      refine tkq 16 (some 98) (v := ?_) rfl (Or.inl ⟨by rfl, ?_⟩) (by assumption) ?_
      rotate_left
      · intro w hSw; (try dsimp only at hSw); go_simp; first | done | (with_reducible rfl)
      simp only [Act.put, List.setIfInBounds_toArray, List.set_cons_zero, List.set_cons_succ]
      refine tkq 17 (some 99) (v := ?_) rfl (Or.inl ⟨by rfl, ?_⟩) (by assumption) ?_
      rotate_left
      · intro w hSw; (try dsimp only at hSw); go_simp; first | done | (with_reducible rfl)
      simp only [Act.put, List.setIfInBounds_toArray, List.set_cons_zero, List.set_cons_succ]
      refine tkq 18 (some 100) (v := ?_) rfl (Or.inl ⟨by rfl, ?_⟩) (by assumption) ?_
      rotate_left
      · intro w hSw; (try dsimp only at hSw); go_simp; first | done | (with_reducible rfl)
      simp only [Act.put, List.setIfInBounds_toArray, List.set_cons_zero, List.set_cons_succ]
      refine tkq 19 (some 101) (v := ?_) rfl (Or.inl ⟨by rfl, ?_⟩) (by assumption) ?_
      rotate_left
      · intro w hSw; (try dsimp only at hSw); go_simp; first | done | (with_reducible rfl)
      simp only [Act.put, List.setIfInBounds_toArray, List.set_cons_zero, List.set_cons_succ]
      refine tkq 20 (some 102) (v := ?_) rfl (Or.inl ⟨by rfl, ?_⟩) (by assumption) ?_
      rotate_left
      · intro w hSw; (try dsimp only at hSw); go_simp; first | done | (with_reducible rfl)
      simp only [Act.put, List.setIfInBounds_toArray, List.set_cons_zero, List.set_cons_succ]
      refine tkq 22 (some 104) (v := ?_) rfl (Or.inl ⟨by rfl, ?_⟩) (by assumption) ?_
      rotate_left
      · intro w hSw; (try dsimp only at hSw); go_simp; first | done | (with_reducible rfl)
      simp only [Act.put, List.setIfInBounds_toArray, List.set_cons_zero, List.set_cons_succ]
      refine wpAnyH_ready (rs := [21]) (by kernel_rfl) (by simp) ?_
      refine AllReadyH.cons rfl (fun K hK => ?_) AllReadyH.nil
      go_simp
      go_wp2_with (go_at_call 72; (with_reducible refine HC10.out.mono ?_); rintro ez w9 ⟨v, rfl, hv9, hB9⟩)
      refine hK.out _ _ ((HK10.out _ hB9)) (fun hHeld => ?_)
      clear hK K
      refine tkq 23 (some 6) (v := ?_) rfl (Or.inl ⟨by rfl, ?_⟩) (by assumption) ?_
      rotate_left
      · intro w hSw; (try dsimp only at hSw); go_simp; first | done | (with_reducible rfl)
      simp only [Act.put, List.setIfInBounds_toArray, List.set_cons_zero, List.set_cons_succ]
      refine tkq 24 (some 7) (v := ?_) rfl (Or.inl ⟨by rfl, ?_⟩) (by assumption) ?_
      rotate_left
      · intro w hSw; (try dsimp only at hSw); go_simp; first | done | (with_reducible rfl)
      simp only [Act.put, List.setIfInBounds_toArray, List.set_cons_zero, List.set_cons_succ]
      refine tkq 25 (some 8) (v := ?_) rfl (Or.inl ⟨by rfl, ?_⟩) (by assumption) ?_
      rotate_left
      · intro w hSw; (try dsimp only at hSw); go_simp; first | done | (with_reducible rfl)
      simp only [Act.put, List.setIfInBounds_toArray, List.set_cons_zero, List.set_cons_succ]
      refine tkq 26 (some 9) (v := ?_) rfl (Or.inl ⟨by rfl, ?_⟩) (by assumption) ?_
      rotate_left
      · intro w hSw; (try dsimp only at hSw); go_simp; first | done | (with_reducible rfl)
      simp only [Act.put, List.setIfInBounds_toArray, List.set_cons_zero, List.set_cons_succ]
      refine wpAnyH_done (by kernel_rfl) ?_ _
      go_wp2_with fail
      refine bodyPost_ret (results_tmp4 rfl _ _ _) rfl ?_
      exact HQ10.out v w9 hB9 hv9
end Go.Proofs.YtbejpafephofaaaGreat
