/-
  The law's calls: Take.
-/
import Derived.Test.YtpihgikcgkipaaaUy
namespace Go.Proofs.Ytpihgikcgkipaaa
set_option linter.unusedVariables false
set_option linter.unusedSimpArgs false
open Go.RowKit
theorem inP_one {w : World} {g : Nat} {r : PK} (h : At w g 31 (pkC r)) : InP w (some ⟨g, 0, none⟩) 1 [r] := ⟨rfl, fun _ => ⟨g, 0, rfl, h.lt, fun i r' hi => by
  obtain rfl : i = 0 := by
    have := (List.getElem?_eq_some_iff.1 hi).1
    simp at this
    omega
  simp at hi
  subst hi
  exact h.pk⟩⟩
section
variable {w0 : GW} {w : World} {B p q : Nat} {nx ak : Int} {hd : Bool} {v1 v2 : Value} {l1 l2 : PL}
set_option maxRecDepth 100000 in
set_option maxHeartbeats 16000000 in
theorem do_take (h : Sx w0 w B p q nx ak hd v1 v2 l1 l2) (x : AX) (hf : 0 ≤ x.from_ ∧ x.from_ < 18446744073709551616) :
    Calls Try.prog 8 #[.pointer (some ⟨p, 0, none⟩), .pointer (some ⟨q, 0, none⟩), .agg (axL 7 x).toArray] w fun e w' => e = .returned (.bool true) ∧ St w0 w' B p q := by
  obtain ⟨skip, size, asks, time, from_, ⟨roA, ron, roc⟩, ⟨pn, pt, ps, pa, pA, pk, pc⟩, ⟨rA, rn, rc⟩⟩ := x
  simp only at hf
  have hax : Below w.heap.size w (w.alloc (.cells #[.int .i64 7, .int .i64 skip, .int .i64 size, .bool asks, .int .i64 time, .int .u64 from_, .slice roA ron roc, .int .u64 pn, .int .i64 pt, .int .i64 ps, .bool pa, .slice pA pk pc, .slice rA rn rc] 36)) := (Below.refl _ _).alloc (Nat.le_refl _) _
  have hA := At.new w 36 [.int .i64 7, .int .i64 skip, .int .i64 size, .bool asks, .int .i64 time, .int .u64 from_, .slice roA ron roc, .int .u64 pn, .int .i64 pt, .int .i64 ps, .bool pa, .slice pA pk pc, .slice rA rn rc]
  have HX := Lib.hid (h.below hax)
  have hnx := h.gk.nx0
  clear h hax
  rw [show Value.agg (axL 7 ⟨skip, size, asks, time, from_, ⟨roA, ron, roc⟩, ⟨pn, pt, ps, pa, pA, pk, pc⟩, ⟨rA, rn, rc⟩⟩).toArray = .agg #[.int .i64 7, .int .i64 skip, .int .i64 size, .bool asks, .int .i64 time, .int .u64 from_, .slice roA ron roc, .int .u64 pn, .int .i64 pt, .int .i64 ps, .bool pa, .slice pA pk pc, .slice rA rn rc] from rfl]
  go_enter Try.func8, Try.ntmps8
  go_wp2
  generalize World.alloc w _ = X at *
  obtain ⟨ga, hga⟩ : ∃ g, w.heap.size = g := ⟨_, rfl⟩
  rw [hga] at hA ⊢
  have HA := Lib.hid hA
  have hgl := hA.lt
  have a5 := hA.cell 5
  have q1 := HX.out.rv.at_.cell 1
  have hql := HX.out.rv.at_.lt
  clear hga hA
  have hw2 : IntKind.u64.wrap (nx + 1) = nx + 1 := by rw [IntKind.wrap_u64]; omega
  have hnz : ¬ nx + 1 = 0 := by omega
  have hm1 : 0 ≤ from_.tmod (nx + 1) := Int.tmod_nonneg _ hf.1
  obtain ⟨F, hF⟩ : ∃ F, from_.tmod (nx + 1) = F := ⟨_, rfl⟩
  have hd0 : Below X.heap.size X X.drew := ⟨rfl, rfl, rfl, Nat.le_refl _, fun _ _ => rfl⟩
  have HDZ := Lib.hid (hd0.alloc (Nat.le_refl _) (.cells #[.int .u64 0, .int .i64 0, .int .i64 0, .bool false, .slice none 0 0] 31))
  have HT0 := Lib.hid (stakeU (HX.out.below hd0).lv F HX.out.gk)
  have HT1 := Lib.hid (stakeU (HX.out.below HDZ.out).lv F HX.out.gk)
  have hgan : ∀ {W : World} {S : Nat → Prop}, Kept S X W → (S ga → False) → At W ga 36 [.int .i64 7, .int .i64 skip, .int .i64 size, .bool asks, .int .i64 time, .int .u64 from_, .slice roA ron roc, .int .u64 pn, .int .i64 pt, .int .i64 ps, .bool pa, .slice pA pk pc, .slice rA rn rc] := fun k hs => HA.out.kept k hs
  have hgap : ¬ (ga = p ∨ v1.ownBlock = some ga) := fun hh => by
    rcases hh with hh | hh
    · have h9 := HX.out.lv.at_
      rw [← hh] at h9
      exact absurd (h9.type_eq HA.out) (by decide)
    · obtain ⟨cur, h9⟩ := ownG_type HX.out.lv.own ga hh
      exact absurd (h9.type_eq HA.out) (by decide)
  have HGAP := Lib.hid hgap
  have HKEEP : Hid (∀ W : World, Kept (fun j => j = p ∨ v1.ownBlock = some j) X W → W.cell? ⟨ga, 5, none⟩ = some (.int .u64 from_) ∧ W.cell? ⟨q, 1, none⟩ = some (.int .u64 nx)) := Lib.hid (fun W k => ⟨(HA.out.kept k HGAP.out).cell 5, (HX.out.rvKept k).at_.cell 1⟩)
  have HZN := Lib.hid (At.new X.drew 31 [.int .u64 0, .int .i64 0, .int .i64 0, .bool false, .slice none 0 0])
  have HZK := Lib.hid (show ¬ (X.drew.heap.size = p ∨ v1.ownBlock = some X.drew.heap.size) from fun hh => by
    have h8 : X.drew.heap.size = X.heap.size := rfl
    rcases hh with hh | hh
    · have h9 := HX.out.lv.at_.lt; omega
    · have h9 := (ownG_lt HX.out.lv.own _ hh).2; omega)
  clear hgan hgap
  go_cut [15, 16] from 142 to 154 (fun s15 s16 wx => ∃ (g15 : Nat) (ok : Bool) (r : PK) (v1' : Value) (l1' : PL), s15 = .pointer (some ⟨g15, 0, none⟩) ∧ s16 = .bool ok ∧ Hid (LV wx B p nx ak hd v1' l1' ∧ Kept (fun j => j = p ∨ v1.ownBlock = some j) X wx ∧ v1'.ownBlock = v1.ownBlock ∧ TakeR (l1.map PK.core) F r.core ok (l1'.map PK.core) ∧ At wx g15 31 (pkC r) ∧ X.heap.size ≤ g15))
  case first =>
    go_wp2_with fail
    have hzs : X.drew.heap.size = X.heap.size := rfl
    obtain ⟨Y, hY⟩ : ∃ x, X.drew = x := ⟨_, rfl⟩
    rw [hY] at hd0 HDZ HT0 HT1 HZN HZK hzs
    rw [hzs] at HZN HZK
    refine wp_region_held_drew (S := (fun W => W.cell? ⟨ga, 5, none⟩ = some (.int .u64 from_) ∧ W.cell? ⟨q, 1, none⟩ = some (.int .u64 nx))) (by kernel_rfl) (⟨a5, q1⟩) (fun hHeld => ?_)
    rw [hY] at hHeld ⊢
    clear hY
    refine tkq 0 (some 143) (v := ?_) rfl (Or.inl ⟨by rfl, ?_⟩) (by assumption) ?_
    rotate_left
    · intro w hSw; (try dsimp only at hSw); go_simp; first | done | (with_reducible rfl)
    simp only [Act.put, List.setIfInBounds_toArray, List.set_cons_zero, List.set_cons_succ]
    refine tkq 1 (some 144) (v := ?_) rfl (Or.inl ⟨by rfl, ?_⟩) (by assumption) ?_
    rotate_left
    · intro w hSw; (try dsimp only at hSw); go_simp; first | done | (with_reducible rfl)
    simp only [Act.put, List.setIfInBounds_toArray, List.set_cons_zero, List.set_cons_succ]
    refine tkq 2 (some 145) (v := ?_) rfl (Or.inl ⟨by rfl, ?_⟩) (by assumption) ?_
    rotate_left
    · intro w hSw; (try dsimp only at hSw); go_simp; first | done | (with_reducible rfl)
    simp only [Act.put, List.setIfInBounds_toArray, List.set_cons_zero, List.set_cons_succ]
    refine tkq 3 (some 146) (v := ?_) rfl (Or.inl ⟨by rfl, ?_⟩) (by assumption) ?_
    rotate_left
    · intro w hSw; (try dsimp only at hSw); go_simp; first | done | (with_reducible rfl)
    simp only [Act.put, List.setIfInBounds_toArray, List.set_cons_zero, List.set_cons_succ]
    refine tkq 4 (some 147) (v := ?_) rfl (Or.inl ⟨by rfl, ?_⟩) (by assumption) ?_
    rotate_left
    · intro w hSw; (try dsimp only at hSw); go_simp; first | done | (with_reducible rfl)
    simp only [Act.put, List.setIfInBounds_toArray, List.set_cons_zero, List.set_cons_succ]
    refine tkq 5 (some 148) (v := ?_) rfl (Or.inl ⟨by rfl, ?_⟩) (by assumption) ?_
    rotate_left
    · intro w hSw; (try dsimp only at hSw); go_simp; first | done | (with_reducible rfl)
    simp only [Act.put, List.setIfInBounds_toArray, List.set_cons_zero, List.set_cons_succ]
    refine tkq 6 (some 149) (v := ?_) rfl (Or.inl ⟨by rfl, ?_⟩) (by assumption) ?_
    rotate_left
    · intro w hSw; (try dsimp only at hSw); go_simp; first | done | (with_reducible rfl)
    simp only [Act.put, List.setIfInBounds_toArray, List.set_cons_zero, List.set_cons_succ]
    refine tkq 7 (some 150) (v := ?_) rfl (Or.inl ⟨by rfl, ?_⟩) (by assumption) ?_
    rotate_left
    · intro w hSw; (try dsimp only at hSw); go_simp; first | done | (with_reducible rfl)
    simp only [Act.put, List.setIfInBounds_toArray, List.set_cons_zero, List.set_cons_succ]
    refine tkq 8 (some 151) (v := ?_) rfl (Or.inl ⟨by rfl, ?_⟩) (by assumption) ?_
    rotate_left
    · intro w hSw; (try dsimp only at hSw); go_simp; first | done | (with_reducible rfl)
    simp only [Act.put, List.setIfInBounds_toArray, List.set_cons_zero, List.set_cons_succ]
    refine wpAnyH_ready (rs := [9, 13]) (by kernel_rfl) (by simp) ?_
    refine AllReadyH.cons rfl (fun K hK => ?_) (AllReadyH.cons rfl (fun K hK => ?_) (AllReadyH.nil))
    · go_simp
      go_wp2_with (go_at_call 21; (with_reducible refine HT0.out.mono ?_); rintro e w6 ⟨r6, ok6, v6, l6, rfl, hl6, hk6, hv6, hx6⟩)
      have hkX := (Kept.of_below hd0 (fun _ => False) |>.mono (fun j hj => .inl hj.elim)).trans hk6
      refine hK.out _ _ ((HKEEP.out _ hkX)) (fun hHeld => ?_)
      clear hK K
      refine tkq 10 (some 142) (v := ?_) rfl (Or.inl ⟨by rfl, ?_⟩) (by assumption) ?_
      rotate_left
      · intro w hSw; (try dsimp only at hSw); go_simp; first | done | (with_reducible rfl)
      simp only [Act.put, List.setIfInBounds_toArray, List.set_cons_zero, List.set_cons_succ]
      refine tkq 11 (some 153) (v := ?_) rfl (Or.inl ⟨by rfl, ?_⟩) (by assumption) ?_
      rotate_left
      · intro w hSw; (try dsimp only at hSw); go_simp; first | done | (with_reducible rfl)
      simp only [Act.put, List.setIfInBounds_toArray, List.set_cons_zero, List.set_cons_succ]
      refine tkq 12 (some 154) (v := ?_) rfl (Or.inl ⟨by rfl, ?_⟩) (by assumption) ?_
      rotate_left
      · intro w hSw; (try dsimp only at hSw); go_simp; first | done | (with_reducible rfl)
      simp only [Act.put, List.setIfInBounds_toArray, List.set_cons_zero, List.set_cons_succ]
      refine wpAnyH_ready (rs := [13]) (by kernel_rfl) (by simp) ?_
      refine AllReadyH.cons rfl (fun K hK => ?_) AllReadyH.nil
      go_simp
      go_wp2_with (fail)
      refine hK.out _ _ ((HKEEP.out _ (hkX.alloc _))) (fun hHeld => ?_)
      clear hK K
      refine wpAnyH_ready (rs := [14]) (by kernel_rfl) (by simp) ?_
      refine AllReadyH.cons rfl (fun K hK => ?_) AllReadyH.nil
      refine step_st_any (by rfl) (w6.heap.size) 31 [.int .u64 0, .int .i64 0, .int .i64 0, .bool false, .slice none 0 0] (pkC r6) (by rfl) (by rfl) (At.new w6 31 [.int .u64 0, .int .i64 0, .int .i64 0, .bool false, .slice none 0 0]) rfl pk_size (by rfl) ?_
      intro w8 hAn hkn
      have hk8 := (hkX.alloc (.cells #[.int .u64 0, .int .i64 0, .int .i64 0, .bool false, .slice none 0 0] 31)).trans' hkn (fun j hj => .inr (by rw [hj]; exact hkX.size))
      refine hK.out _ _ ((HKEEP.out _ hk8)) (fun hHeld => ?_)
      clear hK K
      refine tkq 15 (some 16) (v := ?_) rfl (Or.inl ⟨by rfl, ?_⟩) (by assumption) ?_
      rotate_left
      · intro w hSw; (try dsimp only at hSw); go_simp; first | done | (with_reducible rfl)
      simp only [Act.put, List.setIfInBounds_toArray, List.set_cons_zero, List.set_cons_succ]
      refine wpAnyH_done (by kernel_rfl) ?_ _
      go_wp2_with fail
      go_meet
      exact ⟨_, ok6, r6, v6, l6, rfl, rfl, Lib.hid ⟨((hl6.below ((Below.refl w6.heap.size w6).alloc (Nat.le_refl _) (.cells #[.int .u64 0, .int .i64 0, .int .i64 0, .bool false, .slice none 0 0] 31))).kept hkn (by have := hl6.at_.lt; omega) (fun j hj e => by have := (ownG_lt hl6.own j hj).2; omega) (NoFr.of_type fun j hj => by subst hj; exact ⟨_, _, At.new w6 31 [.int .u64 0, .int .i64 0, .int .i64 0, .bool false, .slice none 0 0], by decide⟩)), hk8, hv6, hx6, hAn, hkX.size⟩⟩
    · go_simp
      go_wp2_with (fail)
      refine hK.out _ _ ((HKEEP.out _ (Kept.of_below HDZ.out _))) (fun hHeld => ?_)
      clear hK K
      refine wpAnyH_ready (rs := [9]) (by kernel_rfl) (by simp) ?_
      refine AllReadyH.cons rfl (fun K hK => ?_) AllReadyH.nil
      go_simp
      go_wp2_with (go_at_call 21; (with_reducible refine HT1.out.mono ?_); rintro e w6 ⟨r6, ok6, v6, l6, rfl, hl6, hk6, hv6, hx6⟩)
      have hkX := (Kept.of_below HDZ.out (fun _ => False) |>.mono (fun j hj => .inl hj.elim)).trans hk6
      have hz6 := HZN.out.kept hk6 HZK.out
      refine hK.out _ _ ((HKEEP.out _ hkX)) (fun hHeld => ?_)
      clear hK K
      refine tkq 10 (some 142) (v := ?_) rfl (Or.inl ⟨by rfl, ?_⟩) (by assumption) ?_
      rotate_left
      · intro w hSw; (try dsimp only at hSw); go_simp; first | done | (with_reducible rfl)
      simp only [Act.put, List.setIfInBounds_toArray, List.set_cons_zero, List.set_cons_succ]
      refine tkq 11 (some 153) (v := ?_) rfl (Or.inl ⟨by rfl, ?_⟩) (by assumption) ?_
      rotate_left
      · intro w hSw; (try dsimp only at hSw); go_simp; first | done | (with_reducible rfl)
      simp only [Act.put, List.setIfInBounds_toArray, List.set_cons_zero, List.set_cons_succ]
      refine tkq 12 (some 154) (v := ?_) rfl (Or.inl ⟨by rfl, ?_⟩) (by assumption) ?_
      rotate_left
      · intro w hSw; (try dsimp only at hSw); go_simp; first | done | (with_reducible rfl)
      simp only [Act.put, List.setIfInBounds_toArray, List.set_cons_zero, List.set_cons_succ]
      refine wpAnyH_ready (rs := [14]) (by kernel_rfl) (by simp) ?_
      refine AllReadyH.cons rfl (fun K hK => ?_) AllReadyH.nil
      refine step_st_any (by rfl) (X.heap.size) 31 [.int .u64 0, .int .i64 0, .int .i64 0, .bool false, .slice none 0 0] (pkC r6) (by rfl) (by rfl) hz6 rfl pk_size (by rfl) ?_
      intro w8 hAn hkn
      have hk8 := hkX.trans' hkn (fun j hj => .inr (by rw [hj]; exact Nat.le_refl _))
      refine hK.out _ _ ((HKEEP.out _ hk8)) (fun hHeld => ?_)
      clear hK K
      refine tkq 15 (some 16) (v := ?_) rfl (Or.inl ⟨by rfl, ?_⟩) (by assumption) ?_
      rotate_left
      · intro w hSw; (try dsimp only at hSw); go_simp; first | done | (with_reducible rfl)
      simp only [Act.put, List.setIfInBounds_toArray, List.set_cons_zero, List.set_cons_succ]
      refine wpAnyH_done (by kernel_rfl) ?_ _
      go_wp2_with fail
      go_meet
      exact ⟨_, ok6, r6, v6, l6, rfl, rfl, Lib.hid ⟨(hl6.kept hkn (fun e => HZK.out (.inl e.symm)) (fun j hj e => HZK.out (.inr (by rw [← hv6, hj, e]))) (NoFr.of_type fun j hj => by subst hj; exact ⟨_, _, hz6, by decide⟩)), hk8, hv6, hx6, hAn, Nat.le_refl _⟩⟩
  case rest =>
    obtain ⟨g15, ok, r, v1', l1', rfl, rfl, hall⟩ := hcut
    have hrv := HX.out.rvKept hall.out.2.1
    have b5 := (HKEEP.out wc hall.out.2.1).1
    have qc1 := hrv.at_.cell 1
    have HRV := Lib.hid hrv
    clear hrv hd0 a5 q1 HDZ HT0 HT1 HZN HZK
    have hd0 : Below wc.heap.size wc wc.drew := ⟨rfl, rfl, rfl, Nat.le_refl _, fun _ _ => rfl⟩
    have HDZ := Lib.hid (hd0.alloc (Nat.le_refl _) (.cells #[.int .u64 0, .int .i64 0, .int .i64 0, .bool false, .slice none 0 0] 31))
    have hgk2 : Gk nx ak (l2.map PK.core) := by rw [← HX.out.core]; exact HX.out.gk
    have HT0 := Lib.hid (rtakeU (HRV.out.below hd0) F hgk2)
    have HT1 := Lib.hid (rtakeU (HRV.out.below HDZ.out) F hgk2)
    have HAC := Lib.hid (HA.out.kept hall.out.2.1 HGAP.out)
    have hgaq : ¬ ga = q := fun e => by
      have h9 := HRV.out.at_
      rw [← e] at h9
      exact absurd (h9.type_eq HAC.out) (by decide)
    have HKEEP2 : Hid (∀ W : World, Kept (fun j => j = q) wc W → W.cell? ⟨ga, 5, none⟩ = some (.int .u64 from_)) := Lib.hid (fun W k => (HAC.out.kept k hgaq).cell 5)
    have HZN := Lib.hid (At.new wc.drew 31 [.int .u64 0, .int .i64 0, .int .i64 0, .bool false, .slice none 0 0])
    have HZK := Lib.hid (show ¬ wc.drew.heap.size = q from fun hh => by
      have h8 : wc.drew.heap.size = wc.heap.size := rfl
      have h9 := HRV.out.at_.lt; omega)
    clear hgk2
    go_upto_region 25 with fail
    go_cut [17, 18] from 155 to 167 (fun s17 s18 wx => ∃ (g17 : Nat) (ok2 : Bool) (r2 : PK) (v2' : Value) (l2' : PL), s17 = .pointer (some ⟨g17, 0, none⟩) ∧ s18 = .bool ok2 ∧ Hid (RV wx B q nx ak hd v2' l2' ∧ Kept (fun j => j = q) wc wx ∧ (∀ j, v2'.ownBlock = some j → v2.ownBlock = some j ∨ wc.heap.size ≤ j) ∧ TakeR (l2.map PK.core) F r2.core ok2 (l2'.map PK.core) ∧ At wx g17 31 (pkC r2) ∧ wc.heap.size ≤ g17))
    case first =>
      go_wp2_with fail
      have hzs : wc.drew.heap.size = wc.heap.size := rfl
      obtain ⟨Y, hY⟩ : ∃ x, wc.drew = x := ⟨_, rfl⟩
      rw [hY] at hd0 HDZ HT0 HT1 HZN HZK hzs
      rw [hzs] at HZN HZK
      refine wp_region_held_drew (S := (fun W => W.cell? ⟨ga, 5, none⟩ = some (.int .u64 from_) ∧ W.cell? ⟨q, 1, none⟩ = some (.int .u64 nx))) (by kernel_rfl) (⟨b5, qc1⟩) (fun hHeld => ?_)
      rw [hY] at hHeld ⊢
      clear hY
      refine tkq 0 (some 156) (v := ?_) rfl (Or.inl ⟨by rfl, ?_⟩) (by assumption) ?_
      rotate_left
      · intro w hSw; (try dsimp only at hSw); go_simp; first | done | (with_reducible rfl)
      simp only [Act.put, List.setIfInBounds_toArray, List.set_cons_zero, List.set_cons_succ]
      refine tkq 1 (some 157) (v := ?_) rfl (Or.inl ⟨by rfl, ?_⟩) (by assumption) ?_
      rotate_left
      · intro w hSw; (try dsimp only at hSw); go_simp; first | done | (with_reducible rfl)
      simp only [Act.put, List.setIfInBounds_toArray, List.set_cons_zero, List.set_cons_succ]
      refine tkq 2 (some 158) (v := ?_) rfl (Or.inl ⟨by rfl, ?_⟩) (by assumption) ?_
      rotate_left
      · intro w hSw; (try dsimp only at hSw); go_simp; first | done | (with_reducible rfl)
      simp only [Act.put, List.setIfInBounds_toArray, List.set_cons_zero, List.set_cons_succ]
      refine tkq 3 (some 159) (v := ?_) rfl (Or.inl ⟨by rfl, ?_⟩) (by assumption) ?_
      rotate_left
      · intro w hSw; (try dsimp only at hSw); go_simp; first | done | (with_reducible rfl)
      simp only [Act.put, List.setIfInBounds_toArray, List.set_cons_zero, List.set_cons_succ]
      refine tkq 4 (some 160) (v := ?_) rfl (Or.inl ⟨by rfl, ?_⟩) (by assumption) ?_
      rotate_left
      · intro w hSw; (try dsimp only at hSw); go_simp; first | done | (with_reducible rfl)
      simp only [Act.put, List.setIfInBounds_toArray, List.set_cons_zero, List.set_cons_succ]
      refine tkq 5 (some 161) (v := ?_) rfl (Or.inl ⟨by rfl, ?_⟩) (by assumption) ?_
      rotate_left
      · intro w hSw; (try dsimp only at hSw); go_simp; first | done | (with_reducible rfl)
      simp only [Act.put, List.setIfInBounds_toArray, List.set_cons_zero, List.set_cons_succ]
      refine tkq 6 (some 162) (v := ?_) rfl (Or.inl ⟨by rfl, ?_⟩) (by assumption) ?_
      rotate_left
      · intro w hSw; (try dsimp only at hSw); go_simp; first | done | (with_reducible rfl)
      simp only [Act.put, List.setIfInBounds_toArray, List.set_cons_zero, List.set_cons_succ]
      refine tkq 7 (some 163) (v := ?_) rfl (Or.inl ⟨by rfl, ?_⟩) (by assumption) ?_
      rotate_left
      · intro w hSw; (try dsimp only at hSw); go_simp; first | done | (with_reducible rfl)
      simp only [Act.put, List.setIfInBounds_toArray, List.set_cons_zero, List.set_cons_succ]
      refine tkq 8 (some 164) (v := ?_) rfl (Or.inl ⟨by rfl, ?_⟩) (by assumption) ?_
      rotate_left
      · intro w hSw; (try dsimp only at hSw); go_simp; first | done | (with_reducible rfl)
      simp only [Act.put, List.setIfInBounds_toArray, List.set_cons_zero, List.set_cons_succ]
      refine wpAnyH_ready (rs := [9, 13]) (by kernel_rfl) (by simp) ?_
      refine AllReadyH.cons rfl (fun K hK => ?_) (AllReadyH.cons rfl (fun K hK => ?_) (AllReadyH.nil))
      · go_simp
        go_wp2_with (go_at_call 22; (with_reducible refine HT0.out.mono ?_); rintro e w6 ⟨r6, ok6, v6, l6, rfl, hl6, hk6, hv6, hx6⟩)
        have hkX := (Kept.of_below hd0 (fun _ => False) |>.mono (S' := fun j => j = q) (fun j hj => .inl hj.elim)).trans hk6
        refine hK.out _ _ (⟨HKEEP2.out _ hkX, hl6.at_.cell 1⟩) (fun hHeld => ?_)
        clear hK K
        refine tkq 10 (some 155) (v := ?_) rfl (Or.inl ⟨by rfl, ?_⟩) (by assumption) ?_
        rotate_left
        · intro w hSw; (try dsimp only at hSw); go_simp; first | done | (with_reducible rfl)
        simp only [Act.put, List.setIfInBounds_toArray, List.set_cons_zero, List.set_cons_succ]
        refine tkq 11 (some 166) (v := ?_) rfl (Or.inl ⟨by rfl, ?_⟩) (by assumption) ?_
        rotate_left
        · intro w hSw; (try dsimp only at hSw); go_simp; first | done | (with_reducible rfl)
        simp only [Act.put, List.setIfInBounds_toArray, List.set_cons_zero, List.set_cons_succ]
        refine tkq 12 (some 167) (v := ?_) rfl (Or.inl ⟨by rfl, ?_⟩) (by assumption) ?_
        rotate_left
        · intro w hSw; (try dsimp only at hSw); go_simp; first | done | (with_reducible rfl)
        simp only [Act.put, List.setIfInBounds_toArray, List.set_cons_zero, List.set_cons_succ]
        refine wpAnyH_ready (rs := [13]) (by kernel_rfl) (by simp) ?_
        refine AllReadyH.cons rfl (fun K hK => ?_) AllReadyH.nil
        go_simp
        go_wp2_with (fail)
        refine hK.out _ _ (⟨HKEEP2.out _ (hkX.alloc _), (hl6.at_.alloc _).cell 1⟩) (fun hHeld => ?_)
        clear hK K
        refine wpAnyH_ready (rs := [14]) (by kernel_rfl) (by simp) ?_
        refine AllReadyH.cons rfl (fun K hK => ?_) AllReadyH.nil
        refine step_st_any (by rfl) (w6.heap.size) 31 [.int .u64 0, .int .i64 0, .int .i64 0, .bool false, .slice none 0 0] (pkC r6) (by rfl) (by rfl) (At.new w6 31 [.int .u64 0, .int .i64 0, .int .i64 0, .bool false, .slice none 0 0]) rfl pk_size (by rfl) ?_
        intro w8 hAn hkn
        have hk8 := (hkX.alloc (.cells #[.int .u64 0, .int .i64 0, .int .i64 0, .bool false, .slice none 0 0] 31)).trans' hkn (fun j hj => .inr (by rw [hj]; exact hkX.size))
        refine hK.out _ _ (⟨HKEEP2.out _ hk8, ((hl6.at_.alloc (.cells #[.int .u64 0, .int .i64 0, .int .i64 0, .bool false, .slice none 0 0] 31)).kept hkn (by have := hl6.at_.lt; omega)).cell 1⟩) (fun hHeld => ?_)
        clear hK K
        refine tkq 15 (some 18) (v := ?_) rfl (Or.inl ⟨by rfl, ?_⟩) (by assumption) ?_
        rotate_left
        · intro w hSw; (try dsimp only at hSw); go_simp; first | done | (with_reducible rfl)
        simp only [Act.put, List.setIfInBounds_toArray, List.set_cons_zero, List.set_cons_succ]
        refine wpAnyH_done (by kernel_rfl) ?_ _
        go_wp2_with fail
        go_meet
        exact ⟨_, ok6, r6, v6, l6, rfl, rfl, Lib.hid ⟨((hl6.below ((Below.refl w6.heap.size w6).alloc (Nat.le_refl _) (.cells #[.int .u64 0, .int .i64 0, .int .i64 0, .bool false, .slice none 0 0] 31))).kept hkn (by have := hl6.at_.lt; omega) (fun j hj e => by have := (ownG_lt hl6.own j hj).2; omega)), hk8, fun j hj => (hv6 j hj).imp id (fun h => Nat.le_trans hd0.size h), hx6, hAn, hkX.size⟩⟩
      · go_simp
        go_wp2_with (fail)
        refine hK.out _ _ (⟨HKEEP2.out _ (Kept.of_below HDZ.out _), (HRV.out.below HDZ.out).at_.cell 1⟩) (fun hHeld => ?_)
        clear hK K
        refine wpAnyH_ready (rs := [9]) (by kernel_rfl) (by simp) ?_
        refine AllReadyH.cons rfl (fun K hK => ?_) AllReadyH.nil
        go_simp
        go_wp2_with (go_at_call 22; (with_reducible refine HT1.out.mono ?_); rintro e w6 ⟨r6, ok6, v6, l6, rfl, hl6, hk6, hv6, hx6⟩)
        have hkX := (Kept.of_below HDZ.out (fun _ => False) |>.mono (S' := fun j => j = q) (fun j hj => .inl hj.elim)).trans hk6
        have hz6 := HZN.out.kept hk6 HZK.out
        refine hK.out _ _ (⟨HKEEP2.out _ hkX, hl6.at_.cell 1⟩) (fun hHeld => ?_)
        clear hK K
        refine tkq 10 (some 155) (v := ?_) rfl (Or.inl ⟨by rfl, ?_⟩) (by assumption) ?_
        rotate_left
        · intro w hSw; (try dsimp only at hSw); go_simp; first | done | (with_reducible rfl)
        simp only [Act.put, List.setIfInBounds_toArray, List.set_cons_zero, List.set_cons_succ]
        refine tkq 11 (some 166) (v := ?_) rfl (Or.inl ⟨by rfl, ?_⟩) (by assumption) ?_
        rotate_left
        · intro w hSw; (try dsimp only at hSw); go_simp; first | done | (with_reducible rfl)
        simp only [Act.put, List.setIfInBounds_toArray, List.set_cons_zero, List.set_cons_succ]
        refine tkq 12 (some 167) (v := ?_) rfl (Or.inl ⟨by rfl, ?_⟩) (by assumption) ?_
        rotate_left
        · intro w hSw; (try dsimp only at hSw); go_simp; first | done | (with_reducible rfl)
        simp only [Act.put, List.setIfInBounds_toArray, List.set_cons_zero, List.set_cons_succ]
        refine wpAnyH_ready (rs := [14]) (by kernel_rfl) (by simp) ?_
        refine AllReadyH.cons rfl (fun K hK => ?_) AllReadyH.nil
        refine step_st_any (by rfl) (wc.heap.size) 31 [.int .u64 0, .int .i64 0, .int .i64 0, .bool false, .slice none 0 0] (pkC r6) (by rfl) (by rfl) hz6 rfl pk_size (by rfl) ?_
        intro w8 hAn hkn
        have hk8 := hkX.trans' hkn (fun j hj => .inr (by rw [hj]; exact Nat.le_refl _))
        refine hK.out _ _ (⟨HKEEP2.out _ hk8, (hl6.at_.kept hkn (fun e => HZK.out e.symm)).cell 1⟩) (fun hHeld => ?_)
        clear hK K
        refine tkq 15 (some 18) (v := ?_) rfl (Or.inl ⟨by rfl, ?_⟩) (by assumption) ?_
        rotate_left
        · intro w hSw; (try dsimp only at hSw); go_simp; first | done | (with_reducible rfl)
        simp only [Act.put, List.setIfInBounds_toArray, List.set_cons_zero, List.set_cons_succ]
        refine wpAnyH_done (by kernel_rfl) ?_ _
        go_wp2_with fail
        go_meet
        exact ⟨_, ok6, r6, v6, l6, rfl, rfl, Lib.hid ⟨(hl6.kept hkn (fun e => HZK.out e.symm) (fun j hj e => (hv6 j hj).elim (fun h => by have := (ownG_lt HRV.out.own j h).2; omega) (fun h => by have h2 : (Y.alloc (.cells #[.int .u64 0, .int .i64 0, .int .i64 0, .bool false, .slice none 0 0] 31)).heap.size = Y.heap.size + 1 := (by simp); omega))), hk8, fun j hj => (hv6 j hj).imp id (fun h => Nat.le_trans HDZ.out.size h), hx6, hAn, Nat.le_refl _⟩⟩
    case rest =>
      obtain ⟨g17, ok2, r2, v2', l2', rfl, rfl, hall2⟩ := hcut
      obtain ⟨hrc, rfl, hcc⟩ := TakeR.one HX.out.gk.rise hall.out.2.2.2.1 (by rw [HX.out.core]; exact hall2.out.2.2.2.1)
      have hg15 : ¬ g15 = q := fun e => by
        have h9 := HRV.out.at_
        have h8 := hall.out.2.2.2.2.1
        rw [e] at h8
        exact absurd (h8.type_eq h9) (by decide)
      have hX15 := hall.out.2.2.2.2.1.kept hall2.out.2.1 hg15
      have hsx : Sx w0 wc B p q nx ak hd v1' v2' l1' l2' := by
        have hb1 := HX.out.blKept hall.out.2.1
        have hz1 : B ≤ _ := Nat.le_trans HX.out.sz hall.out.2.1.size
        refine ⟨hall.out.1.kept hall2.out.2.1 HX.out.pq (fun j hj e => HX.out.v1q j (by rw [← hall.out.2.2.1]; exact hj) e) (NoFr.of_type fun j hj => by subst hj; exact ⟨_, _, HRV.out.at_, by decide⟩), hall2.out.1, hcc, hall.out.2.2.2.1.gk HX.out.gk, fun j hj hj2 => ?_, hall2.out.2.1.below hb1 hz1 (fun j hj => by rw [hj]; exact HX.out.rv.bq), Nat.le_trans hz1 hall2.out.2.1.size, (HX.out.kp.step hall.out.2.1 (fun g hg => hg.elim .inl (fun e => .inr (.inr (.inl e)))) (fun j hj => .inl (by rw [← hall.out.2.2.1]; exact hj)) (fun j hj => .inl hj)).step hall2.out.2.1 (fun g hg => .inr (.inl hg)) (fun j hj => .inl hj) (fun j hj => (hall2.out.2.2.1 j hj))⟩
        rw [hall.out.2.2.1] at hj
        rcases hall2.out.2.2.1 j hj2 with h6 | h6
        · exact HX.out.off j hj h6
        · have h5 := (ownG_lt HX.out.lv.own j hj).2
          have h4 := hall.out.2.1.size
          omega
      have HSX := Lib.hid hsx
      have hX17 := hall2.out.2.2.2.2.1
      obtain ⟨n1, t1, s1, b1, A1, k1, c1⟩ := r
      obtain ⟨n2, t2, s2, b2, A2, k2, c2⟩ := r2
      obtain rfl : n1 = n2 := congrArg PC.n hrc
      obtain rfl : t1 = t2 := congrArg PC.t hrc
      obtain rfl : s1 = s2 := congrArg PC.s hrc
      obtain rfl : b1 = b2 := congrArg PC.a hrc
      obtain rfl : k1 = k2 := congrArg PC.k hrc
      have y0 : wc.cell? ⟨g15, 0, none⟩ = some (.int .u64 n1) := hX15.cell 0
      have y1 : wc.cell? ⟨g15, 1, none⟩ = some (.int .i64 t1) := hX15.cell 1
      have y2 : wc.cell? ⟨g15, 2, none⟩ = some (.int .i64 s1) := hX15.cell 2
      have y3 : wc.cell? ⟨g15, 3, none⟩ = some (.bool b1) := hX15.cell 3
      have y4 : wc.cell? ⟨g15, 4, none⟩ = some (.slice A1 k1 c1) := hX15.cell 4
      have z0 : wc.cell? ⟨g17, 0, none⟩ = some (.int .u64 n1) := hX17.cell 0
      have z1 : wc.cell? ⟨g17, 1, none⟩ = some (.int .i64 t1) := hX17.cell 1
      have z2 : wc.cell? ⟨g17, 2, none⟩ = some (.int .i64 s1) := hX17.cell 2
      have z3 : wc.cell? ⟨g17, 3, none⟩ = some (.bool b1) := hX17.cell 3
      have z4 : wc.cell? ⟨g17, 4, none⟩ = some (.slice A2 k1 c2) := hX17.cell 4
      have hg15l := hX15.lt
      have hg17l := hX17.lt
      have hP : ∀ (w9 : World), InP ((w9.alloc (.cells #[.int .u64 n1, .int .i64 t1, .int .i64 s1, .bool b1, .slice A1 k1 c1] 31)).alloc (.cells #[.int .u64 n1, .int .i64 t1, .int .i64 s1, .bool b1, .slice A2 k1 c2] 31)) (some ⟨w9.heap.size, 0, none⟩) 1 [⟨n1, t1, s1, b1, A1, k1, c1⟩] ∧ InP ((w9.alloc (.cells #[.int .u64 n1, .int .i64 t1, .int .i64 s1, .bool b1, .slice A1 k1 c1] 31)).alloc (.cells #[.int .u64 n1, .int .i64 t1, .int .i64 s1, .bool b1, .slice A2 k1 c2] 31)) (some ⟨w9.heap.size + 1, 0, none⟩) 1 [⟨n1, t1, s1, b1, A2, k1, c2⟩] := fun w9 =>
        ⟨inP_one ((At.new w9 31 (pkC ⟨n1, t1, s1, b1, A1, k1, c1⟩)).alloc _), inP_one (At.new_ (w := w9.alloc _) 31 (pkC ⟨n1, t1, s1, b1, A2, k1, c2⟩) (w9.heap.size + 1) (by simp))⟩
      have HPK := Lib.hid (packets_any (some ⟨wc.heap.size, 0, none⟩) (some ⟨wc.heap.size + 1, 0, none⟩) 1 1 1 _ _ _ (hP wc).1 (hP wc).2 rfl (by omega))
      have hba : Below wc.heap.size wc ((wc.alloc (.cells #[.int .u64 n1, .int .i64 t1, .int .i64 s1, .bool b1, .slice A1 k1 c1] 31)).alloc (.cells #[.int .u64 n1, .int .i64 t1, .int .i64 s1, .bool b1, .slice A2 k1 c2] 31)) := ((Below.refl _ _).alloc (Nat.le_refl _) _).alloc (by simp) _
      have HSY := Lib.hid (HSX.out.below hba)
      clear hX15 hX17 hsx hrc hcc hg15 hP hba
      go_wp2_with fail
      (with_reducible refine HPK.out.mono ?_)
      rintro e w9 ⟨rfl, hb9⟩
      have HS9 := Lib.hid (HSY.out.below hb9)
      clear hb9 HPK
      go_wp2_with fail
      refine HS9.out.same.mono ?_
      rintro e w10 ⟨rfl, hst⟩
      have HST := Lib.hid hst
      clear hst
      go_wp2
      go_ret
      exact ⟨rfl, HST.out⟩
end
end Go.Proofs.Ytpihgikcgkipaaa
