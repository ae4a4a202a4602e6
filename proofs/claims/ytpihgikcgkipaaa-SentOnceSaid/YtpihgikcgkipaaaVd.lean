/-
  The law's calls: Ack of ranges that are made up.
-/
import Derived.Test.YtpihgikcgkipaaaUj
import Derived.Test.YtpihgikcgkipaaaUx
import Derived.Deep.CutRange
namespace Go.Proofs.Ytpihgikcgkipaaa
set_option linter.unusedVariables false
set_option linter.unusedSimpArgs false
open Go.RowKit
section
variable {w0 : GW} {w : World} {B p q : Nat} {nx ak : Int} {hd : Bool} {v1 v2 : Value} {l1 l2 : PL}
set_option maxRecDepth 100000 in
set_option maxHeartbeats 16000000 in
theorem do_ack5 (h : Sx w0 w B p q nx ak hd v1 v2 l1 l2) (x : AX) (xs : List Int) (hu : UnP w x.ro.A x.ro.n xs) (huc : x.ro.n ≤ x.ro.c ∧ x.ro.c ≤ maxLen) (hf : 0 ≤ x.from_ ∧ x.from_ < 18446744073709551616) :
    Calls Try.prog 8 #[.pointer (some ⟨p, 0, none⟩), .pointer (some ⟨q, 0, none⟩), .agg (axL 5 x).toArray] w fun e w' => e = .returned (.bool true) ∧ St w0 w' B p q := by
  obtain ⟨skip, size, asks, time, from_, ⟨roA, ron, roc⟩, ⟨pn, pt, ps, pa, pA, pk, pc⟩, ⟨rA, rn, rc⟩⟩ := x
  simp only at hu huc hf
  have hax : Below w.heap.size w (w.alloc (.cells #[.int .i64 5, .int .i64 skip, .int .i64 size, .bool asks, .int .i64 time, .int .u64 from_, .slice roA ron roc, .int .u64 pn, .int .i64 pt, .int .i64 ps, .bool pa, .slice pA pk pc, .slice rA rn rc] 36)) := (Below.refl _ _).alloc (Nat.le_refl _) _
  have hA := At.new w 36 [.int .i64 5, .int .i64 skip, .int .i64 size, .bool asks, .int .i64 time, .int .u64 from_, .slice roA ron roc, .int .u64 pn, .int .i64 pt, .int .i64 ps, .bool pa, .slice pA pk pc, .slice rA rn rc]
  have HX := Lib.hid (h.below hax)
  have HU := Lib.hid (hu.below hax)
  have hql : q < (w.alloc (.cells #[.int .i64 5, .int .i64 skip, .int .i64 size, .bool asks, .int .i64 time, .int .u64 from_, .slice roA ron roc, .int .u64 pn, .int .i64 pt, .int .i64 ps, .bool pa, .slice pA pk pc, .slice rA rn rc] 36)).heap.size := (h.below hax).rv.at_.lt
  have hpl : p < (w.alloc (.cells #[.int .i64 5, .int .i64 skip, .int .i64 size, .bool asks, .int .i64 time, .int .u64 from_, .slice roA ron roc, .int .u64 pn, .int .i64 pt, .int .i64 ps, .bool pa, .slice pA pk pc, .slice rA rn rc] 36)).heap.size := (h.below hax).lv.at_.lt
  have hnx := h.gk.nx0
  clear h hax hu
  rw [show Value.agg (axL 5 ⟨skip, size, asks, time, from_, ⟨roA, ron, roc⟩, ⟨pn, pt, ps, pa, pA, pk, pc⟩, ⟨rA, rn, rc⟩⟩).toArray = .agg #[.int .i64 5, .int .i64 skip, .int .i64 size, .bool asks, .int .i64 time, .int .u64 from_, .slice roA ron roc, .int .u64 pn, .int .i64 pt, .int .i64 ps, .bool pa, .slice pA pk pc, .slice rA rn rc] from rfl]
  go_enter Try.func8, Try.ntmps8
  go_wp2
  generalize World.alloc w _ = X at *
  obtain ⟨ga, hga⟩ : ∃ g, w.heap.size = g := ⟨_, rfl⟩
  rw [hga] at hA ⊢
  have HA := Lib.hid hA
  have hgl := hA.lt
  have a5 := hA.cell 5
  have a6 := hA.cell 6
  have q1 := HX.out.rv.at_.cell 1
  clear hga hA
  have hw2 : IntKind.u64.wrap (nx + 2) = nx + 2 := by rw [IntKind.wrap_u64]; omega
  have hnz : ¬ nx + 2 = 0 := by omega
  have hm1 : 0 ≤ from_.tmod (nx + 2) := Int.tmod_nonneg _ hf.1
  have hm2 : from_.tmod (nx + 2) < nx + 2 := Int.tmod_lt_of_pos _ (by omega)
  obtain ⟨F, hF⟩ : ∃ F, from_.tmod (nx + 2) = F := ⟨_, rfl⟩
  rw [hF] at hm1 hm2
  have hd0 : Below X.heap.size X X.drew := ⟨rfl, rfl, rfl, Nat.le_refl _, fun _ _ => rfl⟩
  have hXd : X.drew.heap.size = X.heap.size := rfl
  have HKR := Lib.hid (kranges11_any roA ron roc xs F X.drew (HU.out.below hd0) huc.1 huc.2 hm1 (by omega))
  refine wp_region_held_drew (S := (fun W => W.cell? ⟨ga, 5, none⟩ = some (.int .u64 from_) ∧ W.cell? ⟨ga, 6, none⟩ = some (.slice roA ron roc) ∧ W.cell? ⟨q, 1, none⟩ = some (.int .u64 nx))) (by kernel_rfl) (⟨a5, a6, q1⟩) (fun hHeld => ?_)
  refine tkq 0 (some 57) (v := ?_) rfl (Or.inl ⟨by rfl, ?_⟩) (by assumption) ?_
  rotate_left
  · intro w hSw; (try dsimp only at hSw); go_simp; first | done | (with_reducible rfl)
  simp only [Act.put, List.setIfInBounds_toArray, List.set_cons_zero, List.set_cons_succ]
  refine tkq 1 (some 58) (v := ?_) rfl (Or.inl ⟨by rfl, ?_⟩) (by assumption) ?_
  rotate_left
  · intro w hSw; (try dsimp only at hSw); go_simp; first | done | (with_reducible rfl)
  simp only [Act.put, List.setIfInBounds_toArray, List.set_cons_zero, List.set_cons_succ]
  refine tkq 2 (some 59) (v := ?_) rfl (Or.inl ⟨by rfl, ?_⟩) (by assumption) ?_
  rotate_left
  · intro w hSw; (try dsimp only at hSw); go_simp; first | done | (with_reducible rfl)
  simp only [Act.put, List.setIfInBounds_toArray, List.set_cons_zero, List.set_cons_succ]
  refine tkq 3 (some 60) (v := ?_) rfl (Or.inl ⟨by rfl, ?_⟩) (by assumption) ?_
  rotate_left
  · intro w hSw; (try dsimp only at hSw); go_simp; first | done | (with_reducible rfl)
  simp only [Act.put, List.setIfInBounds_toArray, List.set_cons_zero, List.set_cons_succ]
  refine tkq 4 (some 61) (v := ?_) rfl (Or.inl ⟨by rfl, ?_⟩) (by assumption) ?_
  rotate_left
  · intro w hSw; (try dsimp only at hSw); go_simp; first | done | (with_reducible rfl)
  simp only [Act.put, List.setIfInBounds_toArray, List.set_cons_zero, List.set_cons_succ]
  refine tkq 5 (some 62) (v := ?_) rfl (Or.inl ⟨by rfl, ?_⟩) (by assumption) ?_
  rotate_left
  · intro w hSw; (try dsimp only at hSw); go_simp; first | done | (with_reducible rfl)
  simp only [Act.put, List.setIfInBounds_toArray, List.set_cons_zero, List.set_cons_succ]
  refine tkq 6 (some 63) (v := ?_) rfl (Or.inl ⟨by rfl, ?_⟩) (by assumption) ?_
  rotate_left
  · intro w hSw; (try dsimp only at hSw); go_simp; first | done | (with_reducible rfl)
  simp only [Act.put, List.setIfInBounds_toArray, List.set_cons_zero, List.set_cons_succ]
  refine tkq 7 (some 64) (v := ?_) rfl (Or.inl ⟨by rfl, ?_⟩) (by assumption) ?_
  rotate_left
  · intro w hSw; (try dsimp only at hSw); go_simp; first | done | (with_reducible rfl)
  simp only [Act.put, List.setIfInBounds_toArray, List.set_cons_zero, List.set_cons_succ]
  refine tkq 8 (some 65) (v := ?_) rfl (Or.inl ⟨by rfl, ?_⟩) (by assumption) ?_
  rotate_left
  · intro w hSw; (try dsimp only at hSw); go_simp; first | done | (with_reducible rfl)
  simp only [Act.put, List.setIfInBounds_toArray, List.set_cons_zero, List.set_cons_succ]
  refine tkq 9 (some 66) (v := ?_) rfl (Or.inl ⟨by rfl, ?_⟩) (by assumption) ?_
  rotate_left
  · intro w hSw; (try dsimp only at hSw); go_simp; first | done | (with_reducible rfl)
  simp only [Act.put, List.setIfInBounds_toArray, List.set_cons_zero, List.set_cons_succ]
  refine wpAnyH_ready (rs := [10]) (by kernel_rfl) (by simp) ?_
  refine AllReadyH.cons rfl (fun K hK => ?_) AllReadyH.nil
  go_simp
  go_wp2_with (go_at_call 11; (with_reducible refine HKR.out.mono ?_); rintro e w6 ⟨v6, rs6, rfl, ho6, hl6, hb6⟩)
  refine hK.out _ _ (⟨(hb6.cell (p := ⟨ga, 5, none⟩) hgl).trans a5, (hb6.cell (p := ⟨ga, 6, none⟩) hgl).trans a6, (hb6.cell (p := ⟨q, 1, none⟩) hql).trans q1⟩) (fun hHeld => ?_)
  clear hK K
  refine tkq 11 (some 7) (v := ?_) rfl (Or.inl ⟨by rfl, ?_⟩) (by assumption) ?_
  rotate_left
  · intro w hSw; (try dsimp only at hSw); go_simp; first | done | (with_reducible rfl)
  simp only [Act.put, List.setIfInBounds_toArray, List.set_cons_zero, List.set_cons_succ]
  refine wpAnyH_done (by kernel_rfl) ?_ _
  have hB6 := hd0.trans hb6
  have hA6 := HA.out.below hB6 hgl
  have HA6 := Lib.hid hA6
  have k0 := hA6.cell 0
  have b5 := hA6.cell 5
  have HS6 := Lib.hid (HX.out.below hB6)
  have qc1 := HS6.out.rv.at_.cell 1
  have hX6 := hb6.size
  obtain ⟨A6, c6, rfl, hnc6, hcm6, hR6⟩ := RnP.of_own ho6
  have HR6 := Lib.hid hR6
  clear hHeld hb6 ho6 hA6 hB6 a5 a6 q1 HKR hR6
  by_cases hn0 : nx = 0
  · have hn1 : ¬ 0 < nx := by omega
    have hPp : ¬ ((fun b => X.drew.heap.size ≤ b ∧ ∃ cur, At w6 b 38 cur)) p := (fun hh => by have := hh.1; omega)
    have hPq : ¬ ((fun b => X.drew.heap.size ≤ b ∧ ∃ cur, At w6 b 38 cur)) q := (fun hh => by have := hh.1; omega)
    have HSA := Lib.hid (sackU (fun b => X.drew.heap.size ≤ b ∧ ∃ cur, At w6 b 38 cur) A6 rs6.length c6 rs6 HS6.out.lv HR6.out hPp hnc6 hcm6 (by omega) HS6.out.gk)
    go_wp2_with fail
    refine HSA.out.mono ?_
    rintro e w7 ⟨vg1, vl1, e1, ak1, hd1, vr1, lr1, Lg1, Ll1, rfl, hl7, hg7, hlo7, hk7, hf7, hx7⟩
    have hr7 := HS6.out.rvKept (hk7.mono (fun j hj => .inl (.inl hj)))
    have hrn7 := HR6.out.kept hk7 (fun b hb e => hPp (by rw [← e]; exact hb))
    have HRA := Lib.hid (rackU (fun b => X.drew.heap.size ≤ b ∧ ∃ cur, At w6 b 38 cur) A6 rs6.length c6 rs6 hr7 hrn7 hPq hnc6 hcm6 (by omega) (by rw [← HS6.out.core]; exact HS6.out.gk))
    have H7 := Lib.hid (And.intro hl7 (And.intro hg7 (And.intro hlo7 (And.intro hk7 (And.intro hf7 hx7)))))
    have HQ7 := Lib.hid hr7.at_.lt
    clear hl7 hg7 hlo7 hk7 hf7 hx7 hr7 hrn7 HSA
    go_wp2_with fail
    refine HRA.out.mono ?_
    rintro e w8 ⟨vg2, vl2, e2, ak2, hd2, vr2, lr2, Lg2, Ll2, rfl, hr8, hg8, hlo8, hk8, hf8, hx8⟩
    obtain ⟨rfl, hcg, hcl, hs8⟩ := HS6.out.acks H7.out.1 H7.out.2.2.2.1 H7.out.2.2.2.2.1 H7.out.2.2.2.2.2 hr8 hk8 hf8 hx8
    have hg1 := ownG_kept H7.out.2.1 hk8 (fun j hj e => by
      obtain ⟨cur, hA⟩ := ownG_type H7.out.2.1 j hj
      rw [e] at hA
      exact absurd (hA.type_eq (HS6.out.rvKept (H7.out.2.2.2.1.mono (fun j hj => .inl (.inl hj)))).at_) (by decide))
    have hl1 := ownG_kept H7.out.2.2.1 hk8 (fun j hj e => by
      obtain ⟨cur, hA⟩ := ownG_type H7.out.2.2.1 j hj
      rw [e] at hA
      exact absurd (hA.type_eq (HS6.out.rvKept (H7.out.2.2.2.1.mono (fun j hj => .inl (.inl hj)))).at_) (by decide))
    obtain ⟨Ng, hNg⟩ : ∃ N, Lg1.length = N := ⟨_, rfl⟩
    have hNg2 : Lg2.length = Ng := by rw [← hNg, len_core, ← hcg, ← len_core]
    obtain ⟨Nl, hNl⟩ : ∃ N, Ll1.length = N := ⟨_, rfl⟩
    have hNl2 : Ll2.length = Nl := by rw [← hNl, len_core, ← hcl, ← len_core]
    have hbg : Ng ≤ 64 ∧ Nl ≤ 64 := by
      have h1 := H7.out.2.2.2.2.2.lens HS6.out.gk.len
      rw [← len_core, ← len_core, hNg, hNl] at h1
      exact h1
    obtain ⟨G1, cg1, rfl, _, _⟩ : ∃ A c, vg1 = .slice A Ng c ∧ Ng ≤ c ∧ c ≤ maxLen := by have h9 := ownG_shape hg1; rw [hNg] at h9; exact h9
    obtain ⟨G2, cg2, rfl, _, _⟩ : ∃ A c, vg2 = .slice A Ng c ∧ Ng ≤ c ∧ c ≤ maxLen := by have h9 := ownG_shape hg8; rw [hNg2] at h9; exact h9
    obtain ⟨K1, ck1, rfl, _, _⟩ : ∃ A c, vl1 = .slice A Nl c ∧ Nl ≤ c ∧ c ≤ maxLen := by have h9 := ownG_shape hl1; rw [hNl] at h9; exact h9
    obtain ⟨K2, ck2, rfl, _, _⟩ : ∃ A c, vl2 = .slice A Nl c ∧ Nl ≤ c ∧ c ≤ maxLen := by have h9 := ownG_shape hlo8; rw [hNl2] at h9; exact h9
    have HPA := Lib.hid (packets_any G1 G2 Ng cg1 cg2 Lg1 Lg2 w8 (inP_of hg1 hNg) (inP_of hg8 hNg2) hcg (by omega))
    have HPB := Lib.hid (fun W (hb : Below w8.heap.size w8 W) => packets_any K1 K2 Nl ck1 ck2 Ll1 Ll2 W ((inP_of hl1 hNl).below hb) ((inP_of hlo8 hNl2).below hb) hcl (by omega))
    have HS8 := Lib.hid hs8
    clear hr8 hg8 hlo8 hk8 hf8 hx8 hs8 hg1 hl1 hcg hcl hNg hNl hNg2 hNl2 hbg HRA H7
    go_wp2_with fail
    refine HPA.out.mono ?_
    rintro e w9 ⟨rfl, hb9⟩
    have HP9 := Lib.hid (HPB.out w9 hb9)
    have HS9 := Lib.hid (HS8.out.below hb9)
    clear hb9 HPA HPB
    go_wp2_with fail
    refine HP9.out.mono ?_
    rintro e w10 ⟨rfl, hb10⟩
    have HS10 := Lib.hid (HS9.out.below hb10)
    clear hb10 HP9
    go_wp2_with fail
    refine HS10.out.same.mono ?_
    rintro e w11 ⟨rfl, hst⟩
    have HST := Lib.hid hst
    clear hst
    go_wp2
    go_ret
    exact ⟨rfl, HST.out⟩
  · have hn1 : 0 < nx := by omega
    have g1 : 0 ≤ from_.tmod nx := Int.tmod_nonneg _ hf.1
    have g2 : from_.tmod nx < nx := Int.tmod_lt_of_pos _ hn1
    obtain ⟨G, hG⟩ : ∃ G, from_.tmod nx = G := ⟨_, rfl⟩
    rw [hG] at g1 g2
    go_upto_region 17 with fail
    clear HR6 hnc6 hcm6
    have hd6 : Below w6.heap.size w6 w6.drew := ⟨rfl, rfl, rfl, Nat.le_refl _, fun _ _ => rfl⟩
    obtain ⟨Y, hY⟩ : ∃ x, w6.drew = x := ⟨_, rfl⟩
    have hk17 : w6.drew.cell? ⟨ga, 5, none⟩ = some (.int .u64 from_) ∧ w6.drew.cell? ⟨q, 1, none⟩ = some (.int .u64 nx) := ⟨b5, qc1⟩
    rw [hY] at hd6
    refine wp_region_held_drew (S := (fun W => W.cell? ⟨ga, 5, none⟩ = some (.int .u64 from_) ∧ W.cell? ⟨q, 1, none⟩ = some (.int .u64 nx))) (by kernel_rfl) (hk17) (fun hHeld => ?_)
    rw [hY] at hHeld ⊢
    clear hY hk17
    refine tkq 0 (some 88) (v := ?_) rfl (Or.inl ⟨by rfl, ?_⟩) (by assumption) ?_
    rotate_left
    · intro w hSw; (try dsimp only at hSw); go_simp; first | done | (with_reducible rfl)
    simp only [Act.put, List.setIfInBounds_toArray, List.set_cons_zero, List.set_cons_succ]
    refine tkq 1 (some 89) (v := ?_) rfl (Or.inl ⟨by rfl, ?_⟩) (by assumption) ?_
    rotate_left
    · intro w hSw; (try dsimp only at hSw); go_simp; first | done | (with_reducible rfl)
    simp only [Act.put, List.setIfInBounds_toArray, List.set_cons_zero, List.set_cons_succ]
    refine tkq 2 (some 90) (v := ?_) rfl (Or.inl ⟨by rfl, ?_⟩) (by assumption) ?_
    rotate_left
    · intro w hSw; (try dsimp only at hSw); go_simp; first | done | (with_reducible rfl)
    simp only [Act.put, List.setIfInBounds_toArray, List.set_cons_zero, List.set_cons_succ]
    refine tkq 3 (some 91) (v := ?_) rfl (Or.inl ⟨by rfl, ?_⟩) (by assumption) ?_
    rotate_left
    · intro w hSw; (try dsimp only at hSw); go_simp; first | done | (with_reducible rfl)
    simp only [Act.put, List.setIfInBounds_toArray, List.set_cons_zero, List.set_cons_succ]
    refine tkq 4 (some 92) (v := ?_) rfl (Or.inl ⟨by rfl, ?_⟩) (by assumption) ?_
    rotate_left
    · intro w hSw; (try dsimp only at hSw); go_simp; first | done | (with_reducible rfl)
    simp only [Act.put, List.setIfInBounds_toArray, List.set_cons_zero, List.set_cons_succ]
    refine tkq 5 (some 93) (v := ?_) rfl (Or.inl ⟨by rfl, ?_⟩) (by assumption) ?_
    rotate_left
    · intro w hSw; (try dsimp only at hSw); go_simp; first | done | (with_reducible rfl)
    simp only [Act.put, List.setIfInBounds_toArray, List.set_cons_zero, List.set_cons_succ]
    refine tkq 6 (some 94) (v := ?_) rfl (Or.inl ⟨by rfl, ?_⟩) (by assumption) ?_
    rotate_left
    · intro w hSw; (try dsimp only at hSw); go_simp; first | done | (with_reducible rfl)
    simp only [Act.put, List.setIfInBounds_toArray, List.set_cons_zero, List.set_cons_succ]
    refine tkq 7 (some 8) (v := ?_) rfl (Or.inl ⟨by rfl, ?_⟩) (by assumption) ?_
    rotate_left
    · intro w hSw; (try dsimp only at hSw); go_simp; first | done | (with_reducible rfl)
    simp only [Act.put, List.setIfInBounds_toArray, List.set_cons_zero, List.set_cons_succ]
    refine wpAnyH_done (by kernel_rfl) ?_ _
    have HA7 := Lib.hid (HA6.out.below hd6 HA6.out.lt)
    have b5' := HA7.out.cell 5
    have hgl7 := HA7.out.lt
    have HS7 := Lib.hid (HS6.out.below hd6)
    have qc1' := HS7.out.rv.at_.cell 1
    have hY6 := hd6.size
    have hw3 : IntKind.u64.wrap (G + 1) = G + 1 := by rw [IntKind.wrap_u64]; omega
    have hw4 : IntKind.u64.wrap (nx - G) = nx - G := by rw [IntKind.wrap_u64]; omega
    have hnz4 : ¬ nx - G = 0 := by omega
    obtain ⟨D, hD⟩ : ∃ D, from_.tdiv 7 = D := ⟨_, rfl⟩
    have hD0 : 0 ≤ D := by rw [← hD]; exact Int.tdiv_nonneg hf.1 (by omega)
    have hD1 : D ≤ from_ := by rw [← hD]; exact Int.tdiv_le_self 7 hf.1
    have hwD : IntKind.u64.wrap D = D := by rw [IntKind.wrap_u64]; omega
    have e1 : 0 ≤ D.tmod (nx - G) := Int.tmod_nonneg _ hD0
    have e2 : D.tmod (nx - G) < nx - G := Int.tmod_lt_of_pos _ (by omega)
    obtain ⟨E, hE⟩ : ∃ E, D.tmod (nx - G) = E := ⟨_, rfl⟩
    rw [hE] at e1 e2
    have hw5 : IntKind.u64.wrap (G + 1 + E) = G + 1 + E := by rw [IntKind.wrap_u64]; omega
    go_upto_region 18 with fail
    have hd7 : Below Y.heap.size Y Y.drew := ⟨rfl, rfl, rfl, Nat.le_refl _, fun _ _ => rfl⟩
    obtain ⟨Y2, hY2⟩ : ∃ x, Y.drew = x := ⟨_, rfl⟩
    have hz2 : Y2.heap.size = Y.heap.size := by rw [← hY2]; rfl
    have hk18 : Y.drew.cell? ⟨ga, 5, none⟩ = some (.int .u64 from_) ∧ Y.drew.cell? ⟨q, 1, none⟩ = some (.int .u64 nx) := ⟨b5', qc1'⟩
    rw [hY2] at hd7
    refine wp_region_held_drew (S := (fun W => W.cell? ⟨ga, 5, none⟩ = some (.int .u64 from_) ∧ W.cell? ⟨q, 1, none⟩ = some (.int .u64 nx))) (by kernel_rfl) (hk18) (fun hHeld => ?_)
    rw [hY2] at hHeld ⊢
    clear hY2 hk18
    refine tkq 0 (some 95) (v := ?_) rfl (Or.inl ⟨by rfl, ?_⟩) (by assumption) ?_
    rotate_left
    · intro w hSw; (try dsimp only at hSw); go_simp; first | done | (with_reducible rfl)
    simp only [Act.put, List.setIfInBounds_toArray, List.set_cons_zero, List.set_cons_succ]
    refine tkq 1 (some 96) (v := ?_) rfl (Or.inl ⟨by rfl, ?_⟩) (by assumption) ?_
    rotate_left
    · intro w hSw; (try dsimp only at hSw); go_simp; first | done | (with_reducible rfl)
    simp only [Act.put, List.setIfInBounds_toArray, List.set_cons_zero, List.set_cons_succ]
    refine tkq 2 (some 97) (v := ?_) rfl (Or.inl ⟨by rfl, ?_⟩) (by assumption) ?_
    rotate_left
    · intro w hSw; (try dsimp only at hSw); go_simp; first | done | (with_reducible rfl)
    simp only [Act.put, List.setIfInBounds_toArray, List.set_cons_zero, List.set_cons_succ]
    refine tkq 3 (some 98) (v := ?_) rfl (Or.inl ⟨by rfl, ?_⟩) (by assumption) ?_
    rotate_left
    · intro w hSw; (try dsimp only at hSw); go_simp; first | done | (with_reducible rfl)
    simp only [Act.put, List.setIfInBounds_toArray, List.set_cons_zero, List.set_cons_succ]
    refine tkq 4 (some 99) (v := ?_) rfl (Or.inl ⟨by rfl, ?_⟩) (by assumption) ?_
    rotate_left
    · intro w hSw; (try dsimp only at hSw); go_simp; first | done | (with_reducible rfl)
    simp only [Act.put, List.setIfInBounds_toArray, List.set_cons_zero, List.set_cons_succ]
    refine tkq 5 (some 100) (v := ?_) rfl (Or.inl ⟨by rfl, ?_⟩) (by assumption) ?_
    rotate_left
    · intro w hSw; (try dsimp only at hSw); go_simp; first | done | (with_reducible rfl)
    simp only [Act.put, List.setIfInBounds_toArray, List.set_cons_zero, List.set_cons_succ]
    refine tkq 6 (some 101) (v := ?_) rfl (Or.inl ⟨by rfl, ?_⟩) (by assumption) ?_
    rotate_left
    · intro w hSw; (try dsimp only at hSw); go_simp; first | done | (with_reducible rfl)
    simp only [Act.put, List.setIfInBounds_toArray, List.set_cons_zero, List.set_cons_succ]
    refine tkq 7 (some 102) (v := ?_) rfl (Or.inl ⟨by rfl, ?_⟩) (by assumption) ?_
    rotate_left
    · intro w hSw; (try dsimp only at hSw); go_simp; first | done | (with_reducible rfl)
    simp only [Act.put, List.setIfInBounds_toArray, List.set_cons_zero, List.set_cons_succ]
    refine tkq 8 (some 103) (v := ?_) rfl (Or.inl ⟨by rfl, ?_⟩) (by assumption) ?_
    rotate_left
    · intro w hSw; (try dsimp only at hSw); go_simp; first | done | (with_reducible rfl)
    simp only [Act.put, List.setIfInBounds_toArray, List.set_cons_zero, List.set_cons_succ]
    refine tkq 9 (some 104) (v := ?_) rfl (Or.inl ⟨by rfl, ?_⟩) (by assumption) ?_
    rotate_left
    · intro w hSw; (try dsimp only at hSw); go_simp; first | done | (with_reducible rfl)
    simp only [Act.put, List.setIfInBounds_toArray, List.set_cons_zero, List.set_cons_succ]
    refine tkq 10 (some 105) (v := ?_) rfl (Or.inl ⟨by rfl, ?_⟩) (by assumption) ?_
    rotate_left
    · intro w hSw; (try dsimp only at hSw); go_simp; first | done | (with_reducible rfl)
    simp only [Act.put, List.setIfInBounds_toArray, List.set_cons_zero, List.set_cons_succ]
    refine tkq 11 (some 106) (v := ?_) rfl (Or.inl ⟨by rfl, ?_⟩) (by assumption) ?_
    rotate_left
    · intro w hSw; (try dsimp only at hSw); go_simp; first | done | (with_reducible rfl)
    simp only [Act.put, List.setIfInBounds_toArray, List.set_cons_zero, List.set_cons_succ]
    refine tkq 12 (some 107) (v := ?_) rfl (Or.inl ⟨by rfl, ?_⟩) (by assumption) ?_
    rotate_left
    · intro w hSw; (try dsimp only at hSw); go_simp; first | done | (with_reducible rfl)
    simp only [Act.put, List.setIfInBounds_toArray, List.set_cons_zero, List.set_cons_succ]
    refine tkq 13 (some 108) (v := ?_) rfl (Or.inl ⟨by rfl, ?_⟩) (by assumption) ?_
    rotate_left
    · intro w hSw; (try dsimp only at hSw); go_simp; first | done | (with_reducible rfl)
    simp only [Act.put, List.setIfInBounds_toArray, List.set_cons_zero, List.set_cons_succ]
    refine tkq 14 (some 109) (v := ?_) rfl (Or.inl ⟨by rfl, ?_⟩) (by assumption) ?_
    rotate_left
    · intro w hSw; (try dsimp only at hSw); go_simp; first | done | (with_reducible rfl)
    simp only [Act.put, List.setIfInBounds_toArray, List.set_cons_zero, List.set_cons_succ]
    refine wpAnyH_ready (rs := [15]) (by kernel_rfl) (by simp) ?_
    refine AllReadyH.cons rfl (fun K hK => ?_) AllReadyH.nil
    go_simp
    go_wp2_with (fail)
    refine hK.out _ _ (⟨((HA7.out.below hd7 hgl7).alloc _).cell 5, ((HS7.out.below hd7).rv.at_.alloc _).cell 1⟩) (fun hHeld => ?_)
    clear hK K
    refine tkq 16 (some 7) (v := ?_) rfl (Or.inl ⟨by rfl, ?_⟩) (by assumption) ?_
    rotate_left
    · intro w hSw; (try dsimp only at hSw); go_simp; first | done | (with_reducible rfl)
    simp only [Act.put, List.setIfInBounds_toArray, List.set_cons_zero, List.set_cons_succ]
    refine wpAnyH_done (by kernel_rfl) ?_ _
    have hba := (Below.refl Y2.heap.size Y2).alloc (Nat.le_refl _) (.cells #[.int .u64 G, .int .u64 (G + 1 + E)] 38)
    have HA9 := Lib.hid ((HA7.out.below hd7 hgl7).alloc (.cells #[.int .u64 G, .int .u64 (G + 1 + E)] 38))
    have HR6 := Lib.hid (RnP.one Y2 Y.heap.size G (G + 1 + E) hz2.symm (by omega) (by omega))
    have HS6 := Lib.hid ((HS7.out.below hd7).below hba)
    clear HS7 HA7 b5' qc1' hHeld hba
    generalize World.alloc Y2 _ = W9 at *
    have hPp : ¬ ((fun j => j = Y.heap.size)) p := (by show ¬ _ = _; omega)
    have hPq : ¬ ((fun j => j = Y.heap.size)) q := (by show ¬ _ = _; omega)
    have HSA := Lib.hid (sackU (fun j => j = Y.heap.size) (some ⟨Y.heap.size, 0, none⟩) 1 1 [(G, G + 1 + E)] HS6.out.lv HR6.out hPp (Nat.le_refl _) (by unfold maxLen; omega) (by omega) HS6.out.gk)
    go_wp2_with fail
    refine HSA.out.mono ?_
    rintro e w7 ⟨vg1, vl1, e1, ak1, hd1, vr1, lr1, Lg1, Ll1, rfl, hl7, hg7, hlo7, hk7, hf7, hx7⟩
    have hr7 := HS6.out.rvKept (hk7.mono (fun j hj => .inl (.inl hj)))
    have hrn7 := HR6.out.kept hk7 (fun b hb e => hPp (by rw [← e]; exact hb))
    have HRA := Lib.hid (rackU (fun j => j = Y.heap.size) (some ⟨Y.heap.size, 0, none⟩) 1 1 [(G, G + 1 + E)] hr7 hrn7 hPq (Nat.le_refl _) (by unfold maxLen; omega) (by omega) (by rw [← HS6.out.core]; exact HS6.out.gk))
    have H7 := Lib.hid (And.intro hl7 (And.intro hg7 (And.intro hlo7 (And.intro hk7 (And.intro hf7 hx7)))))
    have HQ7 := Lib.hid hr7.at_.lt
    clear hl7 hg7 hlo7 hk7 hf7 hx7 hr7 hrn7 HSA
    go_wp2_with fail
    refine HRA.out.mono ?_
    rintro e w8 ⟨vg2, vl2, e2, ak2, hd2, vr2, lr2, Lg2, Ll2, rfl, hr8, hg8, hlo8, hk8, hf8, hx8⟩
    obtain ⟨rfl, hcg, hcl, hs8⟩ := HS6.out.acks H7.out.1 H7.out.2.2.2.1 H7.out.2.2.2.2.1 H7.out.2.2.2.2.2 hr8 hk8 hf8 hx8
    have hg1 := ownG_kept H7.out.2.1 hk8 (fun j hj e => by
      obtain ⟨cur, hA⟩ := ownG_type H7.out.2.1 j hj
      rw [e] at hA
      exact absurd (hA.type_eq (HS6.out.rvKept (H7.out.2.2.2.1.mono (fun j hj => .inl (.inl hj)))).at_) (by decide))
    have hl1 := ownG_kept H7.out.2.2.1 hk8 (fun j hj e => by
      obtain ⟨cur, hA⟩ := ownG_type H7.out.2.2.1 j hj
      rw [e] at hA
      exact absurd (hA.type_eq (HS6.out.rvKept (H7.out.2.2.2.1.mono (fun j hj => .inl (.inl hj)))).at_) (by decide))
    obtain ⟨Ng, hNg⟩ : ∃ N, Lg1.length = N := ⟨_, rfl⟩
    have hNg2 : Lg2.length = Ng := by rw [← hNg, len_core, ← hcg, ← len_core]
    obtain ⟨Nl, hNl⟩ : ∃ N, Ll1.length = N := ⟨_, rfl⟩
    have hNl2 : Ll2.length = Nl := by rw [← hNl, len_core, ← hcl, ← len_core]
    have hbg : Ng ≤ 64 ∧ Nl ≤ 64 := by
      have h1 := H7.out.2.2.2.2.2.lens HS6.out.gk.len
      rw [← len_core, ← len_core, hNg, hNl] at h1
      exact h1
    obtain ⟨G1, cg1, rfl, _, _⟩ : ∃ A c, vg1 = .slice A Ng c ∧ Ng ≤ c ∧ c ≤ maxLen := by have h9 := ownG_shape hg1; rw [hNg] at h9; exact h9
    obtain ⟨G2, cg2, rfl, _, _⟩ : ∃ A c, vg2 = .slice A Ng c ∧ Ng ≤ c ∧ c ≤ maxLen := by have h9 := ownG_shape hg8; rw [hNg2] at h9; exact h9
    obtain ⟨K1, ck1, rfl, _, _⟩ : ∃ A c, vl1 = .slice A Nl c ∧ Nl ≤ c ∧ c ≤ maxLen := by have h9 := ownG_shape hl1; rw [hNl] at h9; exact h9
    obtain ⟨K2, ck2, rfl, _, _⟩ : ∃ A c, vl2 = .slice A Nl c ∧ Nl ≤ c ∧ c ≤ maxLen := by have h9 := ownG_shape hlo8; rw [hNl2] at h9; exact h9
    have HPA := Lib.hid (packets_any G1 G2 Ng cg1 cg2 Lg1 Lg2 w8 (inP_of hg1 hNg) (inP_of hg8 hNg2) hcg (by omega))
    have HPB := Lib.hid (fun W (hb : Below w8.heap.size w8 W) => packets_any K1 K2 Nl ck1 ck2 Ll1 Ll2 W ((inP_of hl1 hNl).below hb) ((inP_of hlo8 hNl2).below hb) hcl (by omega))
    have HS8 := Lib.hid hs8
    clear hr8 hg8 hlo8 hk8 hf8 hx8 hs8 hg1 hl1 hcg hcl hNg hNl hNg2 hNl2 hbg HRA H7
    go_wp2_with fail
    refine HPA.out.mono ?_
    rintro e w9 ⟨rfl, hb9⟩
    have HP9 := Lib.hid (HPB.out w9 hb9)
    have HS9 := Lib.hid (HS8.out.below hb9)
    clear hb9 HPA HPB
    go_wp2_with fail
    refine HP9.out.mono ?_
    rintro e w10 ⟨rfl, hb10⟩
    have HS10 := Lib.hid (HS9.out.below hb10)
    clear hb10 HP9
    go_wp2_with fail
    refine HS10.out.same.mono ?_
    rintro e w11 ⟨rfl, hst⟩
    have HST := Lib.hid hst
    clear hst
    go_wp2
    go_ret
    exact ⟨rfl, HST.out⟩
set_option maxRecDepth 100000 in
set_option maxHeartbeats 16000000 in
theorem do_ack6 (h : Sx w0 w B p q nx ak hd v1 v2 l1 l2) (x : AX) (xs : List Int) (hu : UnP w x.ro.A x.ro.n xs) (huc : x.ro.n ≤ x.ro.c ∧ x.ro.c ≤ maxLen) (hf : 0 ≤ x.from_ ∧ x.from_ < 18446744073709551616) :
    Calls Try.prog 8 #[.pointer (some ⟨p, 0, none⟩), .pointer (some ⟨q, 0, none⟩), .agg (axL 6 x).toArray] w fun e w' => e = .returned (.bool true) ∧ St w0 w' B p q := by
  obtain ⟨skip, size, asks, time, from_, ⟨roA, ron, roc⟩, ⟨pn, pt, ps, pa, pA, pk, pc⟩, ⟨rA, rn, rc⟩⟩ := x
  simp only at hu huc hf
  have hax : Below w.heap.size w (w.alloc (.cells #[.int .i64 6, .int .i64 skip, .int .i64 size, .bool asks, .int .i64 time, .int .u64 from_, .slice roA ron roc, .int .u64 pn, .int .i64 pt, .int .i64 ps, .bool pa, .slice pA pk pc, .slice rA rn rc] 36)) := (Below.refl _ _).alloc (Nat.le_refl _) _
  have hA := At.new w 36 [.int .i64 6, .int .i64 skip, .int .i64 size, .bool asks, .int .i64 time, .int .u64 from_, .slice roA ron roc, .int .u64 pn, .int .i64 pt, .int .i64 ps, .bool pa, .slice pA pk pc, .slice rA rn rc]
  have HX := Lib.hid (h.below hax)
  have HU := Lib.hid (hu.below hax)
  have hql : q < (w.alloc (.cells #[.int .i64 6, .int .i64 skip, .int .i64 size, .bool asks, .int .i64 time, .int .u64 from_, .slice roA ron roc, .int .u64 pn, .int .i64 pt, .int .i64 ps, .bool pa, .slice pA pk pc, .slice rA rn rc] 36)).heap.size := (h.below hax).rv.at_.lt
  have hpl : p < (w.alloc (.cells #[.int .i64 6, .int .i64 skip, .int .i64 size, .bool asks, .int .i64 time, .int .u64 from_, .slice roA ron roc, .int .u64 pn, .int .i64 pt, .int .i64 ps, .bool pa, .slice pA pk pc, .slice rA rn rc] 36)).heap.size := (h.below hax).lv.at_.lt
  have hnx := h.gk.nx0
  clear h hax hu
  rw [show Value.agg (axL 6 ⟨skip, size, asks, time, from_, ⟨roA, ron, roc⟩, ⟨pn, pt, ps, pa, pA, pk, pc⟩, ⟨rA, rn, rc⟩⟩).toArray = .agg #[.int .i64 6, .int .i64 skip, .int .i64 size, .bool asks, .int .i64 time, .int .u64 from_, .slice roA ron roc, .int .u64 pn, .int .i64 pt, .int .i64 ps, .bool pa, .slice pA pk pc, .slice rA rn rc] from rfl]
  go_enter Try.func8, Try.ntmps8
  go_wp2
  generalize World.alloc w _ = X at *
  obtain ⟨ga, hga⟩ : ∃ g, w.heap.size = g := ⟨_, rfl⟩
  rw [hga] at hA ⊢
  have HA := Lib.hid hA
  have hgl := hA.lt
  have a5 := hA.cell 5
  have a6 := hA.cell 6
  have q1 := HX.out.rv.at_.cell 1
  clear hga hA
  have hw2 : IntKind.u64.wrap (nx + 2) = nx + 2 := by rw [IntKind.wrap_u64]; omega
  have hnz : ¬ nx + 2 = 0 := by omega
  have hm1 : 0 ≤ from_.tmod (nx + 2) := Int.tmod_nonneg _ hf.1
  have hm2 : from_.tmod (nx + 2) < nx + 2 := Int.tmod_lt_of_pos _ (by omega)
  obtain ⟨F, hF⟩ : ∃ F, from_.tmod (nx + 2) = F := ⟨_, rfl⟩
  rw [hF] at hm1 hm2
  have hd0 : Below X.heap.size X X.drew := ⟨rfl, rfl, rfl, Nat.le_refl _, fun _ _ => rfl⟩
  have hXd : X.drew.heap.size = X.heap.size := rfl
  have HKR := Lib.hid (kranges11_any roA ron roc xs F X.drew (HU.out.below hd0) huc.1 huc.2 hm1 (by omega))
  refine wp_region_held_drew (S := (fun W => W.cell? ⟨ga, 5, none⟩ = some (.int .u64 from_) ∧ W.cell? ⟨ga, 6, none⟩ = some (.slice roA ron roc) ∧ W.cell? ⟨q, 1, none⟩ = some (.int .u64 nx))) (by kernel_rfl) (⟨a5, a6, q1⟩) (fun hHeld => ?_)
  refine tkq 0 (some 57) (v := ?_) rfl (Or.inl ⟨by rfl, ?_⟩) (by assumption) ?_
  rotate_left
  · intro w hSw; (try dsimp only at hSw); go_simp; first | done | (with_reducible rfl)
  simp only [Act.put, List.setIfInBounds_toArray, List.set_cons_zero, List.set_cons_succ]
  refine tkq 1 (some 58) (v := ?_) rfl (Or.inl ⟨by rfl, ?_⟩) (by assumption) ?_
  rotate_left
  · intro w hSw; (try dsimp only at hSw); go_simp; first | done | (with_reducible rfl)
  simp only [Act.put, List.setIfInBounds_toArray, List.set_cons_zero, List.set_cons_succ]
  refine tkq 2 (some 59) (v := ?_) rfl (Or.inl ⟨by rfl, ?_⟩) (by assumption) ?_
  rotate_left
  · intro w hSw; (try dsimp only at hSw); go_simp; first | done | (with_reducible rfl)
  simp only [Act.put, List.setIfInBounds_toArray, List.set_cons_zero, List.set_cons_succ]
  refine tkq 3 (some 60) (v := ?_) rfl (Or.inl ⟨by rfl, ?_⟩) (by assumption) ?_
  rotate_left
  · intro w hSw; (try dsimp only at hSw); go_simp; first | done | (with_reducible rfl)
  simp only [Act.put, List.setIfInBounds_toArray, List.set_cons_zero, List.set_cons_succ]
  refine tkq 4 (some 61) (v := ?_) rfl (Or.inl ⟨by rfl, ?_⟩) (by assumption) ?_
  rotate_left
  · intro w hSw; (try dsimp only at hSw); go_simp; first | done | (with_reducible rfl)
  simp only [Act.put, List.setIfInBounds_toArray, List.set_cons_zero, List.set_cons_succ]
  refine tkq 5 (some 62) (v := ?_) rfl (Or.inl ⟨by rfl, ?_⟩) (by assumption) ?_
  rotate_left
  · intro w hSw; (try dsimp only at hSw); go_simp; first | done | (with_reducible rfl)
  simp only [Act.put, List.setIfInBounds_toArray, List.set_cons_zero, List.set_cons_succ]
  refine tkq 6 (some 63) (v := ?_) rfl (Or.inl ⟨by rfl, ?_⟩) (by assumption) ?_
  rotate_left
  · intro w hSw; (try dsimp only at hSw); go_simp; first | done | (with_reducible rfl)
  simp only [Act.put, List.setIfInBounds_toArray, List.set_cons_zero, List.set_cons_succ]
  refine tkq 7 (some 64) (v := ?_) rfl (Or.inl ⟨by rfl, ?_⟩) (by assumption) ?_
  rotate_left
  · intro w hSw; (try dsimp only at hSw); go_simp; first | done | (with_reducible rfl)
  simp only [Act.put, List.setIfInBounds_toArray, List.set_cons_zero, List.set_cons_succ]
  refine tkq 8 (some 65) (v := ?_) rfl (Or.inl ⟨by rfl, ?_⟩) (by assumption) ?_
  rotate_left
  · intro w hSw; (try dsimp only at hSw); go_simp; first | done | (with_reducible rfl)
  simp only [Act.put, List.setIfInBounds_toArray, List.set_cons_zero, List.set_cons_succ]
  refine tkq 9 (some 66) (v := ?_) rfl (Or.inl ⟨by rfl, ?_⟩) (by assumption) ?_
  rotate_left
  · intro w hSw; (try dsimp only at hSw); go_simp; first | done | (with_reducible rfl)
  simp only [Act.put, List.setIfInBounds_toArray, List.set_cons_zero, List.set_cons_succ]
  refine wpAnyH_ready (rs := [10]) (by kernel_rfl) (by simp) ?_
  refine AllReadyH.cons rfl (fun K hK => ?_) AllReadyH.nil
  go_simp
  go_wp2_with (go_at_call 11; (with_reducible refine HKR.out.mono ?_); rintro e w6 ⟨v6, rs6, rfl, ho6, hl6, hb6⟩)
  refine hK.out _ _ (⟨(hb6.cell (p := ⟨ga, 5, none⟩) hgl).trans a5, (hb6.cell (p := ⟨ga, 6, none⟩) hgl).trans a6, (hb6.cell (p := ⟨q, 1, none⟩) hql).trans q1⟩) (fun hHeld => ?_)
  clear hK K
  refine tkq 11 (some 7) (v := ?_) rfl (Or.inl ⟨by rfl, ?_⟩) (by assumption) ?_
  rotate_left
  · intro w hSw; (try dsimp only at hSw); go_simp; first | done | (with_reducible rfl)
  simp only [Act.put, List.setIfInBounds_toArray, List.set_cons_zero, List.set_cons_succ]
  refine wpAnyH_done (by kernel_rfl) ?_ _
  have hB6 := hd0.trans hb6
  have hA6 := HA.out.below hB6 hgl
  have HA6 := Lib.hid hA6
  have k0 := hA6.cell 0
  have b5 := hA6.cell 5
  have HS6 := Lib.hid (HX.out.below hB6)
  have qc1 := HS6.out.rv.at_.cell 1
  have hX6 := hb6.size
  obtain ⟨A6, c6, rfl, hnc6, hcm6, hR6⟩ := RnP.of_own ho6
  have HR6 := Lib.hid hR6
  clear hHeld hb6 ho6 hA6 hB6 a5 a6 q1 HKR hR6
  have hPp : ¬ ((fun b => X.drew.heap.size ≤ b ∧ ∃ cur, At w6 b 38 cur)) p := (fun hh => by have := hh.1; omega)
  have hPq : ¬ ((fun b => X.drew.heap.size ≤ b ∧ ∃ cur, At w6 b 38 cur)) q := (fun hh => by have := hh.1; omega)
  have HSA := Lib.hid (sackU (fun b => X.drew.heap.size ≤ b ∧ ∃ cur, At w6 b 38 cur) A6 rs6.length c6 rs6 HS6.out.lv HR6.out hPp hnc6 hcm6 (by omega) HS6.out.gk)
  go_wp2_with fail
  refine HSA.out.mono ?_
  rintro e w7 ⟨vg1, vl1, e1, ak1, hd1, vr1, lr1, Lg1, Ll1, rfl, hl7, hg7, hlo7, hk7, hf7, hx7⟩
  have hr7 := HS6.out.rvKept (hk7.mono (fun j hj => .inl (.inl hj)))
  have hrn7 := HR6.out.kept hk7 (fun b hb e => hPp (by rw [← e]; exact hb))
  have HRA := Lib.hid (rackU (fun b => X.drew.heap.size ≤ b ∧ ∃ cur, At w6 b 38 cur) A6 rs6.length c6 rs6 hr7 hrn7 hPq hnc6 hcm6 (by omega) (by rw [← HS6.out.core]; exact HS6.out.gk))
  have H7 := Lib.hid (And.intro hl7 (And.intro hg7 (And.intro hlo7 (And.intro hk7 (And.intro hf7 hx7)))))
  have HQ7 := Lib.hid hr7.at_.lt
  clear hl7 hg7 hlo7 hk7 hf7 hx7 hr7 hrn7 HSA
  go_wp2_with fail
  refine HRA.out.mono ?_
  rintro e w8 ⟨vg2, vl2, e2, ak2, hd2, vr2, lr2, Lg2, Ll2, rfl, hr8, hg8, hlo8, hk8, hf8, hx8⟩
  obtain ⟨rfl, hcg, hcl, hs8⟩ := HS6.out.acks H7.out.1 H7.out.2.2.2.1 H7.out.2.2.2.2.1 H7.out.2.2.2.2.2 hr8 hk8 hf8 hx8
  have hg1 := ownG_kept H7.out.2.1 hk8 (fun j hj e => by
    obtain ⟨cur, hA⟩ := ownG_type H7.out.2.1 j hj
    rw [e] at hA
    exact absurd (hA.type_eq (HS6.out.rvKept (H7.out.2.2.2.1.mono (fun j hj => .inl (.inl hj)))).at_) (by decide))
  have hl1 := ownG_kept H7.out.2.2.1 hk8 (fun j hj e => by
    obtain ⟨cur, hA⟩ := ownG_type H7.out.2.2.1 j hj
    rw [e] at hA
    exact absurd (hA.type_eq (HS6.out.rvKept (H7.out.2.2.2.1.mono (fun j hj => .inl (.inl hj)))).at_) (by decide))
  obtain ⟨Ng, hNg⟩ : ∃ N, Lg1.length = N := ⟨_, rfl⟩
  have hNg2 : Lg2.length = Ng := by rw [← hNg, len_core, ← hcg, ← len_core]
  obtain ⟨Nl, hNl⟩ : ∃ N, Ll1.length = N := ⟨_, rfl⟩
  have hNl2 : Ll2.length = Nl := by rw [← hNl, len_core, ← hcl, ← len_core]
  have hbg : Ng ≤ 64 ∧ Nl ≤ 64 := by
    have h1 := H7.out.2.2.2.2.2.lens HS6.out.gk.len
    rw [← len_core, ← len_core, hNg, hNl] at h1
    exact h1
  obtain ⟨G1, cg1, rfl, _, _⟩ : ∃ A c, vg1 = .slice A Ng c ∧ Ng ≤ c ∧ c ≤ maxLen := by have h9 := ownG_shape hg1; rw [hNg] at h9; exact h9
  obtain ⟨G2, cg2, rfl, _, _⟩ : ∃ A c, vg2 = .slice A Ng c ∧ Ng ≤ c ∧ c ≤ maxLen := by have h9 := ownG_shape hg8; rw [hNg2] at h9; exact h9
  obtain ⟨K1, ck1, rfl, _, _⟩ : ∃ A c, vl1 = .slice A Nl c ∧ Nl ≤ c ∧ c ≤ maxLen := by have h9 := ownG_shape hl1; rw [hNl] at h9; exact h9
  obtain ⟨K2, ck2, rfl, _, _⟩ : ∃ A c, vl2 = .slice A Nl c ∧ Nl ≤ c ∧ c ≤ maxLen := by have h9 := ownG_shape hlo8; rw [hNl2] at h9; exact h9
  have HPA := Lib.hid (packets_any G1 G2 Ng cg1 cg2 Lg1 Lg2 w8 (inP_of hg1 hNg) (inP_of hg8 hNg2) hcg (by omega))
  have HPB := Lib.hid (fun W (hb : Below w8.heap.size w8 W) => packets_any K1 K2 Nl ck1 ck2 Ll1 Ll2 W ((inP_of hl1 hNl).below hb) ((inP_of hlo8 hNl2).below hb) hcl (by omega))
  have HS8 := Lib.hid hs8
  clear hr8 hg8 hlo8 hk8 hf8 hx8 hs8 hg1 hl1 hcg hcl hNg hNl hNg2 hNl2 hbg HRA H7
  go_wp2_with fail
  refine HPA.out.mono ?_
  rintro e w9 ⟨rfl, hb9⟩
  have HP9 := Lib.hid (HPB.out w9 hb9)
  have HS9 := Lib.hid (HS8.out.below hb9)
  clear hb9 HPA HPB
  go_wp2_with fail
  refine HP9.out.mono ?_
  rintro e w10 ⟨rfl, hb10⟩
  have HS10 := Lib.hid (HS9.out.below hb10)
  clear hb10 HP9
  go_wp2_with fail
  refine HS10.out.same.mono ?_
  rintro e w11 ⟨rfl, hst⟩
  have HST := Lib.hid hst
  clear hst
  go_wp2
  go_ret
  exact ⟨rfl, HST.out⟩
end
end Go.Proofs.Ytpihgikcgkipaaa
