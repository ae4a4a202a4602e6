/-
  The law's calls: Ack of ranges as they are handed in.
-/
import Derived.Test.YtpihgikcgkipaaaUw
namespace Go.Proofs.Ytpihgikcgkipaaa
set_option linter.unusedVariables false
set_option linter.unusedSimpArgs false
open Go.RowKit
theorem AckR.lens {nx ak : Int} {hd : Bool} {C : List PC} {rs : RL} {e1 a1 : Int} {h1 : Bool} {C1 g1 k1 : List PC} (x : AckR nx ak hd C rs e1 a1 h1 C1 g1 k1) (h : C.length ≤ 64) : g1.length ≤ 64 ∧ k1.length ≤ 64 := by
  rcases x with ⟨_, rfl, rfl, rfl, rfl, rfl, rfl⟩ | ⟨_, z, _, ⟨_, rfl, rfl, rfl, rfl, rfl, rfl⟩ | ⟨hz, rfl, rfl, rfl, rfl, rfl, rfl⟩⟩
  · exact ⟨by simp, by simp⟩
  · exact ⟨by simp, by simp⟩
  · exact ⟨Nat.le_trans (List.length_filter_le _ _) h, Nat.le_trans (Nat.le_trans (List.length_filter_le _ _) (List.length_filter_le _ _)) h⟩
section
variable {w0 : GW} {w : World} {B p q : Nat} {nx ak : Int} {hd : Bool} {v1 v2 : Value} {l1 l2 : PL}
set_option maxRecDepth 100000 in
set_option maxHeartbeats 8000000 in
theorem do_ack9 (h : Sx w0 w B p q nx ak hd v1 v2 l1 l2) (x : AX) (P : Nat → Prop) (rs : RL) (xs : List Int) (hu : UnP w x.ro.A x.ro.n xs) (huc : x.ro.n ≤ x.ro.c ∧ x.ro.c ≤ maxLen) (hr : RnP w P x.r.A x.r.n rs) (hPp : ¬ P p) (hPq : ¬ P q) (hrc : x.r.n ≤ x.r.c ∧ x.r.c ≤ maxLen) (hf : 0 ≤ x.from_ ∧ x.from_ < 18446744073709551616) :
    Calls Try.prog 8 #[.pointer (some ⟨p, 0, none⟩), .pointer (some ⟨q, 0, none⟩), .agg (axL 9 x).toArray] w fun e w' => e = .returned (.bool true) ∧ St w0 w' B p q := by
  obtain ⟨skip, size, asks, time, from_, ⟨roA, ron, roc⟩, ⟨pn, pt, ps, pa, pA, pk, pc⟩, ⟨rA, rn, rc⟩⟩ := x
  simp only at hu huc hr hrc hf
  have hax : Below w.heap.size w (w.alloc (.cells #[.int .i64 9, .int .i64 skip, .int .i64 size, .bool asks, .int .i64 time, .int .u64 from_, .slice roA ron roc, .int .u64 pn, .int .i64 pt, .int .i64 ps, .bool pa, .slice pA pk pc, .slice rA rn rc] 36)) := (Below.refl _ _).alloc (Nat.le_refl _) _
  have hA := At.new w 36 [.int .i64 9, .int .i64 skip, .int .i64 size, .bool asks, .int .i64 time, .int .u64 from_, .slice roA ron roc, .int .u64 pn, .int .i64 pt, .int .i64 ps, .bool pa, .slice pA pk pc, .slice rA rn rc]
  have HX := Lib.hid (h.below hax)
  have HU := Lib.hid (hu.below hax)
  have HR := Lib.hid (hr.below hax)
  have hql : q < (w.alloc (.cells #[.int .i64 9, .int .i64 skip, .int .i64 size, .bool asks, .int .i64 time, .int .u64 from_, .slice roA ron roc, .int .u64 pn, .int .i64 pt, .int .i64 ps, .bool pa, .slice pA pk pc, .slice rA rn rc] 36)).heap.size := (h.below hax).rv.at_.lt
  have hnx := h.gk.nx0
  clear h hax hu hr
  rw [show Value.agg (axL 9 ⟨skip, size, asks, time, from_, ⟨roA, ron, roc⟩, ⟨pn, pt, ps, pa, pA, pk, pc⟩, ⟨rA, rn, rc⟩⟩).toArray = .agg #[.int .i64 9, .int .i64 skip, .int .i64 size, .bool asks, .int .i64 time, .int .u64 from_, .slice roA ron roc, .int .u64 pn, .int .i64 pt, .int .i64 ps, .bool pa, .slice pA pk pc, .slice rA rn rc] from rfl]
  go_enter Try.func8, Try.ntmps8
  go_wp2
  generalize World.alloc w _ = X at *
  obtain ⟨ga, hga⟩ : ∃ g, w.heap.size = g := ⟨_, rfl⟩
  rw [hga] at hA ⊢
  have HA := Lib.hid hA
  have hgl := hA.lt
  have a5 := hA.cell 5
  have a6 := hA.cell 6
  have q1 := HX.out.rv.at_.cell 1
  clear hga hA
  have hw2 : IntKind.u64.wrap (nx + 2) = nx + 2 := by rw [IntKind.wrap_u64]; omega
  have hnz : ¬ nx + 2 = 0 := by omega
  have hm1 : 0 ≤ from_.tmod (nx + 2) := Int.tmod_nonneg _ hf.1
  have hm2 : from_.tmod (nx + 2) < nx + 2 := Int.tmod_lt_of_pos _ (by omega)
  obtain ⟨F, hF⟩ : ∃ F, from_.tmod (nx + 2) = F := ⟨_, rfl⟩
  rw [hF] at hm1 hm2
  have hd0 : Below X.heap.size X X.drew := ⟨rfl, rfl, rfl, Nat.le_refl _, fun _ _ => rfl⟩
  have HKR := Lib.hid (kranges11_any roA ron roc xs F X.drew (HU.out.below hd0) huc.1 huc.2 hm1 (by omega))
  refine wp_region_held_drew (S := (fun W => W.cell? ⟨ga, 5, none⟩ = some (.int .u64 from_) ∧ W.cell? ⟨ga, 6, none⟩ = some (.slice roA ron roc) ∧ W.cell? ⟨q, 1, none⟩ = some (.int .u64 nx))) (by kernel_rfl) (⟨a5, a6, q1⟩) (fun hHeld => ?_)
  refine tkq 0 (some 57) (v := ?_) rfl (Or.inl ⟨by rfl, ?_⟩) (by assumption) ?_
  rotate_left
  · intro w hSw; (try dsimp only at hSw); go_simp; first | done | (with_reducible rfl)
  simp only [Act.put, List.setIfInBounds_toArray, List.set_cons_zero, List.set_cons_succ]
  refine tkq 1 (some 58) (v := ?_) rfl (Or.inl ⟨by rfl, ?_⟩) (by assumption) ?_
  rotate_left
  · intro w hSw; (try dsimp only at hSw); go_simp; first | done | (with_reducible rfl)
  simp only [Act.put, List.setIfInBounds_toArray, List.set_cons_zero, List.set_cons_succ]
  refine tkq 2 (some 59) (v := ?_) rfl (Or.inl ⟨by rfl, ?_⟩) (by assumption) ?_
  rotate_left
  · intro w hSw; (try dsimp only at hSw); go_simp; first | done | (with_reducible rfl)
  simp only [Act.put, List.setIfInBounds_toArray, List.set_cons_zero, List.set_cons_succ]
  refine tkq 3 (some 60) (v := ?_) rfl (Or.inl ⟨by rfl, ?_⟩) (by assumption) ?_
  rotate_left
  · intro w hSw; (try dsimp only at hSw); go_simp; first | done | (with_reducible rfl)
  simp only [Act.put, List.setIfInBounds_toArray, List.set_cons_zero, List.set_cons_succ]
  refine tkq 4 (some 61) (v := ?_) rfl (Or.inl ⟨by rfl, ?_⟩) (by assumption) ?_
  rotate_left
  · intro w hSw; (try dsimp only at hSw); go_simp; first | done | (with_reducible rfl)
  simp only [Act.put, List.setIfInBounds_toArray, List.set_cons_zero, List.set_cons_succ]
  refine tkq 5 (some 62) (v := ?_) rfl (Or.inl ⟨by rfl, ?_⟩) (by assumption) ?_
  rotate_left
  · intro w hSw; (try dsimp only at hSw); go_simp; first | done | (with_reducible rfl)
  simp only [Act.put, List.setIfInBounds_toArray, List.set_cons_zero, List.set_cons_succ]
  refine tkq 6 (some 63) (v := ?_) rfl (Or.inl ⟨by rfl, ?_⟩) (by assumption) ?_
  rotate_left
  · intro w hSw; (try dsimp only at hSw); go_simp; first | done | (with_reducible rfl)
  simp only [Act.put, List.setIfInBounds_toArray, List.set_cons_zero, List.set_cons_succ]
  refine tkq 7 (some 64) (v := ?_) rfl (Or.inl ⟨by rfl, ?_⟩) (by assumption) ?_
  rotate_left
  · intro w hSw; (try dsimp only at hSw); go_simp; first | done | (with_reducible rfl)
  simp only [Act.put, List.setIfInBounds_toArray, List.set_cons_zero, List.set_cons_succ]
  refine tkq 8 (some 65) (v := ?_) rfl (Or.inl ⟨by rfl, ?_⟩) (by assumption) ?_
  rotate_left
  · intro w hSw; (try dsimp only at hSw); go_simp; first | done | (with_reducible rfl)
  simp only [Act.put, List.setIfInBounds_toArray, List.set_cons_zero, List.set_cons_succ]
  refine tkq 9 (some 66) (v := ?_) rfl (Or.inl ⟨by rfl, ?_⟩) (by assumption) ?_
  rotate_left
  · intro w hSw; (try dsimp only at hSw); go_simp; first | done | (with_reducible rfl)
  simp only [Act.put, List.setIfInBounds_toArray, List.set_cons_zero, List.set_cons_succ]
  refine wpAnyH_ready (rs := [10]) (by kernel_rfl) (by simp) ?_
  refine AllReadyH.cons rfl (fun K hK => ?_) AllReadyH.nil
  go_simp
  go_wp2_with (go_at_call 11; (with_reducible refine HKR.out.mono ?_); rintro e w6 ⟨v6, rs6, rfl, ho6, hl6, hb6⟩)
  refine hK.out _ _ (⟨(hb6.cell (p := ⟨ga, 5, none⟩) hgl).trans a5, (hb6.cell (p := ⟨ga, 6, none⟩) hgl).trans a6, (hb6.cell (p := ⟨q, 1, none⟩) hql).trans q1⟩) (fun hHeld => ?_)
  clear hK K
  refine tkq 11 (some 7) (v := ?_) rfl (Or.inl ⟨by rfl, ?_⟩) (by assumption) ?_
  rotate_left
  · intro w hSw; (try dsimp only at hSw); go_simp; first | done | (with_reducible rfl)
  simp only [Act.put, List.setIfInBounds_toArray, List.set_cons_zero, List.set_cons_succ]
  refine wpAnyH_done (by kernel_rfl) ?_ _
  have hB6 := hd0.trans hb6
  have hA6 := HA.out.below hB6 hgl
  have k0 := hA6.cell 0
  have k12 := hA6.cell 12
  have HS6 := Lib.hid (HX.out.below hB6)
  have hR6 := HR.out.below hB6
  clear hHeld hb6 ho6 hl6 hA6 hB6 a5 a6 q1 HKR
  by_cases h5 : 5 < rn
  · have HR6 := Lib.hid (hR6.cut (m := 5) (by omega))
    have h5z : (5 : Int) < (rn : Int) := by omega
    have h5c : 5 ≤ rc := by omega
    clear hR6
    have HSA := Lib.hid (sackU P rA 5 rc (rs.take 5) HS6.out.lv HR6.out hPp (by omega) hrc.2 (by omega) HS6.out.gk)
    go_wp2_with fail
    refine HSA.out.mono ?_
    rintro e w7 ⟨vg1, vl1, e1, ak1, hd1, vr1, lr1, Lg1, Ll1, rfl, hl7, hg7, hlo7, hk7, hf7, hx7⟩
    have hr7 := HS6.out.rvKept (hk7.mono (fun j hj => .inl (.inl hj)))
    have hrn7 := HR6.out.kept hk7 (fun b hb e => hPp (by rw [← e]; exact hb))
    have HRA := Lib.hid (rackU P rA 5 rc (rs.take 5) hr7 hrn7 hPq (by omega) hrc.2 (by omega) (by rw [← HS6.out.core]; exact HS6.out.gk))
    have H7 := Lib.hid (And.intro hl7 (And.intro hg7 (And.intro hlo7 (And.intro hk7 (And.intro hf7 hx7)))))
    have HQ7 := Lib.hid hr7.at_.lt
    clear hl7 hg7 hlo7 hk7 hf7 hx7 hr7 hrn7 HSA
    go_wp2_with fail
    refine HRA.out.mono ?_
    rintro e w8 ⟨vg2, vl2, e2, ak2, hd2, vr2, lr2, Lg2, Ll2, rfl, hr8, hg8, hlo8, hk8, hf8, hx8⟩
    obtain ⟨rfl, hcg, hcl, hs8⟩ := HS6.out.acks H7.out.1 H7.out.2.2.2.1 H7.out.2.2.2.2.1 H7.out.2.2.2.2.2 hr8 hk8 hf8 hx8
    have hg1 := ownG_kept H7.out.2.1 hk8 (fun j hj e => by
      obtain ⟨cur, hA⟩ := ownG_type H7.out.2.1 j hj
      rw [e] at hA
      exact absurd (hA.type_eq (HS6.out.rvKept (H7.out.2.2.2.1.mono (fun j hj => .inl (.inl hj)))).at_) (by decide))
    have hl1 := ownG_kept H7.out.2.2.1 hk8 (fun j hj e => by
      obtain ⟨cur, hA⟩ := ownG_type H7.out.2.2.1 j hj
      rw [e] at hA
      exact absurd (hA.type_eq (HS6.out.rvKept (H7.out.2.2.2.1.mono (fun j hj => .inl (.inl hj)))).at_) (by decide))
    obtain ⟨Ng, hNg⟩ : ∃ N, Lg1.length = N := ⟨_, rfl⟩
    have hNg2 : Lg2.length = Ng := by rw [← hNg, len_core, ← hcg, ← len_core]
    obtain ⟨Nl, hNl⟩ : ∃ N, Ll1.length = N := ⟨_, rfl⟩
    have hNl2 : Ll2.length = Nl := by rw [← hNl, len_core, ← hcl, ← len_core]
    have hbg : Ng ≤ 64 ∧ Nl ≤ 64 := by
      have h1 := H7.out.2.2.2.2.2.lens HS6.out.gk.len
      rw [← len_core, ← len_core, hNg, hNl] at h1
      exact h1
    obtain ⟨G1, cg1, rfl, _, _⟩ : ∃ A c, vg1 = .slice A Ng c ∧ Ng ≤ c ∧ c ≤ maxLen := by have h9 := ownG_shape hg1; rw [hNg] at h9; exact h9
    obtain ⟨G2, cg2, rfl, _, _⟩ : ∃ A c, vg2 = .slice A Ng c ∧ Ng ≤ c ∧ c ≤ maxLen := by have h9 := ownG_shape hg8; rw [hNg2] at h9; exact h9
    obtain ⟨K1, ck1, rfl, _, _⟩ : ∃ A c, vl1 = .slice A Nl c ∧ Nl ≤ c ∧ c ≤ maxLen := by have h9 := ownG_shape hl1; rw [hNl] at h9; exact h9
    obtain ⟨K2, ck2, rfl, _, _⟩ : ∃ A c, vl2 = .slice A Nl c ∧ Nl ≤ c ∧ c ≤ maxLen := by have h9 := ownG_shape hlo8; rw [hNl2] at h9; exact h9
    have HPA := Lib.hid (packets_any G1 G2 Ng cg1 cg2 Lg1 Lg2 w8 (inP_of hg1 hNg) (inP_of hg8 hNg2) hcg (by omega))
    have HPB := Lib.hid (fun W (hb : Below w8.heap.size w8 W) => packets_any K1 K2 Nl ck1 ck2 Ll1 Ll2 W ((inP_of hl1 hNl).below hb) ((inP_of hlo8 hNl2).below hb) hcl (by omega))
    have HS8 := Lib.hid hs8
    clear hr8 hg8 hlo8 hk8 hf8 hx8 hs8 hg1 hl1 hcg hcl hNg hNl hNg2 hNl2 hbg HRA H7
    go_wp2_with fail
    refine HPA.out.mono ?_
    rintro e w9 ⟨rfl, hb9⟩
    have HP9 := Lib.hid (HPB.out w9 hb9)
    have HS9 := Lib.hid (HS8.out.below hb9)
    clear hb9 HPA HPB
    go_wp2_with fail
    refine HP9.out.mono ?_
    rintro e w10 ⟨rfl, hb10⟩
    have HS10 := Lib.hid (HS9.out.below hb10)
    clear hb10 HP9
    go_wp2_with fail
    refine HS10.out.same.mono ?_
    rintro e w11 ⟨rfl, hst⟩
    have HST := Lib.hid hst
    clear hst
    go_wp2
    go_ret
    exact ⟨rfl, HST.out⟩
  · have HR6 := Lib.hid hR6
    have h5z : ¬ (5 : Int) < (rn : Int) := by omega
    clear hR6
    have HSA := Lib.hid (sackU P rA rn rc rs HS6.out.lv HR6.out hPp (by omega) hrc.2 (by omega) HS6.out.gk)
    go_wp2_with fail
    refine HSA.out.mono ?_
    rintro e w7 ⟨vg1, vl1, e1, ak1, hd1, vr1, lr1, Lg1, Ll1, rfl, hl7, hg7, hlo7, hk7, hf7, hx7⟩
    have hr7 := HS6.out.rvKept (hk7.mono (fun j hj => .inl (.inl hj)))
    have hrn7 := HR6.out.kept hk7 (fun b hb e => hPp (by rw [← e]; exact hb))
    have HRA := Lib.hid (rackU P rA rn rc rs hr7 hrn7 hPq (by omega) hrc.2 (by omega) (by rw [← HS6.out.core]; exact HS6.out.gk))
    have H7 := Lib.hid (And.intro hl7 (And.intro hg7 (And.intro hlo7 (And.intro hk7 (And.intro hf7 hx7)))))
    have HQ7 := Lib.hid hr7.at_.lt
    clear hl7 hg7 hlo7 hk7 hf7 hx7 hr7 hrn7 HSA
    go_wp2_with fail
    refine HRA.out.mono ?_
    rintro e w8 ⟨vg2, vl2, e2, ak2, hd2, vr2, lr2, Lg2, Ll2, rfl, hr8, hg8, hlo8, hk8, hf8, hx8⟩
    obtain ⟨rfl, hcg, hcl, hs8⟩ := HS6.out.acks H7.out.1 H7.out.2.2.2.1 H7.out.2.2.2.2.1 H7.out.2.2.2.2.2 hr8 hk8 hf8 hx8
    have hg1 := ownG_kept H7.out.2.1 hk8 (fun j hj e => by
      obtain ⟨cur, hA⟩ := ownG_type H7.out.2.1 j hj
      rw [e] at hA
      exact absurd (hA.type_eq (HS6.out.rvKept (H7.out.2.2.2.1.mono (fun j hj => .inl (.inl hj)))).at_) (by decide))
    have hl1 := ownG_kept H7.out.2.2.1 hk8 (fun j hj e => by
      obtain ⟨cur, hA⟩ := ownG_type H7.out.2.2.1 j hj
      rw [e] at hA
      exact absurd (hA.type_eq (HS6.out.rvKept (H7.out.2.2.2.1.mono (fun j hj => .inl (.inl hj)))).at_) (by decide))
    obtain ⟨Ng, hNg⟩ : ∃ N, Lg1.length = N := ⟨_, rfl⟩
    have hNg2 : Lg2.length = Ng := by rw [← hNg, len_core, ← hcg, ← len_core]
    obtain ⟨Nl, hNl⟩ : ∃ N, Ll1.length = N := ⟨_, rfl⟩
    have hNl2 : Ll2.length = Nl := by rw [← hNl, len_core, ← hcl, ← len_core]
    have hbg : Ng ≤ 64 ∧ Nl ≤ 64 := by
      have h1 := H7.out.2.2.2.2.2.lens HS6.out.gk.len
      rw [← len_core, ← len_core, hNg, hNl] at h1
      exact h1
    obtain ⟨G1, cg1, rfl, _, _⟩ : ∃ A c, vg1 = .slice A Ng c ∧ Ng ≤ c ∧ c ≤ maxLen := by have h9 := ownG_shape hg1; rw [hNg] at h9; exact h9
    obtain ⟨G2, cg2, rfl, _, _⟩ : ∃ A c, vg2 = .slice A Ng c ∧ Ng ≤ c ∧ c ≤ maxLen := by have h9 := ownG_shape hg8; rw [hNg2] at h9; exact h9
    obtain ⟨K1, ck1, rfl, _, _⟩ : ∃ A c, vl1 = .slice A Nl c ∧ Nl ≤ c ∧ c ≤ maxLen := by have h9 := ownG_shape hl1; rw [hNl] at h9; exact h9
    obtain ⟨K2, ck2, rfl, _, _⟩ : ∃ A c, vl2 = .slice A Nl c ∧ Nl ≤ c ∧ c ≤ maxLen := by have h9 := ownG_shape hlo8; rw [hNl2] at h9; exact h9
    have HPA := Lib.hid (packets_any G1 G2 Ng cg1 cg2 Lg1 Lg2 w8 (inP_of hg1 hNg) (inP_of hg8 hNg2) hcg (by omega))
    have HPB := Lib.hid (fun W (hb : Below w8.heap.size w8 W) => packets_any K1 K2 Nl ck1 ck2 Ll1 Ll2 W ((inP_of hl1 hNl).below hb) ((inP_of hlo8 hNl2).below hb) hcl (by omega))
    have HS8 := Lib.hid hs8
    clear hr8 hg8 hlo8 hk8 hf8 hx8 hs8 hg1 hl1 hcg hcl hNg hNl hNg2 hNl2 hbg HRA H7
    go_wp2_with fail
    refine HPA.out.mono ?_
    rintro e w9 ⟨rfl, hb9⟩
    have HP9 := Lib.hid (HPB.out w9 hb9)
    have HS9 := Lib.hid (HS8.out.below hb9)
    clear hb9 HPA HPB
    go_wp2_with fail
    refine HP9.out.mono ?_
    rintro e w10 ⟨rfl, hb10⟩
    have HS10 := Lib.hid (HS9.out.below hb10)
    clear hb10 HP9
    go_wp2_with fail
    refine HS10.out.same.mono ?_
    rintro e w11 ⟨rfl, hst⟩
    have HST := Lib.hid hst
    clear hst
    go_wp2
    go_ret
    exact ⟨rfl, HST.out⟩
end
end Go.Proofs.Ytpihgikcgkipaaa
