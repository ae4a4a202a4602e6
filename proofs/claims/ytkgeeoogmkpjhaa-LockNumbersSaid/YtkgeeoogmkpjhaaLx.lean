/-
  The document's own turned, tag, Seal, Open, Mask (narthexref8).
-/
import Derived.Test.YtkgeeoogmkpjhaaLw
namespace Go.Proofs.Ytkgeeoogmkpjhaa
set_option linter.unusedVariables false
set_option linter.unusedSimpArgs false
open Go.RowKit Go.ChangeShapes Go.WideShapes Go.Deep
theorem turn_set (key n : Int) (bs : List Int) (k : Nat) (x : Int) (hk : k < bs.length) (hx : x = xorB (bs.getD k 0) (rowX key n k)) : ((turnS key n bs).take k ++ bs.drop k).set k x = (turnS key n bs).take (k + 1) ++ bs.drop (k + 1) := by
  have hl : ((turnS key n bs).take k).length = k := by rw [List.length_take, turnS_len]; omega
  rw [turnS_step key n bs k hk, ← hx, List.set_append_right _ _ (by omega), hl, Nat.sub_self, List.drop_eq_getElem_cons hk, List.set_cons_zero, List.append_assoc]
  rfl
theorem turn_getD (key n : Int) (bs : List Int) (k : Nat) (hk : k < bs.length) : ((turnS key n bs).take k ++ bs.drop k)[k]? = some (bs.getD k 0) := by
  have hl : ((turnS key n bs).take k).length = k := by rw [List.length_take, turnS_len]; omega
  rw [List.getElem?_append_right (by omega), hl, Nat.sub_self, List.getElem?_drop, Nat.add_zero, List.getElem?_eq_getElem hk, List.getD_eq_getElem?_getD, List.getElem?_eq_getElem hk]
  rfl
theorem own_cell {w : World} {base g nn c : Nat} {e : TypeId} {L : List Int} (h : Own w base e (.slice (some ⟨g, 0, none⟩) nn c) L) (hl : L.length = nn) (k : Nat) (x : Int) (hx : L[k]? = some x) :
    w.cell? ⟨g, k, none⟩ = some (.int .u8 x) ∧ g < w.heap.size ∧ base ≤ g ∧ w.frozen? ⟨g, k, none⟩ = false := by
  have hk : k < L.length := (List.getElem?_eq_some_iff.1 hx).1
  obtain ⟨g', c', l, hv, hA, _, ht, hb, _, _⟩ := h.place (by omega)
  injection hv with e1 e2 e3
  injection e1 with e1
  injection e1 with e1
  subst e1
  exact ⟨place_cell hA ht k x hx, hA.lt, hb, hA.frozen k⟩
theorem own_set {w : World} {base g nn c : Nat} {e : TypeId} {L : List Int} (h : Own w base e (.slice (some ⟨g, 0, none⟩) nn c) L) (hl : L.length = nn) (hp : 0 < nn) (k : Nat) (y : Int) (hy : 0 ≤ y ∧ y < 256) :
    Own (w.setCell ⟨g, k, none⟩ (.int .u8 y)) base e (.slice (some ⟨g, 0, none⟩) nn c) (L.set k y) := by
  obtain ⟨g', c', l, hv, hA, hlc, ht, hb, hn, hm⟩ := h.place (by omega)
  injection hv with e1 e2 e3
  injection e1 with e1
  injection e1 with e1
  subst e1; subst e3; subst e2
  exact place_set hA hlc ht h.byt hb hn hm k y hy
set_option maxRecDepth 100000 in
set_option maxHeartbeats 4000000 in
theorem rturned_any (key n : Int) (A : Option Addr) (nn cc : Nat) (bs : List Int) (w : World) (hr : Rd w w.heap.size A nn bs) (hn : nn ≤ cc) (hc : cc ≤ maxLen) (hln : nn ≤ 140737488355000) (k0 : 0 ≤ key) (k1 : key < 18446744073709551616) (n0 : 0 ≤ n) (n1 : n < 18446744073709551616) :
    Calls Try.prog 23 #[.int .u64 key, .int .u64 n, .slice A nn cc] w fun e w' => ∃ v, e = .returned v ∧ Own w' w.heap.size 5 v (turnS key n bs) ∧ Below w.heap.size w w' := by
  obtain ⟨i0, hi, hz0, hz1, hz2⟩ := info_parts u8_info
  have hb0 : Below w.heap.size w (w.alloc (.cells #[] 5)) := (Below.refl _ _).alloc (Nat.le_refl _) _
  have hrr := hr.below hb0
  have hc3 := hc
  unfold maxLen at hc3
  have hlen := hr.1
  have hby := hr.2.1
  have HN := Lib.hid (fun W => rbytes_any n W n0 n1)
  clear hr
  go_enter Try.func23, Try.ntmps23
  go_wp2_with (first | (at_builtin; refine wpList_append_rd (by rfl) (.tmp 10) (.tmp 11) 22 rfl w.heap.size 5 i0 Try.underlying22 hi hz0 hz1 hz2 _ [] rfl (Own.of_block (n := 0) (cap := 0) Byt.nil rfl (heap_alloc_new w _) (Nat.le_refl _) (Nat.le_refl _) (Nat.zero_le _) rfl rfl) _ A nn cc bs rfl hrr (by simp; omega) w hb0 hb0.size ?_; intro v1 w1 ho1 hb1 hg1) | fail)
  have ho1 := ho1.cast (List.nil_append bs)
  obtain ⟨A1, c1, rfl, s1, s2, s3⟩ := ho1.open_n nn hlen
  have hs2 := s2
  unfold maxLen at hs2
  have HI := Lib.hid (And.intro ho1 hb1)
  clear ho1 hb1 hg1 s3 hb0 hrr
  go_loopw [8] (fun i wr => ∃ k : Nat, k ≤ nn ∧ i = .int .i64 k ∧ Hid (Own wr w.heap.size 5 (.slice A1 nn c1) ((turnS key n bs).take k ++ bs.drop k) ∧ Below w.heap.size w wr)) (fun i _ => nn - (intOf i).toNat)
  case atStart => exact ⟨0, Nat.zero_le _, rfl, HI⟩
  case round =>
    obtain ⟨k, hk, rfl, hst⟩ := hrel
    obtain ⟨wo, rfl⟩ : ∃ wo : World, wo = wr := ⟨_, rfl⟩
    have hO := hst.out.1
    have hB := hst.out.2
    clear hst HI
    by_cases hlt : k < nn
    · obtain ⟨q, hq⟩ : ∃ q, k / 8 = q := ⟨_, rfl⟩
      have hqI : (k : Int) / 8 = (q : Int) := by omega
      obtain ⟨j, hj⟩ : ∃ j, k % 8 = j := ⟨_, rfl⟩
      have hjI : (k : Int) % 8 = (j : Int) := by omega
      have hj8 : j < 8 := by omega
      have hjp : (0 : Int) ≤ (j : Int) := by omega
      have htm : (k : Int).tmod 8 = (j : Int) := by rw [Int.tmod_eq_emod_of_nonneg (by omega)]; exact hjI
      have hj8I : (j : Int) < 8 := by omega
      have hkb := keyedS_bd key ((b8 n).l ++ (b8 (q : Int)).l)
      have hcp : ((turnS key n bs).take k ++ bs.drop k).length = nn := by rw [List.length_append, List.length_take, turnS_len, List.length_drop]; omega
      obtain ⟨g, c', _, hv, _, _, _, _, _, _⟩ := hO.place (by omega)
      obtain ⟨rfl, rfl⟩ : A1 = some ⟨g, 0, none⟩ ∧ c1 = c' := by injection hv with e1 e2 e3; exact ⟨e1, e3⟩
      clear hv
      have hQ := rbytes_any (q : Int)
      have HK := Lib.hid (fun W A c (h : Rd W W.heap.size A 16 ((b8 n).l ++ (b8 (q : Int)).l)) (h1 : 16 ≤ c) (h2 : c ≤ maxLen) => rkeyed_any key A 16 c _ W W.heap.size h h1 h2 k0 k1)
      have HF := Lib.hid (fun W => rbytes_any (keyedS key ((b8 n).l ++ (b8 (q : Int)).l)) W hkb.1 hkb.2)
      have hrow : rowX key n k = (b8 (keyedS key ((b8 n).l ++ (b8 (q : Int)).l))).l.getD j 0 := by unfold rowX blkS; rw [b8_l n, b8_l (q : Int), hq, hj]
      have hQ := Lib.hid hQ
      have hl1 : ((b8 n).l).length = 8 := rfl
      have hl2 : ((b8 (q : Int)).l).length = 8 := rfl
      obtain ⟨L1, hL1⟩ : ∃ x, (b8 n).l = x := ⟨_, rfl⟩
      obtain ⟨L2, hL2⟩ : ∃ x, (b8 (q : Int)).l = x := ⟨_, rfl⟩
      rw [hL1] at HK HF hrow hl1 HN
      rw [hL2] at HK HF hrow hl2
      have HL2 := Lib.hid hL2
      obtain ⟨K9, hK9⟩ : ∃ x, keyedS key (L1 ++ L2) = x := ⟨_, rfl⟩
      rw [hK9] at HK HF hrow
      obtain ⟨m9, hm9⟩ : ∃ x, b8 K9 = x := ⟨_, rfl⟩
      rw [hm9] at HF hrow
      have hrow2 : rowX key n k = m9.l.getD j 0 := hrow
      obtain ⟨z, hz⟩ : ∃ x, m9.l.getD j 0 = x := ⟨_, rfl⟩
      obtain ⟨y, hy⟩ : ∃ y, bs.getD k 0 = y := ⟨_, rfl⟩
      have hfin := turn_set key n bs k (bits BinOp.xor IntKind.u8 y z) (by omega) (by rw [hrow2, hz, hy]; rfl)
      have hget := turn_getD key n bs k (by omega)
      rw [hy] at hget
      have HFIN := Lib.hid hfin
      have HGET := Lib.hid hget
      have HCP := Lib.hid hcp
      have HZ := Lib.hid hz
      have HL1 := Lib.hid hl1
      have HLL2 := Lib.hid hl2
      clear hfin hget hrow hrow2 hm9 hK9 hL1 hL2 hq hj hkb hz hy hcp hl1 hl2
      go_wp2_with fail
      refine (HN.out wo).mono ?_
      rintro e w2 ⟨v2, rfl, ho2, hb2⟩
      go_wp2_with fail
      refine (hQ.out w2 (by omega) (by omega)).mono ?_
      rintro e w3 ⟨v3, rfl, ho3, hb3⟩
      have ho2 := ho2.below hb3 (Nat.le_refl _)
      have hb3 := hb2.trans (hb3.mono hb2.size)
      have ho3 := ho3.cast HL2.out
      obtain ⟨A3, c3, rfl, p1, p2, p3⟩ := ho3.open_n 8 HLL2.out
      go_wp2_with (first | (at_builtin; refine wpList_append_rd (by rfl) (.tmp 21) (.tmp 25) 22 rfl wo.heap.size 5 i0 Try.underlying22 hi hz0 hz1 hz2 _ L1 rfl ho2 _ A3 8 c3 L2 rfl p3 (by rw [HL1.out]; omega) wo hb3 hb3.size ?_; intro v4 w4 ho4 hb4 hg4; obtain ⟨A4, c4, rfl, q1, q2, q3⟩ := ho4.open_n 16 (by rw [List.length_append, HL1.out, HLL2.out])) | (go_at_call 29; refine (HK.out w4 A4 c4 q3 q1 q2).mono ?_; rintro e w' ⟨rfl, rfl⟩) | fail)
      have hO4 := hO.below hb4 (Nat.le_refl _)
      have hB4 := hB.trans (hb4.mono hB.size)
      clear hO hB hb2 hb3 hb4 hg4 ho2 ho3 ho4 p3 q3
      have hO4 := hO4.drew
      have hB4 : Below w.heap.size w w4.drew := belowN hB4 1
      obtain ⟨Y, hY⟩ : ∃ x, w4.drew = x := ⟨_, rfl⟩
      rw [hY] at hO4 hB4
      obtain ⟨hcg, hgl, _, _⟩ := own_cell hO4 HCP.out k y HGET.out
      refine wp_region_held_drew (S := (fun _ => True)) (by kernel_rfl) (trivial) (fun hHeld => ?_)
      rw [hY]
      clear hY
      refine tkq 0 (some 28) (v := ?_) rfl (Or.inl ⟨by rfl, ?_⟩) (by assumption) ?_
      rotate_left
      · intro w hSw; (try dsimp only at hSw); go_simp; first | done | (with_reducible rfl)
      simp only [Act.put, List.setIfInBounds_toArray, List.set_cons_zero, List.set_cons_succ]
      refine tkq 1 (some 29) (v := ?_) rfl (Or.inl ⟨by rfl, ?_⟩) (by assumption) ?_
      rotate_left
      · intro w hSw; (try dsimp only at hSw); go_simp; first | done | (with_reducible rfl)
      simp only [Act.put, List.setIfInBounds_toArray, List.set_cons_zero, List.set_cons_succ]
      refine tkq 2 (some 30) (v := ?_) rfl (Or.inl ⟨by rfl, ?_⟩) (by assumption) ?_
      rotate_left
      · intro w hSw; (try dsimp only at hSw); go_simp; first | done | (with_reducible rfl)
      simp only [Act.put, List.setIfInBounds_toArray, List.set_cons_zero, List.set_cons_succ]
      refine tkq 3 (some 31) (v := ?_) rfl (Or.inl ⟨by rfl, ?_⟩) (by assumption) ?_
      rotate_left
      · intro w hSw; (try dsimp only at hSw); go_simp; first | done | (with_reducible rfl)
      simp only [Act.put, List.setIfInBounds_toArray, List.set_cons_zero, List.set_cons_succ]
      refine tkq 4 (some 32) (v := ?_) rfl (Or.inl ⟨by rfl, ?_⟩) (by assumption) ?_
      rotate_left
      · intro w hSw; (try dsimp only at hSw); go_simp; first | done | (with_reducible rfl)
      simp only [Act.put, List.setIfInBounds_toArray, List.set_cons_zero, List.set_cons_succ]
      refine tkq 6 (some 34) (v := ?_) rfl (Or.inl ⟨by rfl, ?_⟩) (by assumption) ?_
      rotate_left
      · intro w hSw; (try dsimp only at hSw); go_simp; first | done | (with_reducible rfl)
      simp only [Act.put, List.setIfInBounds_toArray, List.set_cons_zero, List.set_cons_succ]
      refine tkq 8 (some 36) (v := ?_) rfl (Or.inl ⟨by rfl, ?_⟩) (by assumption) ?_
      rotate_left
      · intro w hSw; (try dsimp only at hSw); go_simp; first | done | (with_reducible rfl)
      simp only [Act.put, List.setIfInBounds_toArray, List.set_cons_zero, List.set_cons_succ]
      refine tkq 9 (some 37) (v := ?_) rfl (Or.inl ⟨by rfl, ?_⟩) (by assumption) ?_
      rotate_left
      · intro w hSw; (try dsimp only at hSw); go_simp; first | done | (with_reducible rfl)
      simp only [Act.put, List.setIfInBounds_toArray, List.set_cons_zero, List.set_cons_succ]
      refine wpAnyH_ready (rs := [5, 7]) (by kernel_rfl) (by simp) ?_
      refine AllReadyH.cons rfl (fun K hK => ?_) (AllReadyH.cons rfl (fun K hK => ?_) (AllReadyH.nil))
      · go_simp
        go_wp2_with (fail)
        refine hK.out _ _ (trivial) (fun hHeld => ?_)
        clear hK K
        refine wpAnyH_ready (rs := [7]) (by kernel_rfl) (by simp) ?_
        refine AllReadyH.cons rfl (fun K hK => ?_) AllReadyH.nil
        go_simp
        go_wp2_with (go_at_call 28; refine (HF.out Y).mono ?_; rintro e W5 ⟨v5, rfl, ho5, hb5⟩; obtain ⟨A5, c5, rfl, r1, r2, hr5⟩ := ho5.open_n 8 rfl; obtain ⟨g5, off5, rfl, _, hcell5⟩ := hr5.2.2 (by omega); have hc5 := hcell5 j hj8; rw [HZ.out] at hc5; have hcg5 := cell_later hb5 hcg; clear hcell5 hr5 ho5; have hjc : j < c5 := (by omega))
        refine hK.out _ _ (trivial) (fun hHeld => ?_)
        clear hK K
        refine tkq 10 (some 38) (v := ?_) rfl (Or.inl ⟨by rfl, ?_⟩) (by assumption) ?_
        rotate_left
        · intro w hSw; (try dsimp only at hSw); go_simp; first | done | (with_reducible rfl)
        simp only [Act.put, List.setIfInBounds_toArray, List.set_cons_zero, List.set_cons_succ]
        refine wpAnyH_ready (rs := [11]) (by kernel_rfl) (by simp) ?_
        refine AllReadyH.cons rfl (fun K hK => ?_) AllReadyH.nil
        go_simp
        go_wp2_with (fail)
        refine hK.out _ _ (trivial) (fun hHeld => ?_)
        clear hK K
        refine tkq 12 (some 40) (v := ?_) rfl (Or.inl ⟨by rfl, ?_⟩) (by assumption) ?_
        rotate_left
        · intro w hSw; (try dsimp only at hSw); go_simp; first | done | (with_reducible rfl)
        simp only [Act.put, List.setIfInBounds_toArray, List.set_cons_zero, List.set_cons_succ]
        refine tkq 13 (some 41) (v := ?_) rfl (Or.inl ⟨by rfl, ?_⟩) (by assumption) ?_
        rotate_left
        · intro w hSw; (try dsimp only at hSw); go_simp; first | done | (with_reducible rfl)
        simp only [Act.put, List.setIfInBounds_toArray, List.set_cons_zero, List.set_cons_succ]
        refine wpAnyH_ready (rs := [14]) (by kernel_rfl) (by simp) ?_
        refine AllReadyH.cons rfl (fun K hK => ?_) AllReadyH.nil
        have hO5 := hO4.below hb5 (Nat.le_refl _)
        have hB5 := hB4.trans (hb5.mono hB4.size)
        obtain ⟨_, _, hbg6, hfz⟩ := own_cell hO5 HCP.out k y HGET.out
        have hS := own_set hO5 HCP.out (by omega) k (bits BinOp.xor IntKind.u8 y z) (u8_bits_bd _ _ _)
        have hBS := hB5.setCell (p := ⟨g, k, none⟩) hbg6 (.int .u8 (bits BinOp.xor IntKind.u8 y z))
        have HS := Lib.hid (And.intro (hS.cast HFIN.out) hBS)
        clear hS hBS hO5 hB5
        go_simp
        go_wp2_with (fail)
        refine hK.out _ _ (trivial) (fun hHeld => ?_)
        clear hK K
        refine wpAnyH_done (by kernel_rfl) ?_ _
        go_wp2_with fail
        go_roundw
        case rel => exact ⟨k + 1, by omega, by go_num, HS⟩
        case measure => simp [intOf]; omega
      · go_simp
        go_wp2_with (go_at_call 28; refine (HF.out Y).mono ?_; rintro e W5 ⟨v5, rfl, ho5, hb5⟩; obtain ⟨A5, c5, rfl, r1, r2, hr5⟩ := ho5.open_n 8 rfl; obtain ⟨g5, off5, rfl, _, hcell5⟩ := hr5.2.2 (by omega); have hc5 := hcell5 j hj8; rw [HZ.out] at hc5; have hcg5 := cell_later hb5 hcg; clear hcell5 hr5 ho5; have hjc : j < c5 := (by omega))
        refine hK.out _ _ (trivial) (fun hHeld => ?_)
        clear hK K
        refine tkq 10 (some 38) (v := ?_) rfl (Or.inl ⟨by rfl, ?_⟩) (by assumption) ?_
        rotate_left
        · intro w hSw; (try dsimp only at hSw); go_simp; first | done | (with_reducible rfl)
        simp only [Act.put, List.setIfInBounds_toArray, List.set_cons_zero, List.set_cons_succ]
        refine wpAnyH_ready (rs := [5, 11]) (by kernel_rfl) (by simp) ?_
        refine AllReadyH.cons rfl (fun K hK => ?_) (AllReadyH.cons rfl (fun K hK => ?_) (AllReadyH.nil))
        · go_simp
          go_wp2_with (fail)
          refine hK.out _ _ (trivial) (fun hHeld => ?_)
          clear hK K
          refine wpAnyH_ready (rs := [11]) (by kernel_rfl) (by simp) ?_
          refine AllReadyH.cons rfl (fun K hK => ?_) AllReadyH.nil
          go_simp
          go_wp2_with (fail)
          refine hK.out _ _ (trivial) (fun hHeld => ?_)
          clear hK K
          refine tkq 12 (some 40) (v := ?_) rfl (Or.inl ⟨by rfl, ?_⟩) (by assumption) ?_
          rotate_left
          · intro w hSw; (try dsimp only at hSw); go_simp; first | done | (with_reducible rfl)
          simp only [Act.put, List.setIfInBounds_toArray, List.set_cons_zero, List.set_cons_succ]
          refine tkq 13 (some 41) (v := ?_) rfl (Or.inl ⟨by rfl, ?_⟩) (by assumption) ?_
          rotate_left
          · intro w hSw; (try dsimp only at hSw); go_simp; first | done | (with_reducible rfl)
          simp only [Act.put, List.setIfInBounds_toArray, List.set_cons_zero, List.set_cons_succ]
          refine wpAnyH_ready (rs := [14]) (by kernel_rfl) (by simp) ?_
          refine AllReadyH.cons rfl (fun K hK => ?_) AllReadyH.nil
          have hO5 := hO4.below hb5 (Nat.le_refl _)
          have hB5 := hB4.trans (hb5.mono hB4.size)
          obtain ⟨_, _, hbg6, hfz⟩ := own_cell hO5 HCP.out k y HGET.out
          have hS := own_set hO5 HCP.out (by omega) k (bits BinOp.xor IntKind.u8 y z) (u8_bits_bd _ _ _)
          have hBS := hB5.setCell (p := ⟨g, k, none⟩) hbg6 (.int .u8 (bits BinOp.xor IntKind.u8 y z))
          have HS := Lib.hid (And.intro (hS.cast HFIN.out) hBS)
          clear hS hBS hO5 hB5
          go_simp
          go_wp2_with (fail)
          refine hK.out _ _ (trivial) (fun hHeld => ?_)
          clear hK K
          refine wpAnyH_done (by kernel_rfl) ?_ _
          go_wp2_with fail
          go_roundw
          case rel => exact ⟨k + 1, by omega, by go_num, HS⟩
          case measure => simp [intOf]; omega
        · go_simp
          go_wp2_with (fail)
          refine hK.out _ _ (trivial) (fun hHeld => ?_)
          clear hK K
          refine wpAnyH_ready (rs := [5]) (by kernel_rfl) (by simp) ?_
          refine AllReadyH.cons rfl (fun K hK => ?_) AllReadyH.nil
          go_simp
          go_wp2_with (fail)
          refine hK.out _ _ (trivial) (fun hHeld => ?_)
          clear hK K
          refine tkq 12 (some 40) (v := ?_) rfl (Or.inl ⟨by rfl, ?_⟩) (by assumption) ?_
          rotate_left
          · intro w hSw; (try dsimp only at hSw); go_simp; first | done | (with_reducible rfl)
          simp only [Act.put, List.setIfInBounds_toArray, List.set_cons_zero, List.set_cons_succ]
          refine tkq 13 (some 41) (v := ?_) rfl (Or.inl ⟨by rfl, ?_⟩) (by assumption) ?_
          rotate_left
          · intro w hSw; (try dsimp only at hSw); go_simp; first | done | (with_reducible rfl)
          simp only [Act.put, List.setIfInBounds_toArray, List.set_cons_zero, List.set_cons_succ]
          refine wpAnyH_ready (rs := [14]) (by kernel_rfl) (by simp) ?_
          refine AllReadyH.cons rfl (fun K hK => ?_) AllReadyH.nil
          have hO5 := hO4.below hb5 (Nat.le_refl _)
          have hB5 := hB4.trans (hb5.mono hB4.size)
          obtain ⟨_, _, hbg6, hfz⟩ := own_cell hO5 HCP.out k y HGET.out
          have hS := own_set hO5 HCP.out (by omega) k (bits BinOp.xor IntKind.u8 y z) (u8_bits_bd _ _ _)
          have hBS := hB5.setCell (p := ⟨g, k, none⟩) hbg6 (.int .u8 (bits BinOp.xor IntKind.u8 y z))
          have HS := Lib.hid (And.intro (hS.cast HFIN.out) hBS)
          clear hS hBS hO5 hB5
          go_simp
          go_wp2_with (fail)
          refine hK.out _ _ (trivial) (fun hHeld => ?_)
          clear hK K
          refine wpAnyH_done (by kernel_rfl) ?_ _
          go_wp2_with fail
          go_roundw
          case rel => exact ⟨k + 1, by omega, by go_num, HS⟩
          case measure => simp [intOf]; omega
    · obtain rfl : k = nn := by omega
      have hO := hO.cast (show _ = turnS key n bs by rw [List.take_of_length_le (by rw [turnS_len]; omega), List.drop_eq_nil_of_le (by omega), List.append_nil])
      go_wp2_with fail
      go_ret
      exact ⟨_, rfl, hO, hB⟩
end Go.Proofs.Ytkgeeoogmkpjhaa
