/-
  The document's own turned, tag, Seal, Open, Mask (narthexref8).
-/
import Derived.Test.YtehdilgnlhhjdaaMq7
import Derived.Test.YtehdilgnlhhjdaaProg
import Derived.Test.YtehdilgnlhhjdaaMq1
import Derived.Test.YtehdilgnlhhjdaaMq0
import Derived.Deep.QuietTactic
import Derived.BigQuiet
import Derived.Deep.RegionHeld3
import Derived.WalkSpells
import Derived.Test.YtehdilgnlhhjdaaMq5
namespace Go.Proofs.Ytehdilgnlhhjdaa
section
set_option linter.unusedVariables false
set_option linter.unusedSimpArgs false
open Go.RowKit Go.ChangeShapes Go.WideShapes Go.Deep
theorem turn_set (key n : Int) (bs : List Int) (k : Nat) (x : Int) (hk : k < bs.length) (hx : x = xorB (bs.getD k 0) (rowX key n k)) : ((turnS key n bs).take k ++ bs.drop k).set k x = (turnS key n bs).take (k + 1) ++ bs.drop (k + 1) := by
  have hl : ((turnS key n bs).take k).length = k := by rw [List.length_take, turnS_len]; omega
  rw [turnS_step key n bs k hk, ← hx, List.set_append_right _ _ (by omega), hl, Nat.sub_self, List.drop_eq_getElem_cons hk, List.set_cons_zero, List.append_assoc]
  rfl
theorem turn_getD (key n : Int) (bs : List Int) (k : Nat) (hk : k < bs.length) : ((turnS key n bs).take k ++ bs.drop k)[k]? = some (bs.getD k 0) := by
  have hl : ((turnS key n bs).take k).length = k := by rw [List.length_take, turnS_len]; omega
  rw [List.getElem?_append_right (by omega), hl, Nat.sub_self, List.getElem?_drop, Nat.add_zero, List.getElem?_eq_getElem hk, List.getD_eq_getElem?_getD, List.getElem?_eq_getElem hk]
  rfl
theorem own_cell {w : World} {base g nn c : Nat} {e : TypeId} {L : List Int} (h : Own w base e (.slice (some ⟨g, 0, none⟩) nn c) L) (hl : L.length = nn) (k : Nat) (x : Int) (hx : L[k]? = some x) :
    w.cell? ⟨g, k, none⟩ = some (.int .u8 x) ∧ g < w.heap.size ∧ base ≤ g ∧ w.frozen? ⟨g, k, none⟩ = false := by
  have hk : k < L.length := (List.getElem?_eq_some_iff.1 hx).1
  obtain ⟨g', c', l, hv, hA, _, ht, hb, _, _⟩ := h.place (by omega)
  injection hv with e1 e2 e3
  injection e1 with e1
  injection e1 with e1
  subst e1
  exact ⟨place_cell hA ht k x hx, hA.lt, hb, hA.frozen k⟩
theorem own_set {w : World} {base g nn c : Nat} {e : TypeId} {L : List Int} (h : Own w base e (.slice (some ⟨g, 0, none⟩) nn c) L) (hl : L.length = nn) (hp : 0 < nn) (k : Nat) (y : Int) (hy : 0 ≤ y ∧ y < 256) :
    Own (w.setCell ⟨g, k, none⟩ (.int .u8 y)) base e (.slice (some ⟨g, 0, none⟩) nn c) (L.set k y) := by
  obtain ⟨g', c', l, hv, hA, hlc, ht, hb, hn, hm⟩ := h.place (by omega)
  injection hv with e1 e2 e3
  injection e1 with e1
  injection e1 with e1
  subst e1; subst e3; subst e2
  exact place_set hA hlc ht h.byt hb hn hm k y hy
set_option maxRecDepth 100000 in
set_option maxHeartbeats 4000000 in
theorem rturned_any (key n : Int) (A : Option Addr) (nn cc : Nat) (bs : List Int) (w : World) (hr : Rd w w.heap.size A nn bs) (hn : nn ≤ cc) (hc : cc ≤ maxLen) (hln : nn ≤ 140737488355000) (k0 : 0 ≤ key) (k1 : key < 18446744073709551616) (n0 : 0 ≤ n) (n1 : n < 18446744073709551616) :
    Calls Try.prog 46 #[.int .u64 key, .int .u64 n, .slice A nn cc] w fun e w' => ∃ v, e = .returned v ∧ Own w' w.heap.size 5 v (turnS key n bs) ∧ Below w.heap.size w w' := by
  obtain ⟨i0, hi, hz0, hz1, hz2⟩ := info_parts u8_info
  have hb0 : Below w.heap.size w (w.alloc (.cells #[] 5)) := (Below.refl _ _).alloc (Nat.le_refl _) _
  have hrr := hr.below hb0
  have hc3 := hc
  unfold maxLen at hc3
  have hlen := hr.1
  have hby := hr.2.1
  have HN := Lib.hid (fun W => rbytes_any n W n0 n1)
  clear hr
  go_enter Try.func46, Try.ntmps46
  go_wp2_with (first | (at_builtin; refine wpList_append_rd (by rfl) (.tmp 10) (.tmp 11) 28 rfl w.heap.size 5 i0 Try.underlying28 hi hz0 hz1 hz2 _ [] rfl (Own.of_block (n := 0) (cap := 0) Byt.nil rfl (heap_alloc_new w _) (Nat.le_refl _) (Nat.le_refl _) (Nat.zero_le _) rfl rfl) _ A nn cc bs rfl hrr (by simp; omega) w hb0 hb0.size ?_; intro v1 w1 ho1 hb1 hg1) | fail)
  have ho1 := ho1.cast (List.nil_append bs)
  obtain ⟨A1, c1, rfl, s1, s2, s3⟩ := ho1.open_n nn hlen
  have hs2 := s2
  unfold maxLen at hs2
  have HI := Lib.hid (And.intro ho1 hb1)
  clear ho1 hb1 hg1 s3 hb0 hrr
  go_loopw [8] (fun i wr => ∃ k : Nat, k ≤ nn ∧ i = .int .i64 k ∧ Hid (Own wr w.heap.size 5 (.slice A1 nn c1) ((turnS key n bs).take k ++ bs.drop k) ∧ Below w.heap.size w wr)) (fun i _ => nn - (intOf i).toNat)
  case atStart => exact ⟨0, Nat.zero_le _, rfl, HI⟩
  case round =>
    obtain ⟨k, hk, rfl, hst⟩ := hrel
    obtain ⟨wo, rfl⟩ : ∃ wo : World, wo = wr := ⟨_, rfl⟩
    have hO := hst.out.1
    have hB := hst.out.2
    clear hst HI
    by_cases hlt : k < nn
    · obtain ⟨q, hq⟩ : ∃ q, k / 8 = q := ⟨_, rfl⟩
      have hqI : (k : Int) / 8 = (q : Int) := by omega
      obtain ⟨j, hj⟩ : ∃ j, k % 8 = j := ⟨_, rfl⟩
      have hjI : (k : Int) % 8 = (j : Int) := by omega
      have hj8 : j < 8 := by omega
      have hjp : (0 : Int) ≤ (j : Int) := by omega
      have htm : (k : Int).tmod 8 = (j : Int) := by rw [Int.tmod_eq_emod_of_nonneg (by omega)]; exact hjI
      have hj8I : (j : Int) < 8 := by omega
      have hkb := keyedS_bd key ((b8 n).l ++ (b8 (q : Int)).l)
      have hcp : ((turnS key n bs).take k ++ bs.drop k).length = nn := by rw [List.length_append, List.length_take, turnS_len, List.length_drop]; omega
      obtain ⟨g, c', _, hv, _, _, _, _, _, _⟩ := hO.place (by omega)
      obtain ⟨rfl, rfl⟩ : A1 = some ⟨g, 0, none⟩ ∧ c1 = c' := by injection hv with e1 e2 e3; exact ⟨e1, e3⟩
      clear hv
      have hQ := rbytes_any (q : Int)
      have HK := Lib.hid (fun W A c (h : Rd W W.heap.size A 16 ((b8 n).l ++ (b8 (q : Int)).l)) (h1 : 16 ≤ c) (h2 : c ≤ maxLen) => rkeyed_any key A 16 c _ W W.heap.size h h1 h2 k0 k1)
      have HF := Lib.hid (fun W => rbytes_any (keyedS key ((b8 n).l ++ (b8 (q : Int)).l)) W hkb.1 hkb.2)
      have hrow : rowX key n k = (b8 (keyedS key ((b8 n).l ++ (b8 (q : Int)).l))).l.getD j 0 := by unfold rowX blkS; rw [b8_l n, b8_l (q : Int), hq, hj]
      have hQ := Lib.hid hQ
      have hl1 : ((b8 n).l).length = 8 := rfl
      have hl2 : ((b8 (q : Int)).l).length = 8 := rfl
      obtain ⟨L1, hL1⟩ : ∃ x, (b8 n).l = x := ⟨_, rfl⟩
      obtain ⟨L2, hL2⟩ : ∃ x, (b8 (q : Int)).l = x := ⟨_, rfl⟩
      rw [hL1] at HK HF hrow hl1 HN
      rw [hL2] at HK HF hrow hl2
      have HL2 := Lib.hid hL2
      obtain ⟨K9, hK9⟩ : ∃ x, keyedS key (L1 ++ L2) = x := ⟨_, rfl⟩
      rw [hK9] at HK HF hrow
      obtain ⟨m9, hm9⟩ : ∃ x, b8 K9 = x := ⟨_, rfl⟩
      rw [hm9] at HF hrow
      have hrow2 : rowX key n k = m9.l.getD j 0 := hrow
      obtain ⟨z, hz⟩ : ∃ x, m9.l.getD j 0 = x := ⟨_, rfl⟩
      obtain ⟨y, hy⟩ : ∃ y, bs.getD k 0 = y := ⟨_, rfl⟩
      have hfin := turn_set key n bs k (bits BinOp.xor IntKind.u8 y z) (by omega) (by rw [hrow2, hz, hy]; rfl)
      have hget := turn_getD key n bs k (by omega)
      rw [hy] at hget
      have HFIN := Lib.hid hfin
      have HGET := Lib.hid hget
      have HCP := Lib.hid hcp
      have HZ := Lib.hid hz
      have HL1 := Lib.hid hl1
      have HLL2 := Lib.hid hl2
      clear hfin hget hrow hrow2 hm9 hK9 hL1 hL2 hq hj hkb hz hy hcp hl1 hl2
      go_wp2_with fail
      refine (HN.out wo).mono ?_
      rintro e w2 ⟨v2, rfl, ho2, hb2⟩
      go_wp2_with fail
      refine (hQ.out w2 (by omega) (by omega)).mono ?_
      rintro e w3 ⟨v3, rfl, ho3, hb3⟩
      have ho2 := ho2.below hb3 (Nat.le_refl _)
      have hb3 := hb2.trans (hb3.mono hb2.size)
      have ho3 := ho3.cast HL2.out
      obtain ⟨A3, c3, rfl, p1, p2, p3⟩ := ho3.open_n 8 HLL2.out
      go_wp2_with (first | (at_builtin; refine wpList_append_rd (by rfl) (.tmp 21) (.tmp 25) 28 rfl wo.heap.size 5 i0 Try.underlying28 hi hz0 hz1 hz2 _ L1 rfl ho2 _ A3 8 c3 L2 rfl p3 (by rw [HL1.out]; omega) wo hb3 hb3.size ?_; intro v4 w4 ho4 hb4 hg4; obtain ⟨A4, c4, rfl, q1, q2, q3⟩ := ho4.open_n 16 (by rw [List.length_append, HL1.out, HLL2.out])) | (go_at_call 43; refine (HK.out w4 A4 c4 q3 q1 q2).mono ?_; rintro e w' ⟨rfl, rfl⟩) | fail)
      have hO4 := hO.below hb4 (Nat.le_refl _)
      have hB4 := hB.trans (hb4.mono hB.size)
      clear hO hB hb2 hb3 hb4 hg4 ho2 ho3 ho4 p3 q3
      have hO4 := hO4.drew
      have hB4 : Below w.heap.size w w4.drew := belowN hB4 1
      obtain ⟨Y, hY⟩ : ∃ x, w4.drew = x := ⟨_, rfl⟩
      rw [hY] at hO4 hB4
      obtain ⟨hcg, hgl, _, _⟩ := own_cell hO4 HCP.out k y HGET.out
      refine wp_region_held_drew (S := (fun _ => True)) (by kernel_rfl) (trivial) (fun hHeld => ?_)
      rw [hY]
      clear hY
      refine tkq 0 (some 28) (v := ?_) rfl (Or.inl ⟨by rfl, ?_⟩) (by assumption) ?_
      rotate_left
      · intro w hSw; (try dsimp only at hSw); go_simp; first | done | (with_reducible rfl)
      simp only [Act.put, List.setIfInBounds_toArray, List.set_cons_zero, List.set_cons_succ]
      refine tkq 1 (some 29) (v := ?_) rfl (Or.inl ⟨by rfl, ?_⟩) (by assumption) ?_
      rotate_left
      · intro w hSw; (try dsimp only at hSw); go_simp; first | done | (with_reducible rfl)
      simp only [Act.put, List.setIfInBounds_toArray, List.set_cons_zero, List.set_cons_succ]
      refine tkq 2 (some 30) (v := ?_) rfl (Or.inl ⟨by rfl, ?_⟩) (by assumption) ?_
      rotate_left
      · intro w hSw; (try dsimp only at hSw); go_simp; first | done | (with_reducible rfl)
      simp only [Act.put, List.setIfInBounds_toArray, List.set_cons_zero, List.set_cons_succ]
      refine tkq 3 (some 31) (v := ?_) rfl (Or.inl ⟨by rfl, ?_⟩) (by assumption) ?_
      rotate_left
      · intro w hSw; (try dsimp only at hSw); go_simp; first | done | (with_reducible rfl)
      simp only [Act.put, List.setIfInBounds_toArray, List.set_cons_zero, List.set_cons_succ]
      refine tkq 4 (some 32) (v := ?_) rfl (Or.inl ⟨by rfl, ?_⟩) (by assumption) ?_
      rotate_left
      · intro w hSw; (try dsimp only at hSw); go_simp; first | done | (with_reducible rfl)
      simp only [Act.put, List.setIfInBounds_toArray, List.set_cons_zero, List.set_cons_succ]
      refine tkq 6 (some 34) (v := ?_) rfl (Or.inl ⟨by rfl, ?_⟩) (by assumption) ?_
      rotate_left
      · intro w hSw; (try dsimp only at hSw); go_simp; first | done | (with_reducible rfl)
      simp only [Act.put, List.setIfInBounds_toArray, List.set_cons_zero, List.set_cons_succ]
      refine tkq 8 (some 36) (v := ?_) rfl (Or.inl ⟨by rfl, ?_⟩) (by assumption) ?_
      rotate_left
      · intro w hSw; (try dsimp only at hSw); go_simp; first | done | (with_reducible rfl)
      simp only [Act.put, List.setIfInBounds_toArray, List.set_cons_zero, List.set_cons_succ]
      refine tkq 9 (some 37) (v := ?_) rfl (Or.inl ⟨by rfl, ?_⟩) (by assumption) ?_
      rotate_left
      · intro w hSw; (try dsimp only at hSw); go_simp; first | done | (with_reducible rfl)
      simp only [Act.put, List.setIfInBounds_toArray, List.set_cons_zero, List.set_cons_succ]
      refine wpAnyH_ready (rs := [5, 7]) (by kernel_rfl) (by simp) ?_
      refine AllReadyH.cons rfl (fun K hK => ?_) (AllReadyH.cons rfl (fun K hK => ?_) (AllReadyH.nil))
      · go_simp
        go_wp2_with (fail)
        refine hK.out _ _ (trivial) (fun hHeld => ?_)
        clear hK K
        refine wpAnyH_ready (rs := [7]) (by kernel_rfl) (by simp) ?_
        refine AllReadyH.cons rfl (fun K hK => ?_) AllReadyH.nil
        go_simp
        go_wp2_with (go_at_call 78; refine (HF.out Y).mono ?_; rintro e W5 ⟨v5, rfl, ho5, hb5⟩; obtain ⟨A5, c5, rfl, r1, r2, hr5⟩ := ho5.open_n 8 rfl; obtain ⟨g5, off5, rfl, _, hcell5⟩ := hr5.2.2 (by omega); have hc5 := hcell5 j hj8; rw [HZ.out] at hc5; have hcg5 := cell_later hb5 hcg; clear hcell5 hr5 ho5; have hjc : j < c5 := (by omega))
        refine hK.out _ _ (trivial) (fun hHeld => ?_)
        clear hK K
        refine tkq 10 (some 38) (v := ?_) rfl (Or.inl ⟨by rfl, ?_⟩) (by assumption) ?_
        rotate_left
        · intro w hSw; (try dsimp only at hSw); go_simp; first | done | (with_reducible rfl)
        simp only [Act.put, List.setIfInBounds_toArray, List.set_cons_zero, List.set_cons_succ]
        refine wpAnyH_ready (rs := [11]) (by kernel_rfl) (by simp) ?_
        refine AllReadyH.cons rfl (fun K hK => ?_) AllReadyH.nil
        go_simp
        go_wp2_with (fail)
        refine hK.out _ _ (trivial) (fun hHeld => ?_)
        clear hK K
        refine tkq 12 (some 40) (v := ?_) rfl (Or.inl ⟨by rfl, ?_⟩) (by assumption) ?_
        rotate_left
        · intro w hSw; (try dsimp only at hSw); go_simp; first | done | (with_reducible rfl)
        simp only [Act.put, List.setIfInBounds_toArray, List.set_cons_zero, List.set_cons_succ]
        refine tkq 13 (some 41) (v := ?_) rfl (Or.inl ⟨by rfl, ?_⟩) (by assumption) ?_
        rotate_left
        · intro w hSw; (try dsimp only at hSw); go_simp; first | done | (with_reducible rfl)
        simp only [Act.put, List.setIfInBounds_toArray, List.set_cons_zero, List.set_cons_succ]
        refine wpAnyH_ready (rs := [14]) (by kernel_rfl) (by simp) ?_
        refine AllReadyH.cons rfl (fun K hK => ?_) AllReadyH.nil
        have hO5 := hO4.below hb5 (Nat.le_refl _)
        have hB5 := hB4.trans (hb5.mono hB4.size)
        obtain ⟨_, _, hbg6, hfz⟩ := own_cell hO5 HCP.out k y HGET.out
        have hS := own_set hO5 HCP.out (by omega) k (bits BinOp.xor IntKind.u8 y z) (u8_bits_bd _ _ _)
        have hBS := hB5.setCell (p := ⟨g, k, none⟩) hbg6 (.int .u8 (bits BinOp.xor IntKind.u8 y z))
        have HS := Lib.hid (And.intro (hS.cast HFIN.out) hBS)
        clear hS hBS hO5 hB5
        go_simp
        go_wp2_with (fail)
        refine hK.out _ _ (trivial) (fun hHeld => ?_)
        clear hK K
        refine wpAnyH_done (by kernel_rfl) ?_ _
        go_wp2_with fail
        go_roundw
        case rel => exact ⟨k + 1, by omega, by go_num, HS⟩
        case measure => simp [intOf]; omega
      · go_simp
        go_wp2_with (go_at_call 78; refine (HF.out Y).mono ?_; rintro e W5 ⟨v5, rfl, ho5, hb5⟩; obtain ⟨A5, c5, rfl, r1, r2, hr5⟩ := ho5.open_n 8 rfl; obtain ⟨g5, off5, rfl, _, hcell5⟩ := hr5.2.2 (by omega); have hc5 := hcell5 j hj8; rw [HZ.out] at hc5; have hcg5 := cell_later hb5 hcg; clear hcell5 hr5 ho5; have hjc : j < c5 := (by omega))
        refine hK.out _ _ (trivial) (fun hHeld => ?_)
        clear hK K
        refine tkq 10 (some 38) (v := ?_) rfl (Or.inl ⟨by rfl, ?_⟩) (by assumption) ?_
        rotate_left
        · intro w hSw; (try dsimp only at hSw); go_simp; first | done | (with_reducible rfl)
        simp only [Act.put, List.setIfInBounds_toArray, List.set_cons_zero, List.set_cons_succ]
        refine wpAnyH_ready (rs := [5, 11]) (by kernel_rfl) (by simp) ?_
        refine AllReadyH.cons rfl (fun K hK => ?_) (AllReadyH.cons rfl (fun K hK => ?_) (AllReadyH.nil))
        · go_simp
          go_wp2_with (fail)
          refine hK.out _ _ (trivial) (fun hHeld => ?_)
          clear hK K
          refine wpAnyH_ready (rs := [11]) (by kernel_rfl) (by simp) ?_
          refine AllReadyH.cons rfl (fun K hK => ?_) AllReadyH.nil
          go_simp
          go_wp2_with (fail)
          refine hK.out _ _ (trivial) (fun hHeld => ?_)
          clear hK K
          refine tkq 12 (some 40) (v := ?_) rfl (Or.inl ⟨by rfl, ?_⟩) (by assumption) ?_
          rotate_left
          · intro w hSw; (try dsimp only at hSw); go_simp; first | done | (with_reducible rfl)
          simp only [Act.put, List.setIfInBounds_toArray, List.set_cons_zero, List.set_cons_succ]
          refine tkq 13 (some 41) (v := ?_) rfl (Or.inl ⟨by rfl, ?_⟩) (by assumption) ?_
          rotate_left
          · intro w hSw; (try dsimp only at hSw); go_simp; first | done | (with_reducible rfl)
          simp only [Act.put, List.setIfInBounds_toArray, List.set_cons_zero, List.set_cons_succ]
          refine wpAnyH_ready (rs := [14]) (by kernel_rfl) (by simp) ?_
          refine AllReadyH.cons rfl (fun K hK => ?_) AllReadyH.nil
          have hO5 := hO4.below hb5 (Nat.le_refl _)
          have hB5 := hB4.trans (hb5.mono hB4.size)
          obtain ⟨_, _, hbg6, hfz⟩ := own_cell hO5 HCP.out k y HGET.out
          have hS := own_set hO5 HCP.out (by omega) k (bits BinOp.xor IntKind.u8 y z) (u8_bits_bd _ _ _)
          have hBS := hB5.setCell (p := ⟨g, k, none⟩) hbg6 (.int .u8 (bits BinOp.xor IntKind.u8 y z))
          have HS := Lib.hid (And.intro (hS.cast HFIN.out) hBS)
          clear hS hBS hO5 hB5
          go_simp
          go_wp2_with (fail)
          refine hK.out _ _ (trivial) (fun hHeld => ?_)
          clear hK K
          refine wpAnyH_done (by kernel_rfl) ?_ _
          go_wp2_with fail
          go_roundw
          case rel => exact ⟨k + 1, by omega, by go_num, HS⟩
          case measure => simp [intOf]; omega
        · go_simp
          go_wp2_with (fail)
          refine hK.out _ _ (trivial) (fun hHeld => ?_)
          clear hK K
          refine wpAnyH_ready (rs := [5]) (by kernel_rfl) (by simp) ?_
          refine AllReadyH.cons rfl (fun K hK => ?_) AllReadyH.nil
          go_simp
          go_wp2_with (fail)
          refine hK.out _ _ (trivial) (fun hHeld => ?_)
          clear hK K
          refine tkq 12 (some 40) (v := ?_) rfl (Or.inl ⟨by rfl, ?_⟩) (by assumption) ?_
          rotate_left
          · intro w hSw; (try dsimp only at hSw); go_simp; first | done | (with_reducible rfl)
          simp only [Act.put, List.setIfInBounds_toArray, List.set_cons_zero, List.set_cons_succ]
          refine tkq 13 (some 41) (v := ?_) rfl (Or.inl ⟨by rfl, ?_⟩) (by assumption) ?_
          rotate_left
          · intro w hSw; (try dsimp only at hSw); go_simp; first | done | (with_reducible rfl)
          simp only [Act.put, List.setIfInBounds_toArray, List.set_cons_zero, List.set_cons_succ]
          refine wpAnyH_ready (rs := [14]) (by kernel_rfl) (by simp) ?_
          refine AllReadyH.cons rfl (fun K hK => ?_) AllReadyH.nil
          have hO5 := hO4.below hb5 (Nat.le_refl _)
          have hB5 := hB4.trans (hb5.mono hB4.size)
          obtain ⟨_, _, hbg6, hfz⟩ := own_cell hO5 HCP.out k y HGET.out
          have hS := own_set hO5 HCP.out (by omega) k (bits BinOp.xor IntKind.u8 y z) (u8_bits_bd _ _ _)
          have hBS := hB5.setCell (p := ⟨g, k, none⟩) hbg6 (.int .u8 (bits BinOp.xor IntKind.u8 y z))
          have HS := Lib.hid (And.intro (hS.cast HFIN.out) hBS)
          clear hS hBS hO5 hB5
          go_simp
          go_wp2_with (fail)
          refine hK.out _ _ (trivial) (fun hHeld => ?_)
          clear hK K
          refine wpAnyH_done (by kernel_rfl) ?_ _
          go_wp2_with fail
          go_roundw
          case rel => exact ⟨k + 1, by omega, by go_num, HS⟩
          case measure => simp [intOf]; omega
    · obtain rfl : k = nn := by omega
      have hO := hO.cast (show _ = turnS key n bs by rw [List.take_of_length_le (by rw [turnS_len]; omega), List.drop_eq_nil_of_le (by omega), List.append_nil])
      go_wp2_with fail
      go_ret
      exact ⟨_, rfl, hO, hB⟩
end
section
set_option linter.unusedVariables false
set_option linter.unusedSimpArgs false
open Go.RowKit Go.ChangeShapes Go.WideShapes Go.Deep
set_option maxRecDepth 100000 in
set_option maxHeartbeats 4000000 in
theorem rtag_any (key n : Int) (Ah : Option Addr) (nh ch : Nat) (head : List Int) (Ab : Option Addr) (nb cb : Nat) (hid : List Int) (w : World) (hrh : Rd w w.heap.size Ah nh head) (hrb : Rd w w.heap.size Ab nb hid) (hh1 : nh ≤ ch) (hh2 : ch ≤ maxLen) (hb1' : nb ≤ cb) (hb2' : cb ≤ maxLen) (hln : nh + nb ≤ 140737488354000) (k0 : 0 ≤ key) (k1 : key < 18446744073709551616) (n0 : 0 ≤ n) (n1 : n < 18446744073709551616) :
    Calls Try.prog 47 #[.int .u64 key, .int .u64 n, .slice Ah nh ch, .slice Ab nb cb] w fun e w' => ∃ v, e = .returned v ∧ Own w' w.heap.size 5 v (tagS key n head hid).l ∧ Below w.heap.size w w' := by
  obtain ⟨i0, hi, hz0, hz1, hz2⟩ := info_parts u8_info
  have HP := Lib.hid (fun W => rbytes_any n W n0 n1)
  have HQ := Lib.hid (fun W => rbytes_any (nh : Int) W (by omega) (by omega))
  have hlh := hrh.1
  have hlb := hrb.1
  have hfin : tagS key n head hid = b8 (keyedS (tagKey key) ((((b8 n).l ++ (b8 (nh : Int)).l) ++ head) ++ hid)) := by unfold tagS; rw [b8_l, b8_l, hlh]
  have hl1 : ((b8 n).l).length = 8 := rfl
  have hl2 : ((b8 (nh : Int)).l).length = 8 := rfl
  obtain ⟨L1, hL1⟩ : ∃ x, (b8 n).l = x := ⟨_, rfl⟩
  obtain ⟨L2, hL2⟩ : ∃ x, (b8 (nh : Int)).l = x := ⟨_, rfl⟩
  rw [hL1] at HP hfin hl1
  rw [hL2] at HQ hfin hl2
  have hrl : (L1 ++ L2 ++ head ++ hid).length = 16 + nh + nb := by simp [hl1, hl2, hlh, hlb]; omega
  have hkb := keyedS_bd (tagKey key) (L1 ++ L2 ++ head ++ hid)
  have htk := keyedS_bd key [116, 97, 103]
  have HD := Lib.hid (fun W => (show Calls Try.prog 19 #[.int .u64 key, .string { data := #[116, 97, 103] }] W _ from rderive_any key [116, 97, 103] W (by intro x hx; simp at hx; omega) (by unfold maxLen; simp) k0 k1))
  have HK := Lib.hid (fun W A c (h : Rd W W.heap.size A (16 + nh + nb) (L1 ++ L2 ++ head ++ hid)) (h1 : 16 + nh + nb ≤ c) (h2 : c ≤ maxLen) => rkeyed_any (tagKey key) A (16 + nh + nb) c _ W W.heap.size h h1 h2 htk.1 htk.2)
  have HF := Lib.hid (fun W => rbytes_any (keyedS (tagKey key) (L1 ++ L2 ++ head ++ hid)) W hkb.1 hkb.2)
  rw [← hfin] at HF
  obtain ⟨K9, hK9⟩ : ∃ x, keyedS (tagKey key) (L1 ++ L2 ++ head ++ hid) = x := ⟨_, rfl⟩
  rw [hK9] at HF HK
  unfold tagKey at HK
  obtain ⟨KT, hKT⟩ : ∃ x, keyedS key [116, 97, 103] = x := ⟨_, rfl⟩
  rw [hKT] at HK HD
  have HRL := Lib.hid hrl
  have HL1 := Lib.hid hl1
  have HL2 := Lib.hid hl2
  have HLH := Lib.hid hlh
  have hh3 := hh2
  unfold maxLen at hh3
  clear hfin hkb hK9 htk hKT hrl hlh hlb hL1 hL2 hl1 hl2
  go_enter Try.func47, Try.ntmps47
  go_wp2_with fail
  refine (HP.out w).mono ?_
  rintro e w1 ⟨v1, rfl, ho1, hb1⟩
  go_wp2_with fail
  refine (HQ.out w1).mono ?_
  rintro e w2 ⟨v2, rfl, ho2, hb2⟩
  have ho1 := ho1.below hb2 (Nat.le_refl _)
  have hb2 := hb1.trans (hb2.mono hb1.size)
  obtain ⟨A2, c2, rfl, p1, p2, p3⟩ := ho2.open_n 8 HL2.out
  go_wp2_with (first | (at_builtin; refine wpList_append_rd (by rfl) (.tmp 11) (.tmp 15) 28 rfl w.heap.size 5 i0 Try.underlying28 hi hz0 hz1 hz2 _ L1 rfl ho1 _ A2 8 c2 L2 rfl p3 (by rw [HL1.out]; omega) w hb2 hb2.size ?_; intro v3 w3 ho3 hb3 hg3) | fail)
  clear ho1 ho2 p3 hb1 hb2 hg3
  refine (HD.out w3).mono ?_
  rintro e w4 ⟨rfl, hb4⟩
  have ho3 := ho3.below hb4 (Nat.le_refl _)
  have hb4 := hb3.trans (hb4.mono hb3.size)
  have hrh4 := hrh.below hb4
  go_wp2_with (first | (at_builtin; refine wpList_append_rd (by rfl) (.tmp 19) (.tmp 20) 28 rfl w.heap.size 5 i0 Try.underlying28 hi hz0 hz1 hz2 _ (L1 ++ L2) rfl ho3 _ Ah nh ch head rfl hrh4 (by rw [List.length_append, HL1.out, HL2.out]; omega) w hb4 hb4.size ?_; intro v5 w5 ho5 hb5 hg5; have hrb5 := hrb.below hb5) | (at_builtin; refine wpList_append_rd (by rfl) (.tmp 21) (.tmp 22) 28 rfl w.heap.size 5 i0 Try.underlying28 hi hz0 hz1 hz2 _ (L1 ++ L2 ++ head) rfl ho5 _ Ab nb cb hid rfl hrb5 (by rw [List.length_append, List.length_append, HL1.out, HL2.out, HLH.out]; omega) w hb5 hb5.size ?_; intro v6 w6 ho6 hb6 hg6; obtain ⟨A6, c6, rfl, q1, q2, q3⟩ := ho6.open_n (16 + nh + nb) HRL.out) | (go_at_call 43; refine (HK.out w6 A6 c6 q3 q1 q2).mono ?_; rintro e w' ⟨rfl, rfl⟩) | fail)
  refine (HF.out w6).mono ?_
  rintro e w7 ⟨v7, rfl, ho7, hb7⟩
  have ho7 := ho7.base_ hb6.size
  have hb7 := hb6.trans (hb7.mono hb6.size)
  go_wp2_with fail
  go_ret
  exact ⟨_, rfl, ho7, hb7⟩
set_option maxRecDepth 100000 in
set_option maxHeartbeats 2000000 in
theorem rseal_any (key n : Int) (Ah : Option Addr) (nh ch : Nat) (head : List Int) (Ab : Option Addr) (nb cb : Nat) (body : List Int) (w : World) (hrh : Rd w w.heap.size Ah nh head) (hrb : Rd w w.heap.size Ab nb body) (hh1 : nh ≤ ch) (hh2 : ch ≤ maxLen) (hb1' : nb ≤ cb) (hb2' : cb ≤ maxLen) (hln : nh + nb ≤ 140737488354000) (k0 : 0 ≤ key) (k1 : key < 18446744073709551616) (n0 : 0 ≤ n) (n1 : n < 18446744073709551616) :
    Calls Try.prog 23 #[.int .u64 key, .int .u64 n, .slice Ah nh ch, .slice Ab nb cb] w fun e w' => ∃ v, e = .returned v ∧ Own w' w.heap.size 5 v (sealS key n head body) ∧ Below w.heap.size w w' := by
  obtain ⟨i0, hi, hz0, hz1, hz2⟩ := info_parts u8_info
  have HT := rturned_any key n Ab nb cb body w hrb hb1' hb2' (by omega) k0 k1 n0 n1
  have hsl : (turnS key n body).length = nb := by rw [turnS_len]; exact hrb.1
  have hfin : sealS key n head body = turnS key n body ++ (tagS key n head (turnS key n body)).l := rfl
  obtain ⟨hd, hhd⟩ : ∃ x, turnS key n body = x := ⟨_, rfl⟩
  rw [hhd] at HT hsl hfin
  have HG := Lib.hid (fun W A c (h : Rd W W.heap.size Ah nh head) (h' : Rd W W.heap.size A nb hd) (hc : nb ≤ c) (hm : c ≤ maxLen) => rtag_any key n Ah nh ch head A nb c hd W h h' hh1 hh2 hc hm (by omega) k0 k1 n0 n1)
  obtain ⟨m9, hm9⟩ : ∃ x, tagS key n head hd = x := ⟨_, rfl⟩
  rw [hm9] at HG hfin
  rw [hfin]
  have HSL := Lib.hid hsl
  clear hhd hm9 hfin hsl
  go_enter Try.func23, Try.ntmps23
  go_wp2_with fail
  refine HT.mono ?_
  rintro e w1 ⟨v1, rfl, ho1, hb1⟩
  obtain ⟨A1, c1, rfl, s1, s2, s3⟩ := ho1.open_n nb HSL.out
  have hrh1 := (hrh.below hb1).more hb1.size
  go_wp2_with fail
  refine (HG.out w1 A1 c1 hrh1 s3 s1 s2).mono ?_
  rintro e w2 ⟨v2, rfl, ho2, hb2⟩
  have ho1 := ho1.below hb2 (Nat.le_refl _)
  have hb2 := hb1.trans (hb2.mono hb1.size)
  obtain ⟨A2, c2, rfl, p1, p2, p3⟩ := ho2.open_n 8 rfl
  clear ho2 s3 hrh1 hb1
  go_wp2_with (first | (at_builtin; refine wpList_append_rd (by rfl) (.tmp 14) (.tmp 19) 28 rfl w.heap.size 5 i0 Try.underlying28 hi hz0 hz1 hz2 _ hd rfl ho1 _ A2 8 c2 m9.l rfl p3 (by rw [HSL.out]; omega) w hb2 hb2.size ?_; intro v4 w4 ho4 hb4 hg4) | fail)
  go_ret
  exact ⟨_, rfl, ho4, hb4⟩
set_option maxRecDepth 100000 in
theorem rmask_any (key : Int) (A : Option Addr) (nn c : Nat) (bs : List Int) (w : World) (hr : Rd w w.heap.size A nn bs) (hn : nn ≤ c) (hc : c ≤ maxLen) (k0 : 0 ≤ key) (k1 : key < 18446744073709551616) :
    Calls Try.prog 48 #[.int .u64 key, .slice A nn c] w fun e w' => ∃ A' c', e = .returned (.slice A' 5 c') ∧ 5 ≤ c' ∧ c' ≤ maxLen ∧ Rd w' w'.heap.size A' 5 (maskS key bs) ∧ Below w.heap.size w w' := by
  have hkb := keyedS_bd key bs
  have HF := Lib.hid (fun W => rbytes_any (keyedS key bs) W hkb.1 hkb.2)
  have HK := Lib.hid (rkeyed_any key A nn c bs w _ hr hn hc k0 k1)
  unfold maskS
  obtain ⟨K9, hK9⟩ : ∃ x, keyedS key bs = x := ⟨_, rfl⟩
  rw [hK9] at HF HK ⊢
  clear hkb hK9
  go_enter Try.func48, Try.ntmps48
  go_wp2_with fail
  refine HK.out.mono ?_
  rintro e w' ⟨rfl, rfl⟩
  go_wp2_with fail
  refine (HF.out w).mono ?_
  rintro e w2 ⟨v2, rfl, ho2, hb2⟩
  obtain ⟨A2, c2, rfl, p1, p2, p3⟩ := ho2.open_n 8 rfl
  obtain ⟨g, off, rfl, _, _⟩ := p3.2.2 (by omega)
  have h5c : 5 ≤ c2 := by omega
  have h5I : (5 : Int) ≤ (c2 : Int) := by omega
  have p4 := p3.cut (m := 5) (by omega)
  have p5 := p2
  unfold maxLen at p5
  clear ho2 p3
  go_wp2_with fail
  go_ret
  exact ⟨_, _, rfl, h5c, p2, p4, hb2⟩
end
section
set_option linter.unusedVariables false
set_option linter.unusedSimpArgs false
open Go.RowKit Go.ChangeShapes Go.WideShapes Go.Deep
theorem nums_eqB (xs ys : List Int) (hx : Byt xs) (hy : Byt ys) : (strOfNums xs == strOfNums ys) = decide (xs = ys) := by
  by_cases e : xs = ys
  · subst e; rw [bb_refl]; simp
  · rw [str_ne xs ys hx hy e]; simp [e]
theorem n8B_l (m m' : N8) : n8B m m' = decide (m.l = m'.l) := by
  by_cases e : m.l = m'.l
  · rw [N8.ext_ e, n8B_refl]; simp
  · rw [decide_eq_false e]
    cases h : n8B m m'
    · rfl
    · exact absurd (by rw [(n8B_eq m m').1 h]) e
set_option maxRecDepth 100000 in
set_option maxHeartbeats 4000000 in
theorem ropen_any (key n : Int) (Ah : Option Addr) (nh ch : Nat) (head : List Int) (Ab : Option Addr) (nb cb : Nat) (sealed : List Int) (w : World) (hrh : Rd w w.heap.size Ah nh head) (hrb : Rd w w.heap.size Ab nb sealed) (hh1 : nh ≤ ch) (hh2 : ch ≤ maxLen) (hb1' : nb ≤ cb) (hb2' : cb ≤ maxLen) (hln : nh + nb ≤ 140737488354000) (k0 : 0 ≤ key) (k1 : key < 18446744073709551616) (n0 : 0 ≤ n) (n1 : n < 18446744073709551616) :
    Calls Try.prog 50 #[.int .u64 key, .int .u64 n, .slice Ah nh ch, .slice Ab nb cb] w (OpPost w key n head sealed) := by
  unfold OpPost
  have hh3 := hh2
  have hb3' := hb2'
  unfold maxLen at hh3 hb3'
  rcases Nat.lt_or_ge nb 8 with h8 | h8
  · obtain ⟨e1, e2⟩ := openB_short key n head sealed (by rw [hrb.1]; exact h8)
    rw [e1, e2]
    go_enter Try.func50, Try.ntmps50
    go_wp2_with fail
    refine bodyPost_ret (results_tmp2 rfl _ _ _) rfl ?_
    exact ⟨_, rfl, Own.none_ _ _ _, Below.refl _ _⟩
  · obtain ⟨d, rfl⟩ : ∃ d, nb = d + 8 := ⟨nb - 8, by omega⟩
    have hsl := hrb.1
    have hrt := hrb.cutTo (m := d) (by omega)
    have hrf := hrb.cutFrom (c := cb) (k := d) (by omega) hb1'
    obtain ⟨b, off, rfl, hbl, _⟩ := hrb.2.2 (by omega)
    have ecut : cutA (some ⟨b, off, none⟩) cb d = some ⟨b, off + d, none⟩ := by unfold cutA; rw [if_neg (by omega), Option.map_some, addr_add]
    rw [ecut, show d + 8 - d = 8 by omega] at hrf
    have hby : Byt (sealed.drop d) := hrf.2.1
    have hl8 : (sealed.drop d).length = 8 := hrf.1
    have hOB : openB key n head sealed = decide ((tagS key n head (sealed.take d)).l = sealed.drop d) := by
      unfold openB; rw [hsl, Nat.add_sub_cancel, decide_eq_true (by omega), Bool.true_and, n8B_l, N8.l_of _ hl8]
      simp only [eq_comm]
    have hOS : openS key n head sealed = if openB key n head sealed then turnS key n (sealed.take d) else [] := by unfold openS; rw [hsl, Nat.add_sub_cancel]
    rw [hOS]
    obtain ⟨hid, hhid⟩ : ∃ x, sealed.take d = x := ⟨_, rfl⟩
    rw [hhid] at hrt hOB
    rw [hhid]
    have HT := Lib.hid (fun W (h : Rd W W.heap.size (some ⟨b, off, none⟩) d hid) => rturned_any key n (some ⟨b, off, none⟩) d cb hid W h (by omega) hb2' (by omega) k0 k1 n0 n1)
    have HG := Lib.hid (fun W (h : Rd W W.heap.size Ah nh head) (h' : Rd W W.heap.size (some ⟨b, off, none⟩) d hid) => rtag_any key n Ah nh ch head (some ⟨b, off, none⟩) d cb hid W h h' hh1 hh2 (by omega) hb2' (by omega) k0 k1 n0 n1)
    have h9 := tagS_byt key n head hid
    obtain ⟨m9, hm9⟩ : ∃ x, tagS key n head hid = x := ⟨_, rfl⟩
    rw [hm9] at HG hOB h9
    rw [← nums_eqB _ _ h9 hby] at hOB
    obtain ⟨B, hB⟩ : ∃ x, openB key n head sealed = x := ⟨_, rfl⟩
    rw [hB] at hOB ⊢
    obtain ⟨dr, hdr⟩ : ∃ x, sealed.drop d = x := ⟨_, rfl⟩
    rw [hdr] at hOB hrf
    have htx : ∀ W : World, Rd W W.heap.size (some ⟨b, off + d, none⟩) 8 dr → (convert 28 9 (.slice (some ⟨b, off + d, none⟩) 8 (cb - d))).run Try.prog W = .ok (.string (strOfNums dr)) W := fun W h => run_text (P := Try.prog) (c := cb - d) h 28 5 9 Try.underlying28 Try.underlying5 Try.underlying9
    have htx2 : ∀ (W : World) A c, Rd W W.heap.size A 8 m9.l → (convert 28 9 (.slice A 8 c)).run Try.prog W = .ok (.string (strOfNums m9.l)) W := fun W A c h => run_text (P := Try.prog) (c := c) h 28 5 9 Try.underlying28 Try.underlying5 Try.underlying9
    obtain ⟨T1, hT1⟩ : ∃ x, strOfNums m9.l = x := ⟨_, rfl⟩
    obtain ⟨T2, hT2⟩ : ∃ x, strOfNums dr = x := ⟨_, rfl⟩
    rw [hT1] at hOB htx2
    rw [hT2] at hOB htx
    have HTX := Lib.hid htx
    have HTX2 := Lib.hid htx2
    have HRH := Lib.hid hrh
    have HRT := Lib.hid hrt
    have HRF := Lib.hid hrf
    have HOB := Lib.hid hOB.symm
    have hdi : (d : Int) ≤ (d : Int) + 8 := by omega
    have hcd : ¬ cb = d := by omega
    have hb0 := Below.refl w.heap.size w
    have hcc : d ≤ cb := by omega
    clear hm9 hB hdr hT1 hT2 htx htx2 hrh hrt hrf hrb hOB hOS hsl hby hl8 ecut h9 hhid
    go_enter Try.func50, Try.ntmps50
    go_wp2_with fail
    have hb0 : Below w.heap.size w w.drew := belowN hb0 1
    obtain ⟨Y, hY⟩ : ∃ x, w.drew = x := ⟨_, rfl⟩
    rw [hY] at hb0
    refine wp_region_held_drew (S := (fun W => (convert 28 9 (.slice (some ⟨b, off + d, none⟩) 8 (cb - d))).run Try.prog W = .ok (.string T2) W)) (by kernel_rfl) (by rw [hY]; exact HTX.out Y ((HRF.out.below hb0).more hb0.size)) (fun hHeld => ?_)
    rw [hY] at hHeld ⊢
    clear hY
    refine tkq 0 (some 19) (v := ?_) rfl (Or.inl ⟨by rfl, ?_⟩) (by assumption) ?_
    rotate_left
    · intro w hSw; (try dsimp only at hSw); go_simp; first | done | (with_reducible rfl)
    simp only [Act.put, List.setIfInBounds_toArray, List.set_cons_zero, List.set_cons_succ]
    refine tkq 1 (some 20) (v := ?_) rfl (Or.inl ⟨by rfl, ?_⟩) (by assumption) ?_
    rotate_left
    · intro w hSw; (try dsimp only at hSw); go_simp; first | done | (with_reducible rfl)
    simp only [Act.put, List.setIfInBounds_toArray, List.set_cons_zero, List.set_cons_succ]
    refine tkq 2 (some 21) (v := ?_) rfl (Or.inl ⟨by rfl, ?_⟩) (by assumption) ?_
    rotate_left
    · intro w hSw; (try dsimp only at hSw); go_simp; first | done | (with_reducible rfl)
    simp only [Act.put, List.setIfInBounds_toArray, List.set_cons_zero, List.set_cons_succ]
    refine tkq 3 (some 22) (v := ?_) rfl (Or.inl ⟨by rfl, ?_⟩) (by assumption) ?_
    rotate_left
    · intro w hSw; (try dsimp only at hSw); go_simp; first | done | (with_reducible rfl)
    simp only [Act.put, List.setIfInBounds_toArray, List.set_cons_zero, List.set_cons_succ]
    refine tkq 6 (some 25) (v := ?_) rfl (Or.inl ⟨by rfl, ?_⟩) (by assumption) ?_
    rotate_left
    · intro w hSw; (try dsimp only at hSw); go_simp; first | done | (with_reducible rfl)
    simp only [Act.put, List.setIfInBounds_toArray, List.set_cons_zero, List.set_cons_succ]
    refine tkq 7 (some 26) (v := ?_) rfl (Or.inl ⟨by rfl, ?_⟩) (by assumption) ?_
    rotate_left
    · intro w hSw; (try dsimp only at hSw); go_simp; first | done | (with_reducible rfl)
    simp only [Act.put, List.setIfInBounds_toArray, List.set_cons_zero, List.set_cons_succ]
    refine tkq 8 (some 27) (v := ?_) rfl (Or.inl ⟨by rfl, ?_⟩) (by assumption) ?_
    rotate_left
    · intro w hSw; (try dsimp only at hSw); go_simp; first | done | (with_reducible rfl)
    simp only [Act.put, List.setIfInBounds_toArray, List.set_cons_zero, List.set_cons_succ]
    refine tkq 9 (some 28) (v := ?_) rfl (Or.inl ⟨by rfl, ?_⟩) (by assumption) ?_
    rotate_left
    · intro w hSw; (try dsimp only at hSw); go_simp; first | done | (with_reducible rfl)
    simp only [Act.put, List.setIfInBounds_toArray, List.set_cons_zero, List.set_cons_succ]
    refine tkq 10 (some 29) (v := .string T2) rfl (Or.inl ⟨by rfl, ?_⟩) (by assumption) ?_
    · intro w hSw; (try dsimp only at hSw); go_simp
    simp only [Act.put, List.setIfInBounds_toArray, List.set_cons_zero, List.set_cons_succ]
    refine wpAnyH_ready (rs := [4]) (by kernel_rfl) (by simp) ?_
    refine AllReadyH.cons rfl (fun K hK => ?_) AllReadyH.nil
    go_simp
    go_wp2_with (go_at_call 47; refine (HG.out _ ((HRH.out.below hb0).more hb0.size) ((HRT.out.below hb0).more hb0.size)).mono ?_; rintro e W2 ⟨v2, rfl, ho2, hb2⟩; obtain ⟨A2, c2, rfl, p1, p2, p3⟩ := ho2.open_n 8 rfl; have hcv := HTX2.out W2 A2 c2 p3; have hb2 := hb0.trans (hb2.mono hb0.size))
    refine hK.out _ _ (HTX.out W2 ((HRF.out.below hb2).more hb2.size)) (fun hHeld => ?_)
    clear hK K
    refine wpAnyH_ready (rs := [5]) (by kernel_rfl) (by simp) ?_
    refine AllReadyH.cons rfl (fun K hK => ?_) AllReadyH.nil
    go_simp
    go_wp2_with (fail)
    refine hK.out _ _ (HTX.out W2 ((HRF.out.below hb2).more hb2.size)) (fun hHeld => ?_)
    clear hK K
    refine tkq 11 (some 30) (v := .bool (!B)) rfl (Or.inl ⟨by rfl, ?_⟩) (by assumption) ?_
    · intro w hSw; (try dsimp only at hSw); rw [← HOB.out]; go_simp; exact (beq_toListBytes T1 T2).symm
    simp only [Act.put, List.setIfInBounds_toArray, List.set_cons_zero, List.set_cons_succ]
    refine wpAnyH_done (by kernel_rfl) ?_ _
    cases B
    · go_wp2_with fail
      refine bodyPost_ret (results_tmp2 rfl _ _ _) rfl ?_
      exact ⟨_, rfl, Own.none_ _ _ _, hb2⟩
    · go_wp2_with fail
      refine (HT.out W2 ((HRT.out.below hb2).more hb2.size)).mono ?_
      rintro e W5 ⟨v5, rfl, ho5, hb5⟩
      have ho5 := ho5.base_ hb2.size
      have hb5 := hb2.trans (hb5.mono hb2.size)
      go_wp2_with fail
      refine bodyPost_ret (results_tmp2 rfl _ _ _) rfl ?_
      exact ⟨_, rfl, ho5, hb5⟩
end
section
set_option linter.unusedVariables false
open Go.RowKit
/-- A head's numbers: space, to, from, width, phase. -/
structure HN where
  s : Int
  t : N8
  f : N8
  w : Int
  ph : Bool
def HN.zero : HN := ⟨0, .zero, .zero, 0, false⟩
def hdL (m : HN) (d : Sl) : List Value := [.int .i64 m.s, .int .u8 m.t.a0, .int .u8 m.t.a1, .int .u8 m.t.a2, .int .u8 m.t.a3, .int .u8 m.t.a4, .int .u8 m.t.a5, .int .u8 m.t.a6, .int .u8 m.t.a7,
  .int .u8 m.f.a0, .int .u8 m.f.a1, .int .u8 m.f.a2, .int .u8 m.f.a3, .int .u8 m.f.a4, .int .u8 m.f.a5, .int .u8 m.f.a6, .int .u8 m.f.a7, .slice d.A d.n d.c, .int .i64 m.w, .bool m.ph]
def hdV (m : HN) (d : Sl) : Value := .agg (hdL m d).toArray
structure HN.wf (m : HN) : Prop where
  s0 : -9223372036854775808 ≤ m.s
  s1 : m.s ≤ 9223372036854775807
  w0 : -9223372036854775808 ≤ m.w
  w1 : m.w ≤ 9223372036854775807
  tb : Byt m.t.l
  fb : Byt m.f.l
theorem hdL_len (m : HN) (d : Sl) : (hdL m d).length = 20 := rfl
/-- A name in a head's block reads as its bytes. -/
theorem to_rd (m : HN) (d : Sl) {w : World} {g : Nat} (h : At w g 30 (hdL m d)) (hc : Byt m.t.l) : Rd w w.heap.size (some ⟨g, 1, none⟩) 8 m.t.l := by
  refine ⟨rfl, hc, fun _ => ⟨g, 1, rfl, h.lt, fun i hi => ?_⟩⟩
  rw [h.cell]
  have : i = 0 ∨ i = 1 ∨ i = 2 ∨ i = 3 ∨ i = 4 ∨ i = 5 ∨ i = 6 ∨ i = 7 := by omega
  rcases this with rfl | rfl | rfl | rfl | rfl | rfl | rfl | rfl <;> rfl
theorem from_rd (m : HN) (d : Sl) {w : World} {g : Nat} (h : At w g 30 (hdL m d)) (hc : Byt m.f.l) : Rd w w.heap.size (some ⟨g, 9, none⟩) 8 m.f.l := by
  refine ⟨rfl, hc, fun _ => ⟨g, 9, rfl, h.lt, fun i hi => ?_⟩⟩
  rw [h.cell]
  have : i = 0 ∨ i = 1 ∨ i = 2 ∨ i = 3 ∨ i = 4 ∨ i = 5 ∨ i = 6 ∨ i = 7 := by omega
  rcases this with rfl | rfl | rfl | rfl | rfl | rfl | rfl | rfl <;> rfl
section
variable {ops : Array Oper} {rest : List Oper} {a : Act} {w : World} {Q : Exit → Act → World → Prop} {dst : Option Tmp} {x y : Operand} {t : TypeId} {pos : String} {after : Array Edge}
theorem ld_hd (p : Nat) (l : List Value) (hx : a.eval x = .pointer (some ⟨p, 0, none⟩)) (hA : At w p 30 l) (hl : l.length = 20)
    (h : wpList Try.prog ops Q rest (a.put dst (.agg l.toArray)) w) : wpList Try.prog ops Q (⟨dst, .load 30 x, t, pos, after, none⟩ :: rest) a w :=
  wpList_load_at p _ l _ hx hA Try.underlying30 rfl (by rw [hl]; kernel_rfl) h
theorem st_hd (p : Nat) (l l' : List Value) (hx : a.eval x = .pointer (some ⟨p, 0, none⟩)) (hy : a.eval y = .agg l'.toArray) (hA : At w p 30 l) (hl : l.length = 20) (hl' : l'.length = 20)
    (h1 : l'.all (·.oneCell') = true) (h : ∀ w', At w' p 30 l' → Kept (· = p) w w' → wpList Try.prog ops Q rest (a.put dst undef) w') :
    wpList Try.prog ops Q (⟨dst, .store 30 x y, t, pos, after, none⟩ :: rest) a w :=
  wpList_store_at p _ l l' hx hy hA (hl.trans hl'.symm) (by rw [hl']; kernel_rfl) h1 h
theorem at_ldh {g : Option (Nat × Bool)} (h : wpList Try.prog ops Q (⟨dst, .load 30 x, t, pos, after, g⟩ :: rest) a w) : wpList Try.prog ops Q (⟨dst, .load 30 x, t, pos, after, g⟩ :: rest) a w := h
theorem at_sth {g : Option (Nat × Bool)} (h : wpList Try.prog ops Q (⟨dst, .store 30 x y, t, pos, after, g⟩ :: rest) a w) : wpList Try.prog ops Q (⟨dst, .store 30 x y, t, pos, after, g⟩ :: rest) a w := h
end
/-- A head's value reads so. -/
structure HFits (w : World) (P : Nat → Prop) (m : HN) (d : Sl) (ds : List Int) : Prop where
  wf : m.wf
  dt : InD w P d ds
theorem HFits.kept {S P : Nat → Prop} {w w' : World} {m : HN} {d : Sl} {ds : List Int} (h : HFits w P m d ds) (k : Kept S w w') (hs : ∀ b, P b → ¬ S b) : HFits w' P m d ds := ⟨h.wf, h.dt.kept k hs⟩
theorem HFits.below {P : Nat → Prop} {w w' : World} {m : HN} {d : Sl} {ds : List Int} (h : HFits w P m d ds) (k : Below w.heap.size w w') : HFits w' P m d ds := h.kept (Kept.of_below k (fun _ => False)) (fun _ _ h => h)
theorem HFits.mono {P P' : Nat → Prop} {w : World} {m : HN} {d : Sl} {ds : List Int} (h : HFits w P m d ds) (hp : ∀ b, b < w.heap.size → P b → P' b) : HFits w P' m d ds := ⟨h.wf, h.dt.mono hp⟩
/-- May it be written? -/
def hrightB (m : HN) (n : Nat) : Bool := decide (0 ≤ m.s ∧ m.s ≤ 2 ∧ 1 ≤ m.w ∧ m.w ≤ 4 ∧ n ≤ 32 ∧ (m.s = 0 ∨ n = 0) ∧ (m.s = 2 ∨ m.ph = false) ∧ (m.s = 2 → m.f = .zero))
end
section
theorem hd_info : (Try.prog.info? 30).map (·.size) = some 20 := by kernel_rfl
end
end Go.Proofs.Ytehdilgnlhhjdaa
