/-
  packet.maskOf, packet.appendNumber, packet.numberOf.
-/
import Derived.Test.YtehdilgnlhhjdaaJa
namespace Go.Proofs.Ytehdilgnlhhjdaa
set_option linter.unusedVariables false
set_option linter.unusedSimpArgs false
open Go.RowKit Go.ChangeShapes Go.WideShapes Go.Deep
def kL (sk mk : Int) : List Value := [.int .u64 sk, .int .u64 mk]
theorem splice_all8 (s : List Int) (h : s.length = 8) : splice z8L 0 (s.map (Value.int .u8)) = s.map (Value.int .u8) := by
  match s, h with
  | [a, b, c, d, e, f, g, i], _ => rfl
set_option maxRecDepth 100000 in
set_option maxHeartbeats 4000000 in
theorem maskof_any (sk mk : Int) (A : Option Addr) (nn c a : Nat) (bs : List Int) (w : World) (hr : Rd w w.heap.size A nn bs) (hn : nn ≤ c) (hc : c ≤ maxLen) (ha : a + 12 ≤ nn) (k0 : 0 ≤ mk) (k1 : mk < 18446744073709551616) :
    Calls Try.prog 37 #[.agg (kL sk mk).toArray, .slice A nn c, .int .i64 a] w fun e w' => e = .returned (.agg ((maskS mk (samS bs a)).map (Value.int .u8)).toArray) ∧ Below w.heap.size w w' := by
  have hc3 := hc
  unfold maxLen at hc3
  have hrf := hr.cutFrom (k := a + 4) (by omega) hn
  have hby := samS_byt bs a hr.2.1
  have hsl := samS_len bs a (by rw [hr.1]; exact ha)
  have hss : samS bs a = (bs.drop (a + 4)).take 8 := rfl
  obtain ⟨b, off, rfl, hbl, _⟩ := hr.2.2 (by omega)
  obtain ⟨d, hd⟩ : ∃ d, a + 4 = d := ⟨_, rfl⟩
  rw [hd] at hrf hss
  have hdI : (a : Int) + 4 = (d : Int) := by omega
  have ecut : cutA (some ⟨b, off, none⟩) c d = some ⟨b, off + d, none⟩ := by unfold cutA; rw [if_neg (by omega), Option.map_some, addr_add]
  rw [ecut] at hrf
  obtain ⟨s, hs⟩ : ∃ s, samS bs a = s := ⟨_, rfl⟩
  rw [hs] at hby hsl hss ⊢
  have hml : (N8.of s).l = s := N8.l_of _ hsl
  obtain ⟨m, hm⟩ : ∃ x, N8.of s = x := ⟨_, rfl⟩
  rw [hm] at hml
  have hmb : Byt m.l := by rw [hml]; exact hby
  have HM := Lib.hid (fun W => mask_any mk m W hmb k0 k1)
  rw [← hml]
  have hms : (maskS mk m.l).length = 5 := rfl
  obtain ⟨M5, hM5⟩ : ∃ x, maskS mk m.l = x := ⟨_, rfl⟩
  rw [hM5] at HM hms ⊢
  have hb0 : Below w.heap.size w (w.alloc (.cells (kL sk mk).toArray 40)) := (Below.refl _ _).alloc (Nat.le_refl _) _
  have hK0 : At (w.alloc (.cells (kL sk mk).toArray 40)) w.heap.size 40 (kL sk mk) := At.new w 40 _
  have hr0 := (hrf.below hb0)
  unfold kL at hb0 hK0 hr0 ⊢
  obtain ⟨w0, hw0⟩ : ∃ x, w.alloc (.cells [.int .u64 sk, .int .u64 mk].toArray 40) = x := ⟨_, rfl⟩
  rw [hw0] at hb0 hK0 hr0
  have hA1 : At (w0.alloc (.cells #[.int .u8 0, .int .u8 0, .int .u8 0, .int .u8 0, .int .u8 0] 77)) w0.heap.size 77 z5L := At.new w0 77 _
  have hA2 : At ((w0.alloc (.cells #[.int .u8 0, .int .u8 0, .int .u8 0, .int .u8 0, .int .u8 0] 77)).alloc (.cells #[.int .u8 0, .int .u8 0, .int .u8 0, .int .u8 0, .int .u8 0, .int .u8 0, .int .u8 0, .int .u8 0] 26)) (w0.heap.size + 1) 26 z8L := At.new_ 26 z8L _ (by simp)
  have hA1 := hA1.alloc (.cells #[.int .u8 0, .int .u8 0, .int .u8 0, .int .u8 0, .int .u8 0, .int .u8 0, .int .u8 0, .int .u8 0] 26)
  have hK1 := (hK0.alloc (.cells #[.int .u8 0, .int .u8 0, .int .u8 0, .int .u8 0, .int .u8 0] 77)).alloc (.cells #[.int .u8 0, .int .u8 0, .int .u8 0, .int .u8 0, .int .u8 0, .int .u8 0, .int .u8 0, .int .u8 0] 26)
  have hle0 := hb0.size
  have hb1 := (hb0.alloc hb0.size (.cells #[.int .u8 0, .int .u8 0, .int .u8 0, .int .u8 0, .int .u8 0] 77)).alloc (by simp; omega) (.cells #[.int .u8 0, .int .u8 0, .int .u8 0, .int .u8 0, .int .u8 0, .int .u8 0, .int .u8 0, .int .u8 0] 26)
  have hlt := hK0.lt
  obtain ⟨g2, hg2⟩ : ∃ g, w0.heap.size + 1 = g := ⟨_, rfl⟩
  rw [hg2] at hA2
  obtain ⟨w1, hw1⟩ : ∃ x, (w0.alloc (.cells #[.int .u8 0, .int .u8 0, .int .u8 0, .int .u8 0, .int .u8 0] 77)).alloc (.cells #[.int .u8 0, .int .u8 0, .int .u8 0, .int .u8 0, .int .u8 0, .int .u8 0, .int .u8 0, .int .u8 0] 26) = x := ⟨_, rfl⟩
  rw [hw1] at hA1 hA2 hK1 hb1
  have hlt1 := hA1.lt
  have hlt2 := hA2.lt
  have hr1 := (hrf.below hb1)
  have HMS := Lib.hid hms
  have HML := Lib.hid hml
  have HSS := Lib.hid hss
  have HSL := Lib.hid hsl
  have HR1 := Lib.hid hr1
  have HW0 := Lib.hid hw0
  have hw0s : w0.heap.size = w.heap.size + 1 := by rw [← hw0]; simp
  rw [hw0s] at hA1 hlt1 hg2
  have HA := Lib.hid (And.intro hA1 (And.intro hA2 (And.intro hK1 hb1)))
  have hp : IntKind.i64.wrap ((a : Int) + 4) = (d : Int) := by rw [hdI]; exact IntWalk.i64_in _ (by omega)
  have hdc : d ≤ c := by omega
  have hdn : (d : Int) ≤ (nn : Int) := by omega
  have hdn2 : d ≤ nn := by omega
  have hdn8 : d + 8 ≤ nn := by omega
  have hcd : ¬ c = d := by omega
  clear hM5 hms hm hs hss hsl hml hby hr hrf hr0 hr1 hd hA1 hA2 hK1 hb1 hdI ecut hK0 hb0 hmb
  go_enter Try.func37, Try.ntmps37
  go_wp2_with fail
  obtain ⟨hA1, hA2, hK1, hb1⟩ := HA.out
  have hA1 := hA1.drew
  have hA2 := hA2.drew
  have hK1 := hK1.drew
  have hb1 : Below w.heap.size w w1.drew := belowN hb1 1
  have hr1 := HR1.out.drew
  have hlt1 := hA1.lt
  have hlt2 := hA2.lt
  obtain ⟨Y, hY⟩ : ∃ x, w1.drew = x := ⟨_, rfl⟩
  rw [hY] at hA1 hA2 hK1 hb1 hr1 hlt1 hlt2
  refine wp_region_held_drew (S := (fun _ => True)) (by kernel_rfl) (trivial) (fun hHeld => ?_)
  rw [hY]
  clear hY
  refine tkq 0 (some 8) (v := ?_) rfl (Or.inl ⟨by rfl, ?_⟩) (by assumption) ?_
  rotate_left
  · intro w hSw; (try dsimp only at hSw); go_simp; first | done | (with_reducible rfl)
  simp only [Act.put, List.setIfInBounds_toArray, List.set_cons_zero, List.set_cons_succ]
  refine tkq 1 (some 9) (v := ?_) rfl (Or.inl ⟨by rfl, ?_⟩) (by assumption) ?_
  rotate_left
  · intro w hSw; (try dsimp only at hSw); go_simp; first | done | (with_reducible rfl)
  simp only [Act.put, List.setIfInBounds_toArray, List.set_cons_zero, List.set_cons_succ]
  refine tkq 2 (some 10) (v := ?_) rfl (Or.inl ⟨by rfl, ?_⟩) (by assumption) ?_
  rotate_left
  · intro w hSw; (try dsimp only at hSw); go_simp; first | done | (with_reducible rfl)
  simp only [Act.put, List.setIfInBounds_toArray, List.set_cons_zero, List.set_cons_succ]
  refine tkq 3 (some 11) (v := ?_) rfl (Or.inl ⟨by rfl, ?_⟩) (by assumption) ?_
  rotate_left
  · intro w hSw; (try dsimp only at hSw); go_simp; first | done | (with_reducible rfl)
  simp only [Act.put, List.setIfInBounds_toArray, List.set_cons_zero, List.set_cons_succ]
  refine tkq 4 (some 12) (v := ?_) rfl (Or.inl ⟨by rfl, ?_⟩) (by assumption) ?_
  rotate_left
  · intro w hSw; (try dsimp only at hSw); go_simp; first | done | (with_reducible rfl)
  simp only [Act.put, List.setIfInBounds_toArray, List.set_cons_zero, List.set_cons_succ]
  refine wpAnyH_ready (rs := [5]) (by kernel_rfl) (by simp) ?_
  refine AllReadyH.cons rfl (fun K hK => ?_) AllReadyH.nil
  refine step_copy_splice rfl (.tmp 8) (.tmp 12) 28 28 rfl 5 Try.underlying28 (by kernel_rfl) _ _ 8 8 (nn - d) (c - d) (by rfl) (by rfl) g2 0 z8L 26 hA2 (s.map (Value.int .u8)) (by rw [List.length_map, HSL.out]; show 8 = min (nn - d) 8; omega) (fun _ => ⟨rfl, _, rfl, ?_⟩) (by rw [List.length_map, HSL.out]; decide) (oneCell_u8 _) g2 Y (Below.refl _ _) (Nat.le_refl _) ?_
  · intro j v hj
    obtain ⟨ad, e1, hcc⟩ := hr1.cells (by omega)
    obtain rfl : ad = ⟨b, off + d, none⟩ := by injection e1 with e1; exact e1.symm
    refine hcc j v ?_
    rw [HSS.out, List.map_take] at hj
    rw [List.getElem?_take] at hj
    split at hj
    · exact hj
    · cases hj
  intro W4 hA4 hb4
  have hA4 : At W4 g2 26 (m.l.map (Value.int .u8)) := by rw [HML.out]; have := hA4.out; rw [splice_all8 _ HSL.out] at this; exact this
  have hA5 := hA1.below hb4 (by omega)
  have hK4 := hK1.below hb4 (by omega)
  have hb6 := hb1.trans (hb4.mono (by omega))
  refine hK.out _ _ (trivial) (fun hHeld => ?_)
  clear hK K
  refine wpAnyH_done (by kernel_rfl) ?_ _
  clear hA1 hA2 hK1 hb1 hr1 HR1 HA
  have hle4 := hb6.size
  have hmk := (show W4.cell? ⟨w.heap.size, 1, none⟩ = some (.int .u64 mk) by rw [hK4.cell 1]; rfl)
  go_wp2_with (first | ((with_reducible refine at_ld8 ?_); refine ld_8g (by rfl) g2 0 m (by rfl) hA4.rangeAt ?_) | fail)
  refine (HM.out W4).mono ?_
  rintro e W5 ⟨rfl, hb5⟩
  have hA5 := hA5.below hb5 hA5.lt
  have hb6 := hb6.trans (hb5.mono hle4)
  have hl5 := HMS.out
  go_wp2_with (first | ((with_reducible refine at_st5 ?_); refine wpList_store_at (w.heap.size + 1) 77 z5L (M5.map (Value.int .u8)) (by rfl) (by rfl) hA5 (by rw [List.length_map, HMS.out]; rfl) (by rw [List.length_map, HMS.out]; exact a5_info) (List.all_eq_true.2 (oneCell_u8 _)) ?_; intro w9 hA9 hk9) | fail)
  refine bodyPost_ret (results_cell 6 77 (by rfl) _ 77 _ _ (by rfl) hA9 Try.underlying77 rfl (by rw [List.length_map, HMS.out]; exact a5_info)) rfl ?_
  exact ⟨rfl, hk9.below hb6 hb6.size (by intro j hj; subst hj; omega)⟩
set_option maxRecDepth 100000 in
set_option maxHeartbeats 4000000 in
theorem appendnum_any (base wd : Nat) (v : Value) (bs : List Int) (low : Int) (w : World) (ho : Own w base 5 v bs) (hl : bs.length ≤ 1000000) (hwd : wd ≤ 4) (l0 : 0 ≤ low) (l1 : low < 4294967296) (hbase : base ≤ w.heap.size) :
    Calls Try.prog 33 #[v, .int .u32 low, .int .i64 wd] w fun e w' => ∃ v', e = .returned v' ∧ Own w' base 5 v' (bs ++ beS wd low) ∧ Below base w w' := by
  obtain ⟨i0, hi, hz0, hz1, hz2⟩ := info_parts u8_info
  obtain ⟨A0, n0, hv, hn0, hc0, _⟩ := ho.open_
  have HI := Lib.hid (show Own w base 5 v (bs ++ (beS wd low).take 0) ∧ Below base w w from ⟨ho.cast (by rw [List.take_zero, List.append_nil]), Below.refl _ _⟩)
  clear ho hv
  go_enter Try.func33, Try.ntmps33
  go_wp2_with fail
  go_loopw [0, 7] (fun b i wr => ∃ k : Nat, k ≤ wd ∧ i = .int .i64 ((wd : Int) - 1 - (k : Int)) ∧ Hid (Own wr base 5 b (bs ++ (beS wd low).take k) ∧ Below base w wr)) (fun _ i _ => (intOf i + 1).toNat)
  case atStart => exact ⟨0, Nat.zero_le _, by simp, HI⟩
  case round =>
    obtain ⟨k, hk, rfl, hst⟩ := hrel
    obtain ⟨wo, rfl⟩ : ∃ wo : World, wo = wr := ⟨_, rfl⟩
    have hO := hst.out.1
    have hB := hst.out.2
    clear hst HI
    by_cases hlt : k < wd
    · obtain ⟨q, hq⟩ : ∃ q : Nat, wd - 1 - k = q := ⟨_, rfl⟩
      have hqI : (wd : Int) - 1 - (k : Int) = (q : Int) := by omega
      rw [hqI]
      have hq4 : q < 4 := by omega
      have hbt := beS_take wd low k hlt
      have hbb := byteS_bd wd low k
      have hbv : low / 2 ^ (8 * q) % 256 = byteS wd low k := by unfold byteS; rw [hq]
      obtain ⟨y, hy⟩ : ∃ y, byteS wd low k = y := ⟨_, rfl⟩
      rw [hy] at hbt hbb hbv
      have HBT := Lib.hid hbt
      have HBV := Lib.hid hbv
      have hlen : (bs ++ (beS wd low).take k).length ≤ 1000004 := by rw [List.length_append, List.length_take, beS_len]; omega
      have HLE := Lib.hid hlen
      clear hbt hy hlen
      have hbas : base ≤ wo.heap.size := by have := hB.size; omega
      have h4 : q = 0 ∨ q = 1 ∨ q = 2 ∨ q = 3 := by omega
      have hnx : (wd : Int) - 1 - ((k + 1 : Nat) : Int) = (q : Int) - 1 := by omega
      rcases h4 with rfl | rfl | rfl | rfl
      · have hY : low % 256 = y := by have h := HBV.out; simp at h; omega
        have hO1 := hO.alloc (.cells #[.int .u8 (low % 256)] 5)
        have hB1 := hB.alloc hbas (.cells #[.int .u8 (low % 256)] 5)
        have hR1 := Rd.byte wo 5 _ rfl (low % 256) (by omega)
        have HY := Lib.hid hY
        clear hY
        go_wp2_with (first | (at_builtin; refine wpList_append_rd (by rfl) (.tmp 14) (.tmp 20) 28 rfl base 5 i0 Try.underlying28 hi hz0 hz1 hz2 _ _ (by rfl) hO1 _ _ 1 1 [low % 256] (by rfl) hR1 (by have := HLE.out; omega) w hB1 (by simp; omega) ?_; intro v2 w2 ho2 hb2 hg2) | fail)
        have HF := Lib.hid (And.intro (ho2.cast (show _ = bs ++ (beS wd low).take (k + 1) by rw [HY.out, HBT.out, List.append_assoc])) hb2)
        clear hO1 hB1 hR1 ho2 hb2 hg2
        go_wp2_with fail
        go_roundw
        case rel => exact ⟨k + 1, by omega, by rw [hnx]; rfl, HF⟩
        case measure => simp [intOf]
      · have hY : low / 256 % 256 = y := by have h := HBV.out; simp at h; omega
        have hO1 := hO.alloc (.cells #[.int .u8 (low / 256 % 256)] 5)
        have hB1 := hB.alloc hbas (.cells #[.int .u8 (low / 256 % 256)] 5)
        have hR1 := Rd.byte wo 5 _ rfl (low / 256 % 256) (by omega)
        have HY := Lib.hid hY
        clear hY
        go_wp2_with (first | (at_builtin; refine wpList_append_rd (by rfl) (.tmp 14) (.tmp 20) 28 rfl base 5 i0 Try.underlying28 hi hz0 hz1 hz2 _ _ (by rfl) hO1 _ _ 1 1 [low / 256 % 256] (by rfl) hR1 (by have := HLE.out; omega) w hB1 (by simp; omega) ?_; intro v2 w2 ho2 hb2 hg2) | fail)
        have HF := Lib.hid (And.intro (ho2.cast (show _ = bs ++ (beS wd low).take (k + 1) by rw [HY.out, HBT.out, List.append_assoc])) hb2)
        clear hO1 hB1 hR1 ho2 hb2 hg2
        go_wp2_with fail
        go_roundw
        case rel => exact ⟨k + 1, by omega, by rw [hnx]; rfl, HF⟩
        case measure => simp [intOf]
      · have hY : low / 65536 % 256 = y := by have h := HBV.out; simp at h; omega
        have hO1 := hO.alloc (.cells #[.int .u8 (low / 65536 % 256)] 5)
        have hB1 := hB.alloc hbas (.cells #[.int .u8 (low / 65536 % 256)] 5)
        have hR1 := Rd.byte wo 5 _ rfl (low / 65536 % 256) (by omega)
        have HY := Lib.hid hY
        clear hY
        go_wp2_with (first | (at_builtin; refine wpList_append_rd (by rfl) (.tmp 14) (.tmp 20) 28 rfl base 5 i0 Try.underlying28 hi hz0 hz1 hz2 _ _ (by rfl) hO1 _ _ 1 1 [low / 65536 % 256] (by rfl) hR1 (by have := HLE.out; omega) w hB1 (by simp; omega) ?_; intro v2 w2 ho2 hb2 hg2) | fail)
        have HF := Lib.hid (And.intro (ho2.cast (show _ = bs ++ (beS wd low).take (k + 1) by rw [HY.out, HBT.out, List.append_assoc])) hb2)
        clear hO1 hB1 hR1 ho2 hb2 hg2
        go_wp2_with fail
        go_roundw
        case rel => exact ⟨k + 1, by omega, by rw [hnx]; rfl, HF⟩
        case measure => simp [intOf]
      · have hY : low / 16777216 = y := by have h := HBV.out; simp at h; omega
        have hO1 := hO.alloc (.cells #[.int .u8 (low / 16777216)] 5)
        have hB1 := hB.alloc hbas (.cells #[.int .u8 (low / 16777216)] 5)
        have hR1 := Rd.byte wo 5 _ rfl (low / 16777216) (by omega)
        have HY := Lib.hid hY
        clear hY
        go_wp2_with (first | (at_builtin; refine wpList_append_rd (by rfl) (.tmp 14) (.tmp 20) 28 rfl base 5 i0 Try.underlying28 hi hz0 hz1 hz2 _ _ (by rfl) hO1 _ _ 1 1 [low / 16777216] (by rfl) hR1 (by have := HLE.out; omega) w hB1 (by simp; omega) ?_; intro v2 w2 ho2 hb2 hg2) | fail)
        have HF := Lib.hid (And.intro (ho2.cast (show _ = bs ++ (beS wd low).take (k + 1) by rw [HY.out, HBT.out, List.append_assoc])) hb2)
        clear hO1 hB1 hR1 ho2 hb2 hg2
        go_wp2_with fail
        go_roundw
        case rel => exact ⟨k + 1, by omega, by rw [hnx]; rfl, HF⟩
        case measure => simp [intOf]
    · obtain rfl : k = wd := by omega
      have hO := hO.cast (show _ = bs ++ beS k low by rw [List.take_of_length_le (by rw [beS_len]; omega)])
      have hqI : (k : Int) - 1 - (k : Int) = -1 := by omega
      rw [hqI]
      go_wp2_with fail
      go_ret
      exact ⟨_, rfl, hO, hB⟩
def orL (v x : Int) : Int := bits BinOp.or IntKind.u32 (IntKind.u32.wrap (v * 256)) x
theorem lowS3_step (bs : List Int) (k : Nat) (hk : k < bs.length) : lowS3 (bs.take (k + 1)) = orL (lowS3 (bs.take k)) (bs.getD k 0) := by
  unfold lowS3
  rw [List.take_succ_eq_append_getElem hk, List.foldl_append, List.getD_eq_getElem?_getD, List.getElem?_eq_getElem hk]
  rfl
set_option maxRecDepth 100000 in
theorem numberof_any (A : Option Addr) (n c : Nat) (bs : List Int) (w : World) (B : Nat) (hr : Rd w B A n bs) (hn : n ≤ c) (hc : c ≤ maxLen) :
    Calls Try.prog 68 #[.slice A n c] w fun e w' => e = .returned (.int .u32 (lowS3 bs)) ∧ w = w' := by
  unfold maxLen at hc
  have hL := hr.1
  have hst := lowS3_step bs
  have hfin : lowS3 bs = lowS3 (bs.take n) := by rw [List.take_of_length_le (by omega)]
  have hby := hr.2.1
  have hcell := hr.2.2
  rw [hL] at hst
  have ST := Lib.hid hst
  have F := Lib.hid hfin
  have HC := Lib.hid hcell
  clear hst hfin hcell hL hr
  go_enter Try.func68, Try.ntmps68
  go_wp2_with fail
  go_loop [3, 5, 8] (fun h x i => ∃ k : Nat, k ≤ n ∧ i = .int .i64 k ∧ h = .int .u32 (lowS3 (bs.take k))) (fun _ _ i => n - (intOf i).toNat)
  case atStart => exact ⟨0, Nat.zero_le _, rfl, rfl⟩
  case round =>
    obtain ⟨k, hk, rfl, rfl⟩ := hrel
    by_cases hlt : k < n
    · obtain ⟨b, off, rfl, hb, hcell⟩ := HC.out (by omega)
      have c1 := hcell k hlt
      have hy := hby.getD k
      have hs := ST.out k hlt
      unfold orL at hs
      obtain ⟨y, hy0⟩ : ∃ y, bs.getD k 0 = y := ⟨_, rfl⟩
      rw [hy0] at c1 hy hs
      obtain ⟨H, hH⟩ : ∃ H, lowS3 (bs.take k) = H := ⟨_, rfl⟩
      rw [hH] at hs
      rw [hH]
      clear hy0 hcell hH
      obtain ⟨hy1, hy2⟩ := hy
      have hsh : H * 2 ^ 8 = H * 256 := by omega
      have S := Lib.hid hs; clear hs
      go_wp2_with fail
      go_round
      case rel => exact ⟨k + 1, by omega, by go_num, by rw [S.out, IntKind.wrap_u32]⟩
      case measure => simp [intOf]; omega
    · obtain rfl : k = n := by omega
      have F2 := F.out
      obtain ⟨H, hH⟩ : ∃ H, lowS3 (bs.take k) = H := ⟨_, rfl⟩
      rw [hH] at F2 ⊢
      have F3 := Lib.hid F2
      clear hH F2
      go_wp2_with fail
      go_ret
      exact ⟨ret_int (by rw [F3.out]), rfl⟩
end Go.Proofs.Ytehdilgnlhhjdaa
