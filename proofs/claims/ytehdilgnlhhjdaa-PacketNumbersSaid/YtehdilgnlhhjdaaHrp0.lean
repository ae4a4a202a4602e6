/-
  The document's own Parse of an Initial's head.
-/
import Derived.Test.YtehdilgnlhhjdaaMq12
import Derived.IntWalk
namespace Go.Proofs.Ytehdilgnlhhjdaa
set_option linter.unusedVariables false
set_option linter.unusedSimpArgs false
open Go.RowKit
set_option maxRecDepth 100000 in
set_option maxHeartbeats 8000000 in
theorem rparse_l0 (A : Option Addr) (n c : Nat) (bs : List Int) (w : World) (hr : Rd w w.heap.size A n bs) (hn : n ≤ 1000000) (hnc : n ≤ c) (hcm : c ≤ maxLen) (hA : A = none → c = 0) (hx : ¬ byteR (bs, false) / 64 % 2 = 0) (hy : ¬ byteR (bs, false) / 128 = 0) (hsp : byteR (bs, false) / 16 % 4 = 0) :
    Calls Try.prog 28 #[.slice A n c] w (RPPost bs w) := by
  have hlen := hr.1
  have hby := hr.2.1
  have hbx := byteR_bd (bs, false) hby
  have hB1 : Below w.heap.size w ((w.alloc (.cells (hdL HN.zero Sl.nil).toArray 30)).alloc (.cells ([.slice A n c, .bool false] : List Value).toArray 96)) := ((Below.refl _ _).alloc (Nat.le_refl _) _).alloc (by simp) _
  have hA1 : At ((w.alloc (.cells (hdL HN.zero Sl.nil).toArray 30)).alloc (.cells ([.slice A n c, .bool false] : List Value).toArray 96)) w.heap.size 30 (hdL HN.zero Sl.nil) := (At.new w _ _).alloc _
  have hP1 : At ((w.alloc (.cells (hdL HN.zero Sl.nil).toArray 30)).alloc (.cells ([.slice A n c, .bool false] : List Value).toArray 96)) (w.heap.size + 1) 96 [.slice A n c, .bool false] := At.new_ _ _ _ (by simp)
  have hrp : RdP w (fun b => b < w.heap.size) A n bs := ⟨hr, fun b off hn' e => by obtain ⟨b', off', e', hb', _⟩ := hr.2.2 hn'; rw [e] at e'; injection e' with e'; injection e' with e1 e2; omega⟩
  have hr1 : Rdr ((w.alloc (.cells (hdL HN.zero Sl.nil).toArray 30)).alloc (.cells ([.slice A n c, .bool false] : List Value).toArray 96)) (w.heap.size + 1) 96 (fun b => b < w.heap.size) (bs, false) :=
    ⟨A, n, c, hP1, hnc, hcm, hA, hrp.kept (Kept.of_below hB1 (fun _ => False)) (fun _ _ h => h), fun h => by cases h⟩
  obtain ⟨w1, hw1⟩ : ∃ y, (w.alloc (.cells (hdL HN.zero Sl.nil).toArray 30)).alloc (.cells ([.slice A n c, .bool false] : List Value).toArray 96) = y := ⟨_, rfl⟩
  rw [hw1] at hB1 hA1 hr1
  have hp1 : w.heap.size + 1 < w1.heap.size := by rw [← hw1]; simp
  have hPP : ∀ b, b < w.heap.size → b ≠ w.heap.size + 1 := fun b hb => by omega
  have hl1 : (takeN (bs, false) 1).1.length ≤ bs.length := takeN_le (bs, false) 1
  clear hP1 hrp hr

  have hnb := notbad bs hx
  have hlk : parseS bs = htailS (takeN (takeN (bs, false) 1) 4) 0 bs.length (decide ((0 : Int) ≤ 1 ∧ takeR (takeN (bs, false) 1) 4 = [0, 0, 0, 1])) := by
    unfold parseS
    simp only
    rw [if_neg hx, if_neg hy, hsp]
  
  obtain ⟨x, hxx⟩ : ∃ x, byteR (bs, false) = x := ⟨_, rfl⟩
  obtain ⟨s1, hs1⟩ : ∃ s, takeN (bs, false) 1 = s := ⟨_, rfl⟩
  rw [hxx] at hbx hx hy hsp
  rw [hs1] at hl1 hlk hnb
  have HX := Lib.hid hxx
  have HS1 := Lib.hid hs1
  clear hxx hs1
  have f1 : bits BinOp.and IntKind.u8 x 64 = 64 := by rw [b_and64 x hbx.1 hbx.2]; omega
  have f2 : bits BinOp.and IntKind.u8 x 128 = 128 := by rw [b_and128 x hbx.1 hbx.2]; omega
  have f3 : bits BinOp.and IntKind.u8 (x / 16) 3 = 0 := by rw [b_and3 (x / 16) (by omega) (by omega)]; exact hsp
  obtain ⟨O1, hO1⟩ : ∃ b, decide ((0 : Int) ≤ 1 ∧ takeR s1 4 = [0, 0, 0, 1]) = b := ⟨_, rfl⟩
  have HO1' := Lib.hid hO1
  rw [hO1] at hlk
  obtain ⟨V4, hV4⟩ : ∃ y, takeR s1 4 = y := ⟨_, rfl⟩
  obtain ⟨s2, hs2e⟩ : ∃ y, takeN s1 4 = y := ⟨_, rfl⟩
  have hl2 := takeN_le s1 4
  rw [hs2e] at hlk hl2
  have HV4 := Lib.hid hV4
  have HS2 := Lib.hid hs2e
  have HLK : Hid (parseS bs = htailS s2 0 bs.length O1) := Lib.hid hlk
  clear hV4 hs2e hlk hO1
  go_enter Try.func28, Try.ntmps28
  go_wp2_with fail
  change (fun y => Calls Try.prog 51 #[.pointer (some ⟨w.heap.size + 1, 0, none⟩)] y _) ((w.alloc (.cells (hdL HN.zero Sl.nil).toArray 30)).alloc (.cells ([.slice A n c, .bool false] : List Value).toArray 96))
  rw [hw1]
  clear hw1
  refine (rbyte_any (w.heap.size + 1) _ _ (bs, false) w1 hr1 hPP (by simp only; omega)).mono ?_
  rintro e w2 ⟨rfl, hr2, hk2⟩
  rw [HX.out]
  rw [HS1.out] at hr2
  have hA2 := hA1.kept hk2 (by omega)
  have hB2 := hk2.below hB1 (by omega) (fun j hj => by omega)
  have hs2 := hk2.size
  clear hk2 hA1 hB1 hr1
  have hA3 := hA2.alloc (.cells (hdL ⟨2, .zero, .zero, 1, false⟩ Sl.nil).toArray 30)
  have hG3 := At.new w2 30 (hdL ⟨2, .zero, .zero, 1, false⟩ Sl.nil)
  have hB3 := hB2.alloc (by omega) (.cells (hdL ⟨2, .zero, .zero, 1, false⟩ Sl.nil).toArray 30)
  have hr3 := hr2.kept ((Kept.refl (fun _ => False) w2).alloc (.cells (hdL ⟨2, .zero, .zero, 1, false⟩ Sl.nil).toArray 30)) (fun h => h) (fun _ _ h => h)
  obtain ⟨g8, hg8⟩ : ∃ g, w2.heap.size = g := ⟨_, rfl⟩
  obtain ⟨w3, hw3⟩ : ∃ y, w2.alloc (.cells (hdL ⟨2, .zero, .zero, 1, false⟩ Sl.nil).toArray 30) = y := ⟨_, rfl⟩
  rw [hw3] at hA3 hG3 hB3 hr3
  rw [hg8] at hG3
  have hg8p : w.heap.size + 1 < g8 := by omega
  have hz3 := hG3.lt
  clear hA2 hB2 hr2
  obtain ⟨_, _, _, _, _, _, _, rb3⟩ := hr3.cells_
  rw [hnb] at rb3
  have c00 : w3.cell? ⟨g8, 0, none⟩ = some (.int .i64 2) := hG3.cell 0
  have f00 := hG3.frozen 0
  have hkk : Kept (· = g8) w3 (w3.setCell ⟨g8, 0, none⟩ (.int .i64 0)) := (Kept.refl _ _).setAt _ _
  have hG4 : At (w3.setCell ⟨g8, 0, none⟩ (.int .i64 0)) g8 30 (hdL ⟨0, .zero, .zero, 1, false⟩ Sl.nil) := hG3.set 0 _
  have hA4 := hA3.kept hkk (by omega)
  have hr4 := hr3.kept hkk (by omega) (fun b hb e => by omega)
  have hB4 := hkk.below hB3 (by omega) (fun j hj => by omega)
  have hs4 := hkk.size
  clear hA3 hr3 hB3 hkk
  go_wp2_with (first | ((with_reducible refine at_sth (x := .tmp 8) ?_); refine wpList_store_top w2 30 (hdL HN.zero Sl.nil) (hdL ⟨2, .zero, .zero, 1, false⟩ Sl.nil) (by rfl) _ (by rfl) hg8.symm (by rfl) (by rfl) hd_info (by rfl) ?_; rw [hw3]; clear hw3 hg8) | fail)
  obtain ⟨w4, hw4⟩ : ∃ y, w3.setCell ⟨g8, 0, none⟩ (.int .i64 0) = y := ⟨_, rfl⟩
  rw [hw4] at hG4 hA4 hr4 hB4 hs4 ⊢
  clear hw4 hG3 c00 f00
  refine (rraw_any (w.heap.size + 1) _ _ s1 4 w4 hr4 hPP (by omega)).mono ?_
  rintro e w5 ⟨v5, rfl, hown5, hr5, hk5⟩
  rw [HV4.out] at hown5
  rw [HS2.out] at hr5
  obtain ⟨N5, hN5⟩ : ∃ N, V4.length = N := ⟨_, rfl⟩
  obtain ⟨A5, c5, rfl, q51, q52, q53⟩ := hown5.open_n N5 hN5
  have hG5 := hG4.kept hk5 (by omega)
  have hA5 := hA4.kept hk5 (by omega)
  have hB5 := hk5.below hB4 (by omega) (fun j hj => by omega)
  have hs5 := hk5.size
  have hVb : Byt V4 := hown5.byt
  have c0 : w5.cell? ⟨g8, 0, none⟩ = some (.int .i64 0) := hG5.cell 0
  clear hN5 hown5 hk5 hG4 hA4 hB4 hr4
  have t65 := run_text (P := Try.prog) (c := c5) q53 28 5 9 Try.underlying28 Try.underlying5 Try.underlying9
  have t65a := run_text (P := Try.prog) (c := c5) (q53.alloc (Nat.le_refl _) (.cells #[.int .u8 0, .int .u8 0, .int .u8 0, .int .u8 1] 5)) 28 5 9 Try.underlying28 Try.underlying5 Try.underlying9
  have t67 : (convert 28 9 (.slice (some ⟨w5.heap.size, 0, none⟩) 4 4)).run Try.prog (w5.alloc (.cells #[.int .u8 0, .int .u8 0, .int .u8 0, .int .u8 1] 5)) = .ok (.string (strOfNums [0, 0, 0, 1])) (w5.alloc (.cells #[.int .u8 0, .int .u8 0, .int .u8 0, .int .u8 1] 5)) := run_text (P := Try.prog) (c := 4) (Rd.lit w5 5 [0, 0, 0, 1] (fun y hy => by simp at hy; omega) _ rfl) 28 5 9 Try.underlying28 Try.underlying5 Try.underlying9
  have hTV : (strOfNums V4 == strOfNums [0, 0, 0, 1]) = O1 := by
    rw [← HO1'.out, HV4.out]
    by_cases h : V4 = [0, 0, 0, 1]
    · rw [h, bb_refl]; symm; simp
    · rw [str_ne _ _ hVb (fun y hy => by simp at hy; omega) h]; symm; simp [h]
  obtain ⟨TX, hTX⟩ : ∃ y, strOfNums V4 = y := ⟨_, rfl⟩
  obtain ⟨TV, hTV'⟩ : ∃ y, strOfNums [0, 0, 0, 1] = y := ⟨_, rfl⟩
  rw [hTX] at t65 t65a hTV
  rw [hTV'] at t67 hTV
  have hTL : (TX.toList = TV.toList) ↔ (O1 = true) := by rw [← hTV, beq_toListBytes]; simp
  have HTL := Lib.hid hTL
  clear hTX hTV'
  have hr6 := hr5.kept ((Kept.refl (fun _ => False) w5).alloc (.cells #[.int .u8 0, .int .u8 0, .int .u8 0, .int .u8 1] 5)) (fun h => h) (fun _ _ h => h)
  have hG6 := hG5.alloc (.cells #[.int .u8 0, .int .u8 0, .int .u8 0, .int .u8 1] 5)
  have hA6 := hA5.alloc (.cells #[.int .u8 0, .int .u8 0, .int .u8 0, .int .u8 1] 5)
  have hB6 := hB5.alloc (by omega) (.cells #[.int .u8 0, .int .u8 0, .int .u8 0, .int .u8 1] 5)
  clear hr5 hG5 hA5 hB5
  go_wp2_with fail
  obtain ⟨w6, hw6⟩ : ∃ y, w5.alloc (.cells #[.int .u8 0, .int .u8 0, .int .u8 0, .int .u8 1] 5) = y := ⟨_, rfl⟩
  rw [hw6] at hr6 hG6 hA6 hB6
  change (fun y => Calls Try.prog 51 #[.pointer (some ⟨w.heap.size + 1, 0, none⟩)] y _) (w5.alloc (.cells #[.int .u8 0, .int .u8 0, .int .u8 0, .int .u8 1] 5))
  rw [hw6]
  clear hw6 t65 t65a t67 hTV hTL c0 q53 HO1'
  have hz6 := hG6.lt
  have hbb1 := byteR_bd s2 hr6.byt
  refine (rbyte_any (w.heap.size + 1) _ _ s2 w6 hr6 hPP (by omega)).mono ?_
  rintro e w7 ⟨rfl, hr7, hk7⟩
  have hG7 := hG6.kept hk7 (by omega)
  have hAR := hA6.kept hk7 (by omega)
  have hBR := hk7.below hB6 (by omega) (fun j hj => by omega)
  have hs7 := hk7.size
  have hz7 := hG7.lt
  have hlA := takeN_le s2 1
  have HBA : Hid (Byt (takeN s2 1).1) := Lib.hid hr7.byt
  clear hr6 hG6 hA6 hB6 hk7
  obtain ⟨y1, hy1⟩ : ∃ y, byteR s2 = y := ⟨_, rfl⟩
  have HY1 := Lib.hid hy1
  rw [hy1]
  clear hy1
  rcases (show y1 = 8 ∨ (y1 == 8) = false by cases h : (y1 == 8); exact .inr rfl; exact .inl (by simpa using h)) with hb1 | hb1
  · skip
    subst hb1
    have HB1 : Hid (byteR s2 = 8) := Lib.hid HY1.out
    go_wp2_with fail
    obtain ⟨N, hN⟩ : ∃ N, (takeR (takeN s2 1) 8).length = N := ⟨_, rfl⟩
    have hN8 : N ≤ 8 := by rcases takeR8 (takeN s2 1) with h | h; omega; rw [h] at hN; simp at hN; omega
    have HN_ := Lib.hid hN
    clear hN
    have hrD : Rdr w7.drew _ _ _ _ := hr7.drewN 1
    have hGD := hG7.drew
    have hAD := hAR.drew
    have hBD : Below w.heap.size w w7.drew := belowN hBR 1
    have hzD := hGD.lt
    refine wp_region_held_drew (S := (fun _ => True)) (by kernel_rfl) (trivial) (fun hHeld => ?_)
    refine tk_dst (i := 0) (dst := some 76) rfl rfl (by kernel_rfl) (by kernel_rfl) (by kernel_rfl) (fun _ _ _ h => h) (v := ?_) (Or.inl ⟨by rfl, ?_⟩) (by assumption) ?_
    rotate_left
    · intro w hSw; (try dsimp only at hSw); go_simp; first | done | (with_reducible rfl)
    simp only [Act.put, List.setIfInBounds_toArray, List.set_cons_zero, List.set_cons_succ]
    refine tk_dst (i := 1) (dst := some 77) rfl rfl (by kernel_rfl) (by kernel_rfl) (by kernel_rfl) (fun _ _ _ h => h) (v := ?_) (Or.inl ⟨by rfl, ?_⟩) (by assumption) ?_
    rotate_left
    · intro w hSw; (try dsimp only at hSw); go_simp; first | done | (with_reducible rfl)
    simp only [Act.put, List.setIfInBounds_toArray, List.set_cons_zero, List.set_cons_succ]
    refine tk_dst (i := 2) (dst := some 78) rfl rfl (by kernel_rfl) (by kernel_rfl) (by kernel_rfl) (fun _ _ _ h => h) (v := ?_) (Or.inl ⟨by rfl, ?_⟩) (by assumption) ?_
    rotate_left
    · intro w hSw; (try dsimp only at hSw); go_simp; first | done | (with_reducible rfl)
    simp only [Act.put, List.setIfInBounds_toArray, List.set_cons_zero, List.set_cons_succ]
    refine wpAnyH_ready (rs := [3]) (by kernel_rfl) (by simp) ?_
    refine AllReadyH.cons rfl (fun K hK => ?_) AllReadyH.nil
    go_simp
    go_wp2_with ((go_at_call 52; refine (rraw_any (w.heap.size + 1) _ _ (takeN s2 1) 8 _ hrD hPP (by omega)).mono ?_; rintro e wR ⟨vR, rfl, hownR, hrR, hkR⟩; obtain ⟨aR, cR, rfl, gR1, gR2, gR3⟩ := hownR.open_n N HN_.out))
    refine hK.out _ _ (trivial) (fun hHeld => ?_)
    clear hK K
    have hGR := hGD.kept hkR (by omega)
    have hAR2 := hAD.kept hkR (by omega)
    have hBR2 := hkR.below hBD (by omega) (fun j hj => by omega)
    have hsR := hkR.size
    refine wpAnyH_ready (rs := [4]) (by kernel_rfl) (by simp) ?_
    refine AllReadyH.cons rfl (fun K hK => ?_) AllReadyH.nil
    refine step_copy_splice rfl (.tmp 77) (.tmp 79) 28 28 rfl 5 Try.underlying28 (by kernel_rfl) (some ⟨g8, 1, none⟩) aR 8 8 N cR rfl rfl g8 1 (hdL ⟨0, .zero, .zero, 1, false⟩ Sl.nil) 30 hGR ((takeR (takeN s2 1) 8).map (Value.int .u8))
      (by rw [List.length_map, HN_.out]; exact (Nat.min_eq_left hN8).symm) (fun hp => ⟨rfl, gR3.cells (by rw [List.length_map, HN_.out] at hp; exact hp)⟩) (by rw [List.length_map, HN_.out, hdL_len]; omega) (oneCell_u8 _) g8 wR (Below.refl _ _) (Nat.le_refl _) ?_
    intro wS hbS hblS
    rw [sp_to _ _ _ _ _ _ (takeR8 (takeN s2 1))] at hbS
    refine hK.out _ _ trivial (fun hHeld => ?_)
    clear hK K
    refine wpAnyH_done (by kernel_rfl) ?_ _
    have hGS : At wS g8 30 (hdL ⟨0, N8.of (takeR (takeN s2 1) 8), .zero, 1, false⟩ Sl.nil) := hbS.out
    have hAS := hAR2.below hblS (by omega)
    have hrS := hrR.kept (Kept.of_belowB hblS) (by omega) (fun b hb hs => by omega)
    have hBS := hBR2.trans (hblS.mono (by omega))
    have hzS := hGS.lt
    clear hrD hGD hAD hBD hzD hownR hrR hkR hGR hAR2 hBR2 hsR hbS hblS hHeld gR1 gR2 gR3 HN_ hN8
    obtain ⟨s3, hs3⟩ : ∃ y, takeN (takeN s2 1) 8 = y := ⟨_, rfl⟩
    have HS3 : Hid (lgN s2 = s3) := Lib.hid hs3
    have hl3 : s3.1.length ≤ s2.1.length := by rw [← hs3]; exact lgN_le s2
    rw [hs3] at hrS
    clear hs3 hr7 hG7 hAR hBR
    have HN1 : Hid (Byt (N8.of (lgR s2)).l) := Lib.hid (n8_byt _ (takeR_byt _ _ HBA.out))
    have hbb2 := byteR_bd s3 hrS.byt
    go_wp2_with fail
    refine (rbyte_any (w.heap.size + 1) _ _ s3 wS hrS hPP (by omega)).mono ?_
    rintro e w8 ⟨rfl, hr8, hk8⟩
    have hG8 := hGS.kept hk8 (by omega)
    have hAR := hAS.kept hk8 (by omega)
    have hBR := hk8.below hBS (by omega) (fun j hj => by omega)
    have hs8 := hk8.size
    have hz8 := hG8.lt
    have hlB := takeN_le s3 1
    have HBB : Hid (Byt (takeN s3 1).1) := Lib.hid hr8.byt
    clear hrS hGS hAS hBS hk8 hzS
    obtain ⟨y2, hy2⟩ : ∃ y, byteR s3 = y := ⟨_, rfl⟩
    have HY2 := Lib.hid hy2
    rw [hy2]
    clear hy2
    rcases (show y2 = 8 ∨ (y2 == 8) = false by cases h : (y2 == 8); exact .inr rfl; exact .inl (by simpa using h)) with hb2 | hb2
    · skip
      subst hb2
      have HB2 : Hid (byteR s3 = 8) := Lib.hid HY2.out
      go_wp2_with fail
      obtain ⟨N, hN⟩ : ∃ N, (takeR (takeN s3 1) 8).length = N := ⟨_, rfl⟩
      have hN8 : N ≤ 8 := by rcases takeR8 (takeN s3 1) with h | h; omega; rw [h] at hN; simp at hN; omega
      have HN_ := Lib.hid hN
      clear hN
      have hrD : Rdr w8.drew _ _ _ _ := hr8.drewN 1
      have hGD := hG8.drew
      have hAD := hAR.drew
      have hBD : Below w.heap.size w w8.drew := belowN hBR 1
      have hzD := hGD.lt
      refine wp_region_held_drew (S := (fun _ => True)) (by kernel_rfl) (trivial) (fun hHeld => ?_)
      refine tk_dst (i := 0) (dst := some 87) rfl rfl (by kernel_rfl) (by kernel_rfl) (by kernel_rfl) (fun _ _ _ h => h) (v := ?_) (Or.inl ⟨by rfl, ?_⟩) (by assumption) ?_
      rotate_left
      · intro w hSw; (try dsimp only at hSw); go_simp; first | done | (with_reducible rfl)
      simp only [Act.put, List.setIfInBounds_toArray, List.set_cons_zero, List.set_cons_succ]
      refine tk_dst (i := 1) (dst := some 88) rfl rfl (by kernel_rfl) (by kernel_rfl) (by kernel_rfl) (fun _ _ _ h => h) (v := ?_) (Or.inl ⟨by rfl, ?_⟩) (by assumption) ?_
      rotate_left
      · intro w hSw; (try dsimp only at hSw); go_simp; first | done | (with_reducible rfl)
      simp only [Act.put, List.setIfInBounds_toArray, List.set_cons_zero, List.set_cons_succ]
      refine tk_dst (i := 2) (dst := some 89) rfl rfl (by kernel_rfl) (by kernel_rfl) (by kernel_rfl) (fun _ _ _ h => h) (v := ?_) (Or.inl ⟨by rfl, ?_⟩) (by assumption) ?_
      rotate_left
      · intro w hSw; (try dsimp only at hSw); go_simp; first | done | (with_reducible rfl)
      simp only [Act.put, List.setIfInBounds_toArray, List.set_cons_zero, List.set_cons_succ]
      refine wpAnyH_ready (rs := [3]) (by kernel_rfl) (by simp) ?_
      refine AllReadyH.cons rfl (fun K hK => ?_) AllReadyH.nil
      go_simp
      go_wp2_with ((go_at_call 52; refine (rraw_any (w.heap.size + 1) _ _ (takeN s3 1) 8 _ hrD hPP (by omega)).mono ?_; rintro e wR ⟨vR, rfl, hownR, hrR, hkR⟩; obtain ⟨aR, cR, rfl, gR1, gR2, gR3⟩ := hownR.open_n N HN_.out))
      refine hK.out _ _ (trivial) (fun hHeld => ?_)
      clear hK K
      have hGR := hGD.kept hkR (by omega)
      have hAR2 := hAD.kept hkR (by omega)
      have hBR2 := hkR.below hBD (by omega) (fun j hj => by omega)
      have hsR := hkR.size
      refine wpAnyH_ready (rs := [4]) (by kernel_rfl) (by simp) ?_
      refine AllReadyH.cons rfl (fun K hK => ?_) AllReadyH.nil
      refine step_copy_splice rfl (.tmp 88) (.tmp 90) 28 28 rfl 5 Try.underlying28 (by kernel_rfl) (some ⟨g8, 9, none⟩) aR 8 8 N cR rfl rfl g8 9 (hdL ⟨0, N8.of (takeR (takeN s2 1) 8), .zero, 1, false⟩ Sl.nil) 30 hGR ((takeR (takeN s3 1) 8).map (Value.int .u8))
        (by rw [List.length_map, HN_.out]; exact (Nat.min_eq_left hN8).symm) (fun hp => ⟨rfl, gR3.cells (by rw [List.length_map, HN_.out] at hp; exact hp)⟩) (by rw [List.length_map, HN_.out, hdL_len]; omega) (oneCell_u8 _) g8 wR (Below.refl _ _) (Nat.le_refl _) ?_
      intro wS hbS hblS
      rw [sp_from _ _ _ _ _ _ (takeR8 (takeN s3 1))] at hbS
      refine hK.out _ _ trivial (fun hHeld => ?_)
      clear hK K
      refine wpAnyH_done (by kernel_rfl) ?_ _
      have hGS : At wS g8 30 (hdL ⟨0, N8.of (takeR (takeN s2 1) 8), N8.of (takeR (takeN s3 1) 8), 1, false⟩ Sl.nil) := hbS.out
      have hAS := hAR2.below hblS (by omega)
      have hrS := hrR.kept (Kept.of_belowB hblS) (by omega) (fun b hb hs => by omega)
      have hBS := hBR2.trans (hblS.mono (by omega))
      have hzS := hGS.lt
      clear hrD hGD hAD hBD hzD hownR hrR hkR hGR hAR2 hBR2 hsR hbS hblS hHeld gR1 gR2 gR3 HN_ hN8
      have HN2 : Hid (Byt (N8.of (lgR s3)).l) := Lib.hid (n8_byt _ (takeR_byt _ _ HBB.out))
      clear hr8 hG8 hAR hBR
      have c0 : wS.cell? ⟨g8, 0, none⟩ = some (.int .i64 0) := hGS.cell 0
      obtain ⟨s4, hs4⟩ : ∃ y, takeN (takeN s3 1) 8 = y := ⟨_, rfl⟩
      rw [hs4] at hrS
      have HS4 : Hid (lgN s3 = s4) := Lib.hid hs4
      have hl4 : s4.1.length ≤ s3.1.length := by rw [← hs4]; exact lgN_le s3
      have hby4 : Byt s4.1 := hrS.byt
      clear hs4
      go_wp2_with fail
      refine (rtext_any (w.heap.size + 1) _ _ s4 wS hrS hPP (by omega)).mono ?_
      rintro e wT ⟨vT, rfl, hownT, hrT, hkT⟩
      obtain ⟨NT, hNT⟩ : ∃ N, (textR s4).length = N := ⟨_, rfl⟩
      have HNT := Lib.hid hNT
      obtain ⟨tA, tc, rfl, q1, q2, q3⟩ := hownT.open_n NT hNT
      have hinT := hownT.inD_ hNT
      have hGT := hGS.kept hkT (by omega)
      have hAT := hAS.kept hkT (by omega)
      have hBT := hkT.below hBS (by omega) (fun j hj => by omega)
      have hsT := hkT.size
      have c17 : wT.cell? ⟨g8, 17, none⟩ = some (.slice none 0 0) := hGT.cell 17
      have f17 := hGT.frozen 17
      have hkk : Kept (· = g8) wT (wT.setCell ⟨g8, 17, none⟩ (.slice tA NT tc)) := (Kept.refl _ _).setAt _ _
      have hGU : At (wT.setCell ⟨g8, 17, none⟩ (.slice tA NT tc)) g8 30 (hdL ⟨0, N8.of (takeR (takeN s2 1) 8), N8.of (takeR (takeN s3 1) 8), 1, false⟩ ⟨tA, NT, tc⟩) := hGT.set 17 _
      have hAU := hAT.kept hkk (by omega)
      have hrU := hrT.kept hkk (by omega) (fun b hb e => by omega)
      have hBU := hkk.below hBT (by omega) (fun j hj => by omega)
      have hinU := (hinT.kept hkk (fun b hb e => by omega)).mono (P' := fun b => w.heap.size < b ∧ b ≠ w.heap.size + 1) (fun b _ hb => by omega)
      have hsU := hkk.size
      obtain ⟨s5, hs5⟩ : ∃ y, textN s4 = y := ⟨_, rfl⟩
      have HS5 := Lib.hid hs5
      have hl5 := textN_le s4
      rw [hs5] at hrU hl5
      have hby5 : Byt s5.1 := hrU.byt
      have c17U := hGU.cell 17
      have c17V : (wT.setCell ⟨g8, 17, none⟩ (.slice tA NT tc)).cell? ⟨g8, 17, none⟩ = some (.slice tA NT tc) := hGU.cell 17
      have hq2 := q2
      unfold maxLen at hq2
      have hzU := hGU.lt
      clear hs5 hNT hownT hrT hGT hAT hBT hinT hkT hkk hGS hAS hrS hBS c0 q3 c17U
      cases O1
      · have hT_ : ¬ TX.toList = TV.toList := by have := HTL.out; simpa using this
        go_wp2_with fail
        refine (rvar_any (w.heap.size + 1) _ _ s5 _ hrU hPP).mono ?_
        rintro e wV ⟨rfl, hrV, hkV⟩
        have hGV := hGU.kept hkV (by omega)
        have hAV := hAU.kept hkV (by omega)
        have hBV := hkV.below hBU (by omega) (fun j hj => by omega)
        have hzV := hGV.lt
        have HPN : Hid (parseS bs = none) := Lib.hid (by rw [HLK.out]; exact htail_no _ _ _ _ (.inl rfl))
        go_wp2_with (first | ((with_reducible refine at_sth (x := .tmp 2) ?_); refine st_hd _ _ (hdL HN.zero Sl.nil) (by rfl) (by rfl) hAV (by rfl) (by rfl) (by rfl) ?_; intro w9 hA9 hk9) | fail)
        refine bodyPost_ret (results_cell_tmp3 2 3 4 5 30 (by rfl) _ 30 _ _ _ _ _ (by rfl) (by rfl) (by rfl) (by rfl) hA9 Try.underlying30 rfl hd_info) rfl ?_
        exact RPPost.no HPN.out (hk9.below hBV (by omega) (fun j hj => by omega))
      · have hT_ : TX.toList = TV.toList := by have := HTL.out; simpa using this
        by_cases hT1 : NT ≤ 32
        · have hT1' : (textR s4).length ≤ 32 := by rw [HNT.out]; exact hT1
          go_wp2_with fail
          refine (rvar_any (w.heap.size + 1) _ _ s5 _ hrU hPP).mono ?_
          rintro e wV ⟨rfl, hrV, hkV⟩
          have hGV := hGU.kept hkV (by omega)
          have hAV := hAU.kept hkV (by omega)
          have hBV := hkV.below hBU (by omega) (fun j hj => by omega)
          have hzV := hGV.lt
          have hinV := hinU.kept hkV (fun b hb e => by omega)
          obtain ⟨xv, hxv⟩ : ∃ y, varR s5 = y := ⟨_, rfl⟩
          have HXV := Lib.hid hxv
          have hvb := varR_bd s5 hby5
          rw [hxv] at hvb ⊢
          clear hxv
          obtain ⟨rA, rn, rc, r0, rl, rle, rcm, rbad⟩ := hrV.cells_
          have hrcm := rcm
          unfold maxLen at hrcm
          have hl9 := varN_le s5
          obtain ⟨s6, hs6⟩ : ∃ y, varN s5 = y := ⟨_, rfl⟩
          rw [hs6] at rl rbad hl9
          rw [← rl] at hl9
          obtain ⟨bd, hbd⟩ : ∃ b, s6.2 = b := ⟨_, rfl⟩
          rw [hbd] at rbad
          have hlk : parseS bs = if bd = false ∧ 12 ≤ xv ∧ xv ≤ rn then some (⟨0, N8.of (lgR s2), N8.of (lgR s3), 1, false⟩, textR s4, (n : Int) - rn, (n : Int) - rn + xv) else none := by
            rw [HLK.out]
            have e := htail_if s2 0 bs.length true rfl HB1.out (by rw [HS3.out]; exact HB2.out) (by rw [HS3.out, HS4.out]; unfold tokR; rw [if_pos rfl]; exact hT1')
            rw [e, HS3.out, HS4.out, show tokR s4 0 = textR s4 by unfold tokR; rw [if_pos rfl], show tokN s4 0 = textN s4 by unfold tokN; rw [if_pos rfl], HS5.out, hs6, hbd, HXV.out, ← rl, hlen]
          obtain ⟨m, hm⟩ : ∃ m : HN, (⟨0, N8.of (lgR s2), N8.of (lgR s3), 1, false⟩ : HN) = m := ⟨_, rfl⟩
          have hGV' : At wV g8 30 (hdL m ⟨tA, NT, tc⟩) := by rw [← hm]; exact hGV
          rw [hm] at hlk
          have hwf : m.wf := by
            rw [← hm]
            constructor
            · show (-9223372036854775808 : Int) ≤ 0; decide
            · show (0 : Int) ≤ 9223372036854775807; decide
            · show (-9223372036854775808 : Int) ≤ 1; decide
            · show (1 : Int) ≤ 9223372036854775807; decide
            · exact HN1.out
            · exact HN2.out
          clear hm hGV hbd hs6 HLK HXV rl
          cases bd with
          | true =>
            have HPN : Hid (parseS bs = none) := Lib.hid (by rw [hlk, if_neg (by simp)])
            clear hlk
            go_wp2_with (first | ((with_reducible refine at_sth (x := .tmp 2) ?_); refine st_hd _ _ (hdL HN.zero Sl.nil) (by rfl) (by rfl) hAV (by rfl) (by rfl) (by rfl) ?_; intro w9 hA9 hk9) | fail)
            refine bodyPost_ret (results_cell_tmp3 2 3 4 5 30 (by rfl) _ 30 _ _ _ _ _ (by rfl) (by rfl) (by rfl) (by rfl) hA9 Try.underlying30 rfl hd_info) rfl ?_
            exact RPPost.no HPN.out (hk9.below hBV (by omega) (fun j hj => by omega))
          | false =>
            by_cases hxN : (rn : Int) < xv
            · have HPN : Hid (parseS bs = none) := Lib.hid (by rw [hlk, if_neg (by intro h; have := h.2.2; omega)])
              clear hlk
              go_wp2_with (first | ((with_reducible refine at_sth (x := .tmp 2) ?_); refine st_hd _ _ (hdL HN.zero Sl.nil) (by rfl) (by rfl) hAV (by rfl) (by rfl) (by rfl) ?_; intro w9 hA9 hk9) | fail)
              refine bodyPost_ret (results_cell_tmp3 2 3 4 5 30 (by rfl) _ 30 _ _ _ _ _ (by rfl) (by rfl) (by rfl) (by rfl) hA9 Try.underlying30 rfl hd_info) rfl ?_
              exact RPPost.no HPN.out (hk9.below hBV (by omega) (fun j hj => by omega))
            by_cases h12 : xv < 12
            · have HPN : Hid (parseS bs = none) := Lib.hid (by rw [hlk, if_neg (by intro h; have := h.2.1; omega)])
              clear hlk
              go_wp2_with (first | ((with_reducible refine at_sth (x := .tmp 2) ?_); refine st_hd _ _ (hdL HN.zero Sl.nil) (by rfl) (by rfl) hAV (by rfl) (by rfl) (by rfl) ?_; intro w9 hA9 hk9) | fail)
              refine bodyPost_ret (results_cell_tmp3 2 3 4 5 30 (by rfl) _ 30 _ _ _ _ _ (by rfl) (by rfl) (by rfl) (by rfl) hA9 Try.underlying30 rfl hd_info) rfl ?_
              exact RPPost.no HPN.out (hk9.below hBV (by omega) (fun j hj => by omega))
            · have HPY : Hid (parseS bs = some (m, textR s4, (n : Int) - rn, (n : Int) - rn + xv)) := Lib.hid (by rw [hlk, if_pos ⟨rfl, by omega, by omega⟩])
              clear hlk
              go_wp2_with (first | ((with_reducible refine at_ldh ?_); refine ld_hd _ _ (by rfl) hGV' (by rfl) ?_) | ((with_reducible refine at_sth (x := .tmp 2) ?_); refine st_hd _ _ (hdL m ⟨tA, NT, tc⟩) (by rfl) (by rfl) hAV (by rfl) (by rfl) (by rfl) ?_; intro w9 hA9 hk9) | fail)
              refine bodyPost_ret (results_cell_tmp3 2 3 4 5 30 (by rfl) _ 30 _ _ _ _ _ (by rfl) (by rfl) (by rfl) (by rfl) hA9 Try.underlying30 rfl hd_info) rfl ?_
              exact RPPost.yes (d := ⟨tA, NT, tc⟩) HPY.out ((hinV.kept hk9 (fun b hb e => by omega)).mono (P' := fun b => w.heap.size ≤ b) (fun b _ hb => by omega)) hwf (hk9.below hBV (by omega) (fun j hj => by omega))
        · have hT1' : 32 < (textR s4).length := by rw [HNT.out]; omega
          go_wp2_with fail
          refine (rvar_any (w.heap.size + 1) _ _ s5 _ hrU hPP).mono ?_
          rintro e wV ⟨rfl, hrV, hkV⟩
          have hGV := hGU.kept hkV (by omega)
          have hAV := hAU.kept hkV (by omega)
          have hBV := hkV.below hBU (by omega) (fun j hj => by omega)
          have hzV := hGV.lt
          have HPN : Hid (parseS bs = none) := Lib.hid (by rw [HLK.out]; exact htail_no _ _ _ _ (.inr (.inr (.inr (by rw [HS3.out, HS4.out]; unfold tokR; rw [if_pos rfl]; exact hT1')))))
          go_wp2_with (first | ((with_reducible refine at_sth (x := .tmp 2) ?_); refine st_hd _ _ (hdL HN.zero Sl.nil) (by rfl) (by rfl) hAV (by rfl) (by rfl) (by rfl) ?_; intro w9 hA9 hk9) | fail)
          refine bodyPost_ret (results_cell_tmp3 2 3 4 5 30 (by rfl) _ 30 _ _ _ _ _ (by rfl) (by rfl) (by rfl) (by rfl) hA9 Try.underlying30 rfl hd_info) rfl ?_
          exact RPPost.no HPN.out (hk9.below hBV (by omega) (fun j hj => by omega))
    · skip
      have HB2 : Hid (byteR s3 ≠ 8) := Lib.hid (by rw [HY2.out]; simpa using hb2)
      go_wp2_with fail
      obtain ⟨N, hN⟩ : ∃ N, (takeR (takeN s3 1) 8).length = N := ⟨_, rfl⟩
      have hN8 : N ≤ 8 := by rcases takeR8 (takeN s3 1) with h | h; omega; rw [h] at hN; simp at hN; omega
      have HN_ := Lib.hid hN
      clear hN
      have hrD : Rdr w8.drew _ _ _ _ := hr8.drewN 1
      have hGD := hG8.drew
      have hAD := hAR.drew
      have hBD : Below w.heap.size w w8.drew := belowN hBR 1
      have hzD := hGD.lt
      refine wp_region_held_drew (S := (fun _ => True)) (by kernel_rfl) (trivial) (fun hHeld => ?_)
      refine tk_dst (i := 0) (dst := some 87) rfl rfl (by kernel_rfl) (by kernel_rfl) (by kernel_rfl) (fun _ _ _ h => h) (v := ?_) (Or.inl ⟨by rfl, ?_⟩) (by assumption) ?_
      rotate_left
      · intro w hSw; (try dsimp only at hSw); go_simp; first | done | (with_reducible rfl)
      simp only [Act.put, List.setIfInBounds_toArray, List.set_cons_zero, List.set_cons_succ]
      refine tk_dst (i := 1) (dst := some 88) rfl rfl (by kernel_rfl) (by kernel_rfl) (by kernel_rfl) (fun _ _ _ h => h) (v := ?_) (Or.inl ⟨by rfl, ?_⟩) (by assumption) ?_
      rotate_left
      · intro w hSw; (try dsimp only at hSw); go_simp; first | done | (with_reducible rfl)
      simp only [Act.put, List.setIfInBounds_toArray, List.set_cons_zero, List.set_cons_succ]
      refine tk_dst (i := 2) (dst := some 89) rfl rfl (by kernel_rfl) (by kernel_rfl) (by kernel_rfl) (fun _ _ _ h => h) (v := ?_) (Or.inl ⟨by rfl, ?_⟩) (by assumption) ?_
      rotate_left
      · intro w hSw; (try dsimp only at hSw); go_simp; first | done | (with_reducible rfl)
      simp only [Act.put, List.setIfInBounds_toArray, List.set_cons_zero, List.set_cons_succ]
      refine wpAnyH_ready (rs := [3]) (by kernel_rfl) (by simp) ?_
      refine AllReadyH.cons rfl (fun K hK => ?_) AllReadyH.nil
      go_simp
      go_wp2_with ((go_at_call 52; refine (rraw_any (w.heap.size + 1) _ _ (takeN s3 1) 8 _ hrD hPP (by omega)).mono ?_; rintro e wR ⟨vR, rfl, hownR, hrR, hkR⟩; obtain ⟨aR, cR, rfl, gR1, gR2, gR3⟩ := hownR.open_n N HN_.out))
      refine hK.out _ _ (trivial) (fun hHeld => ?_)
      clear hK K
      have hGR := hGD.kept hkR (by omega)
      have hAR2 := hAD.kept hkR (by omega)
      have hBR2 := hkR.below hBD (by omega) (fun j hj => by omega)
      have hsR := hkR.size
      refine wpAnyH_ready (rs := [4]) (by kernel_rfl) (by simp) ?_
      refine AllReadyH.cons rfl (fun K hK => ?_) AllReadyH.nil
      refine step_copy_splice rfl (.tmp 88) (.tmp 90) 28 28 rfl 5 Try.underlying28 (by kernel_rfl) (some ⟨g8, 9, none⟩) aR 8 8 N cR rfl rfl g8 9 (hdL ⟨0, N8.of (takeR (takeN s2 1) 8), .zero, 1, false⟩ Sl.nil) 30 hGR ((takeR (takeN s3 1) 8).map (Value.int .u8))
        (by rw [List.length_map, HN_.out]; exact (Nat.min_eq_left hN8).symm) (fun hp => ⟨rfl, gR3.cells (by rw [List.length_map, HN_.out] at hp; exact hp)⟩) (by rw [List.length_map, HN_.out, hdL_len]; omega) (oneCell_u8 _) g8 wR (Below.refl _ _) (Nat.le_refl _) ?_
      intro wS hbS hblS
      rw [sp_from _ _ _ _ _ _ (takeR8 (takeN s3 1))] at hbS
      refine hK.out _ _ trivial (fun hHeld => ?_)
      clear hK K
      refine wpAnyH_done (by kernel_rfl) ?_ _
      have hGS : At wS g8 30 (hdL ⟨0, N8.of (takeR (takeN s2 1) 8), N8.of (takeR (takeN s3 1) 8), 1, false⟩ Sl.nil) := hbS.out
      have hAS := hAR2.below hblS (by omega)
      have hrS := hrR.kept (Kept.of_belowB hblS) (by omega) (fun b hb hs => by omega)
      have hBS := hBR2.trans (hblS.mono (by omega))
      have hzS := hGS.lt
      clear hrD hGD hAD hBD hzD hownR hrR hkR hGR hAR2 hBR2 hsR hbS hblS hHeld gR1 gR2 gR3 HN_ hN8
      have HN2 : Hid (Byt (N8.of (lgR s3)).l) := Lib.hid (n8_byt _ (takeR_byt _ _ HBB.out))
      clear hr8 hG8 hAR hBR
      have c0 : wS.cell? ⟨g8, 0, none⟩ = some (.int .i64 0) := hGS.cell 0
      obtain ⟨s4, hs4⟩ : ∃ y, takeN (takeN s3 1) 8 = y := ⟨_, rfl⟩
      rw [hs4] at hrS
      have HS4 : Hid (lgN s3 = s4) := Lib.hid hs4
      have hl4 : s4.1.length ≤ s3.1.length := by rw [← hs4]; exact lgN_le s3
      have hby4 : Byt s4.1 := hrS.byt
      clear hs4
      go_wp2_with fail
      refine (rtext_any (w.heap.size + 1) _ _ s4 wS hrS hPP (by omega)).mono ?_
      rintro e wT ⟨vT, rfl, hownT, hrT, hkT⟩
      obtain ⟨NT, hNT⟩ : ∃ N, (textR s4).length = N := ⟨_, rfl⟩
      have HNT := Lib.hid hNT
      obtain ⟨tA, tc, rfl, q1, q2, q3⟩ := hownT.open_n NT hNT
      have hinT := hownT.inD_ hNT
      have hGT := hGS.kept hkT (by omega)
      have hAT := hAS.kept hkT (by omega)
      have hBT := hkT.below hBS (by omega) (fun j hj => by omega)
      have hsT := hkT.size
      have c17 : wT.cell? ⟨g8, 17, none⟩ = some (.slice none 0 0) := hGT.cell 17
      have f17 := hGT.frozen 17
      have hkk : Kept (· = g8) wT (wT.setCell ⟨g8, 17, none⟩ (.slice tA NT tc)) := (Kept.refl _ _).setAt _ _
      have hGU : At (wT.setCell ⟨g8, 17, none⟩ (.slice tA NT tc)) g8 30 (hdL ⟨0, N8.of (takeR (takeN s2 1) 8), N8.of (takeR (takeN s3 1) 8), 1, false⟩ ⟨tA, NT, tc⟩) := hGT.set 17 _
      have hAU := hAT.kept hkk (by omega)
      have hrU := hrT.kept hkk (by omega) (fun b hb e => by omega)
      have hBU := hkk.below hBT (by omega) (fun j hj => by omega)
      have hinU := (hinT.kept hkk (fun b hb e => by omega)).mono (P' := fun b => w.heap.size < b ∧ b ≠ w.heap.size + 1) (fun b _ hb => by omega)
      have hsU := hkk.size
      obtain ⟨s5, hs5⟩ : ∃ y, textN s4 = y := ⟨_, rfl⟩
      have HS5 := Lib.hid hs5
      have hl5 := textN_le s4
      rw [hs5] at hrU hl5
      have hby5 : Byt s5.1 := hrU.byt
      have c17U := hGU.cell 17
      have c17V : (wT.setCell ⟨g8, 17, none⟩ (.slice tA NT tc)).cell? ⟨g8, 17, none⟩ = some (.slice tA NT tc) := hGU.cell 17
      have hq2 := q2
      unfold maxLen at hq2
      have hzU := hGU.lt
      clear hs5 hNT hownT hrT hGT hAT hBT hinT hkT hkk hGS hAS hrS hBS c0 q3 c17U
      go_wp2_with fail
      refine (rvar_any (w.heap.size + 1) _ _ s5 _ hrU hPP).mono ?_
      rintro e wV ⟨rfl, hrV, hkV⟩
      have hGV := hGU.kept hkV (by omega)
      have hAV := hAU.kept hkV (by omega)
      have hBV := hkV.below hBU (by omega) (fun j hj => by omega)
      have hzV := hGV.lt
      have HPN : Hid (parseS bs = none) := Lib.hid (by rw [HLK.out]; exact htail_no _ _ _ _ (.inr (.inr (.inl (by rw [HS3.out]; exact HB2.out)))))
      go_wp2_with (first | ((with_reducible refine at_sth (x := .tmp 2) ?_); refine st_hd _ _ (hdL HN.zero Sl.nil) (by rfl) (by rfl) hAV (by rfl) (by rfl) (by rfl) ?_; intro w9 hA9 hk9) | fail)
      refine bodyPost_ret (results_cell_tmp3 2 3 4 5 30 (by rfl) _ 30 _ _ _ _ _ (by rfl) (by rfl) (by rfl) (by rfl) hA9 Try.underlying30 rfl hd_info) rfl ?_
      exact RPPost.no HPN.out (hk9.below hBV (by omega) (fun j hj => by omega))
  · skip
    have HB1 : Hid (byteR s2 ≠ 8) := Lib.hid (by rw [HY1.out]; simpa using hb1)
    go_wp2_with fail
    obtain ⟨N, hN⟩ : ∃ N, (takeR (takeN s2 1) 8).length = N := ⟨_, rfl⟩
    have hN8 : N ≤ 8 := by rcases takeR8 (takeN s2 1) with h | h; omega; rw [h] at hN; simp at hN; omega
    have HN_ := Lib.hid hN
    clear hN
    have hrD : Rdr w7.drew _ _ _ _ := hr7.drewN 1
    have hGD := hG7.drew
    have hAD := hAR.drew
    have hBD : Below w.heap.size w w7.drew := belowN hBR 1
    have hzD := hGD.lt
    refine wp_region_held_drew (S := (fun _ => True)) (by kernel_rfl) (trivial) (fun hHeld => ?_)
    refine tk_dst (i := 0) (dst := some 76) rfl rfl (by kernel_rfl) (by kernel_rfl) (by kernel_rfl) (fun _ _ _ h => h) (v := ?_) (Or.inl ⟨by rfl, ?_⟩) (by assumption) ?_
    rotate_left
    · intro w hSw; (try dsimp only at hSw); go_simp; first | done | (with_reducible rfl)
    simp only [Act.put, List.setIfInBounds_toArray, List.set_cons_zero, List.set_cons_succ]
    refine tk_dst (i := 1) (dst := some 77) rfl rfl (by kernel_rfl) (by kernel_rfl) (by kernel_rfl) (fun _ _ _ h => h) (v := ?_) (Or.inl ⟨by rfl, ?_⟩) (by assumption) ?_
    rotate_left
    · intro w hSw; (try dsimp only at hSw); go_simp; first | done | (with_reducible rfl)
    simp only [Act.put, List.setIfInBounds_toArray, List.set_cons_zero, List.set_cons_succ]
    refine tk_dst (i := 2) (dst := some 78) rfl rfl (by kernel_rfl) (by kernel_rfl) (by kernel_rfl) (fun _ _ _ h => h) (v := ?_) (Or.inl ⟨by rfl, ?_⟩) (by assumption) ?_
    rotate_left
    · intro w hSw; (try dsimp only at hSw); go_simp; first | done | (with_reducible rfl)
    simp only [Act.put, List.setIfInBounds_toArray, List.set_cons_zero, List.set_cons_succ]
    refine wpAnyH_ready (rs := [3]) (by kernel_rfl) (by simp) ?_
    refine AllReadyH.cons rfl (fun K hK => ?_) AllReadyH.nil
    go_simp
    go_wp2_with ((go_at_call 52; refine (rraw_any (w.heap.size + 1) _ _ (takeN s2 1) 8 _ hrD hPP (by omega)).mono ?_; rintro e wR ⟨vR, rfl, hownR, hrR, hkR⟩; obtain ⟨aR, cR, rfl, gR1, gR2, gR3⟩ := hownR.open_n N HN_.out))
    refine hK.out _ _ (trivial) (fun hHeld => ?_)
    clear hK K
    have hGR := hGD.kept hkR (by omega)
    have hAR2 := hAD.kept hkR (by omega)
    have hBR2 := hkR.below hBD (by omega) (fun j hj => by omega)
    have hsR := hkR.size
    refine wpAnyH_ready (rs := [4]) (by kernel_rfl) (by simp) ?_
    refine AllReadyH.cons rfl (fun K hK => ?_) AllReadyH.nil
    refine step_copy_splice rfl (.tmp 77) (.tmp 79) 28 28 rfl 5 Try.underlying28 (by kernel_rfl) (some ⟨g8, 1, none⟩) aR 8 8 N cR rfl rfl g8 1 (hdL ⟨0, .zero, .zero, 1, false⟩ Sl.nil) 30 hGR ((takeR (takeN s2 1) 8).map (Value.int .u8))
      (by rw [List.length_map, HN_.out]; exact (Nat.min_eq_left hN8).symm) (fun hp => ⟨rfl, gR3.cells (by rw [List.length_map, HN_.out] at hp; exact hp)⟩) (by rw [List.length_map, HN_.out, hdL_len]; omega) (oneCell_u8 _) g8 wR (Below.refl _ _) (Nat.le_refl _) ?_
    intro wS hbS hblS
    rw [sp_to _ _ _ _ _ _ (takeR8 (takeN s2 1))] at hbS
    refine hK.out _ _ trivial (fun hHeld => ?_)
    clear hK K
    refine wpAnyH_done (by kernel_rfl) ?_ _
    have hGS : At wS g8 30 (hdL ⟨0, N8.of (takeR (takeN s2 1) 8), .zero, 1, false⟩ Sl.nil) := hbS.out
    have hAS := hAR2.below hblS (by omega)
    have hrS := hrR.kept (Kept.of_belowB hblS) (by omega) (fun b hb hs => by omega)
    have hBS := hBR2.trans (hblS.mono (by omega))
    have hzS := hGS.lt
    clear hrD hGD hAD hBD hzD hownR hrR hkR hGR hAR2 hBR2 hsR hbS hblS hHeld gR1 gR2 gR3 HN_ hN8
    obtain ⟨s3, hs3⟩ : ∃ y, takeN (takeN s2 1) 8 = y := ⟨_, rfl⟩
    have HS3 : Hid (lgN s2 = s3) := Lib.hid hs3
    have hl3 : s3.1.length ≤ s2.1.length := by rw [← hs3]; exact lgN_le s2
    rw [hs3] at hrS
    clear hs3 hr7 hG7 hAR hBR
    have HN1 : Hid (Byt (N8.of (lgR s2)).l) := Lib.hid (n8_byt _ (takeR_byt _ _ HBA.out))
    have hbb2 := byteR_bd s3 hrS.byt
    go_wp2_with fail
    refine (rbyte_any (w.heap.size + 1) _ _ s3 wS hrS hPP (by omega)).mono ?_
    rintro e w8 ⟨rfl, hr8, hk8⟩
    have hG8 := hGS.kept hk8 (by omega)
    have hAR := hAS.kept hk8 (by omega)
    have hBR := hk8.below hBS (by omega) (fun j hj => by omega)
    have hs8 := hk8.size
    have hz8 := hG8.lt
    have hlB := takeN_le s3 1
    have HBB : Hid (Byt (takeN s3 1).1) := Lib.hid hr8.byt
    clear hrS hGS hAS hBS hk8 hzS
    obtain ⟨y2, hy2⟩ : ∃ y, byteR s3 = y := ⟨_, rfl⟩
    have HY2 := Lib.hid hy2
    rw [hy2]
    clear hy2
    rcases (show y2 = 8 ∨ (y2 == 8) = false by cases h : (y2 == 8); exact .inr rfl; exact .inl (by simpa using h)) with hb2 | hb2
    · skip
      subst hb2
      have HB2 : Hid (byteR s3 = 8) := Lib.hid HY2.out
      go_wp2_with fail
      obtain ⟨N, hN⟩ : ∃ N, (takeR (takeN s3 1) 8).length = N := ⟨_, rfl⟩
      have hN8 : N ≤ 8 := by rcases takeR8 (takeN s3 1) with h | h; omega; rw [h] at hN; simp at hN; omega
      have HN_ := Lib.hid hN
      clear hN
      have hrD : Rdr w8.drew _ _ _ _ := hr8.drewN 1
      have hGD := hG8.drew
      have hAD := hAR.drew
      have hBD : Below w.heap.size w w8.drew := belowN hBR 1
      have hzD := hGD.lt
      refine wp_region_held_drew (S := (fun _ => True)) (by kernel_rfl) (trivial) (fun hHeld => ?_)
      refine tk_dst (i := 0) (dst := some 87) rfl rfl (by kernel_rfl) (by kernel_rfl) (by kernel_rfl) (fun _ _ _ h => h) (v := ?_) (Or.inl ⟨by rfl, ?_⟩) (by assumption) ?_
      rotate_left
      · intro w hSw; (try dsimp only at hSw); go_simp; first | done | (with_reducible rfl)
      simp only [Act.put, List.setIfInBounds_toArray, List.set_cons_zero, List.set_cons_succ]
      refine tk_dst (i := 1) (dst := some 88) rfl rfl (by kernel_rfl) (by kernel_rfl) (by kernel_rfl) (fun _ _ _ h => h) (v := ?_) (Or.inl ⟨by rfl, ?_⟩) (by assumption) ?_
      rotate_left
      · intro w hSw; (try dsimp only at hSw); go_simp; first | done | (with_reducible rfl)
      simp only [Act.put, List.setIfInBounds_toArray, List.set_cons_zero, List.set_cons_succ]
      refine tk_dst (i := 2) (dst := some 89) rfl rfl (by kernel_rfl) (by kernel_rfl) (by kernel_rfl) (fun _ _ _ h => h) (v := ?_) (Or.inl ⟨by rfl, ?_⟩) (by assumption) ?_
      rotate_left
      · intro w hSw; (try dsimp only at hSw); go_simp; first | done | (with_reducible rfl)
      simp only [Act.put, List.setIfInBounds_toArray, List.set_cons_zero, List.set_cons_succ]
      refine wpAnyH_ready (rs := [3]) (by kernel_rfl) (by simp) ?_
      refine AllReadyH.cons rfl (fun K hK => ?_) AllReadyH.nil
      go_simp
      go_wp2_with ((go_at_call 52; refine (rraw_any (w.heap.size + 1) _ _ (takeN s3 1) 8 _ hrD hPP (by omega)).mono ?_; rintro e wR ⟨vR, rfl, hownR, hrR, hkR⟩; obtain ⟨aR, cR, rfl, gR1, gR2, gR3⟩ := hownR.open_n N HN_.out))
      refine hK.out _ _ (trivial) (fun hHeld => ?_)
      clear hK K
      have hGR := hGD.kept hkR (by omega)
      have hAR2 := hAD.kept hkR (by omega)
      have hBR2 := hkR.below hBD (by omega) (fun j hj => by omega)
      have hsR := hkR.size
      refine wpAnyH_ready (rs := [4]) (by kernel_rfl) (by simp) ?_
      refine AllReadyH.cons rfl (fun K hK => ?_) AllReadyH.nil
      refine step_copy_splice rfl (.tmp 88) (.tmp 90) 28 28 rfl 5 Try.underlying28 (by kernel_rfl) (some ⟨g8, 9, none⟩) aR 8 8 N cR rfl rfl g8 9 (hdL ⟨0, N8.of (takeR (takeN s2 1) 8), .zero, 1, false⟩ Sl.nil) 30 hGR ((takeR (takeN s3 1) 8).map (Value.int .u8))
        (by rw [List.length_map, HN_.out]; exact (Nat.min_eq_left hN8).symm) (fun hp => ⟨rfl, gR3.cells (by rw [List.length_map, HN_.out] at hp; exact hp)⟩) (by rw [List.length_map, HN_.out, hdL_len]; omega) (oneCell_u8 _) g8 wR (Below.refl _ _) (Nat.le_refl _) ?_
      intro wS hbS hblS
      rw [sp_from _ _ _ _ _ _ (takeR8 (takeN s3 1))] at hbS
      refine hK.out _ _ trivial (fun hHeld => ?_)
      clear hK K
      refine wpAnyH_done (by kernel_rfl) ?_ _
      have hGS : At wS g8 30 (hdL ⟨0, N8.of (takeR (takeN s2 1) 8), N8.of (takeR (takeN s3 1) 8), 1, false⟩ Sl.nil) := hbS.out
      have hAS := hAR2.below hblS (by omega)
      have hrS := hrR.kept (Kept.of_belowB hblS) (by omega) (fun b hb hs => by omega)
      have hBS := hBR2.trans (hblS.mono (by omega))
      have hzS := hGS.lt
      clear hrD hGD hAD hBD hzD hownR hrR hkR hGR hAR2 hBR2 hsR hbS hblS hHeld gR1 gR2 gR3 HN_ hN8
      have HN2 : Hid (Byt (N8.of (lgR s3)).l) := Lib.hid (n8_byt _ (takeR_byt _ _ HBB.out))
      clear hr8 hG8 hAR hBR
      have c0 : wS.cell? ⟨g8, 0, none⟩ = some (.int .i64 0) := hGS.cell 0
      obtain ⟨s4, hs4⟩ : ∃ y, takeN (takeN s3 1) 8 = y := ⟨_, rfl⟩
      rw [hs4] at hrS
      have HS4 : Hid (lgN s3 = s4) := Lib.hid hs4
      have hl4 : s4.1.length ≤ s3.1.length := by rw [← hs4]; exact lgN_le s3
      have hby4 : Byt s4.1 := hrS.byt
      clear hs4
      go_wp2_with fail
      refine (rtext_any (w.heap.size + 1) _ _ s4 wS hrS hPP (by omega)).mono ?_
      rintro e wT ⟨vT, rfl, hownT, hrT, hkT⟩
      obtain ⟨NT, hNT⟩ : ∃ N, (textR s4).length = N := ⟨_, rfl⟩
      have HNT := Lib.hid hNT
      obtain ⟨tA, tc, rfl, q1, q2, q3⟩ := hownT.open_n NT hNT
      have hinT := hownT.inD_ hNT
      have hGT := hGS.kept hkT (by omega)
      have hAT := hAS.kept hkT (by omega)
      have hBT := hkT.below hBS (by omega) (fun j hj => by omega)
      have hsT := hkT.size
      have c17 : wT.cell? ⟨g8, 17, none⟩ = some (.slice none 0 0) := hGT.cell 17
      have f17 := hGT.frozen 17
      have hkk : Kept (· = g8) wT (wT.setCell ⟨g8, 17, none⟩ (.slice tA NT tc)) := (Kept.refl _ _).setAt _ _
      have hGU : At (wT.setCell ⟨g8, 17, none⟩ (.slice tA NT tc)) g8 30 (hdL ⟨0, N8.of (takeR (takeN s2 1) 8), N8.of (takeR (takeN s3 1) 8), 1, false⟩ ⟨tA, NT, tc⟩) := hGT.set 17 _
      have hAU := hAT.kept hkk (by omega)
      have hrU := hrT.kept hkk (by omega) (fun b hb e => by omega)
      have hBU := hkk.below hBT (by omega) (fun j hj => by omega)
      have hinU := (hinT.kept hkk (fun b hb e => by omega)).mono (P' := fun b => w.heap.size < b ∧ b ≠ w.heap.size + 1) (fun b _ hb => by omega)
      have hsU := hkk.size
      obtain ⟨s5, hs5⟩ : ∃ y, textN s4 = y := ⟨_, rfl⟩
      have HS5 := Lib.hid hs5
      have hl5 := textN_le s4
      rw [hs5] at hrU hl5
      have hby5 : Byt s5.1 := hrU.byt
      have c17U := hGU.cell 17
      have c17V : (wT.setCell ⟨g8, 17, none⟩ (.slice tA NT tc)).cell? ⟨g8, 17, none⟩ = some (.slice tA NT tc) := hGU.cell 17
      have hq2 := q2
      unfold maxLen at hq2
      have hzU := hGU.lt
      clear hs5 hNT hownT hrT hGT hAT hBT hinT hkT hkk hGS hAS hrS hBS c0 q3 c17U
      go_wp2_with fail
      refine (rvar_any (w.heap.size + 1) _ _ s5 _ hrU hPP).mono ?_
      rintro e wV ⟨rfl, hrV, hkV⟩
      have hGV := hGU.kept hkV (by omega)
      have hAV := hAU.kept hkV (by omega)
      have hBV := hkV.below hBU (by omega) (fun j hj => by omega)
      have hzV := hGV.lt
      have HPN : Hid (parseS bs = none) := Lib.hid (by rw [HLK.out]; exact htail_no _ _ _ _ (.inr (.inl HB1.out)))
      go_wp2_with (first | ((with_reducible refine at_sth (x := .tmp 2) ?_); refine st_hd _ _ (hdL HN.zero Sl.nil) (by rfl) (by rfl) hAV (by rfl) (by rfl) (by rfl) ?_; intro w9 hA9 hk9) | fail)
      refine bodyPost_ret (results_cell_tmp3 2 3 4 5 30 (by rfl) _ 30 _ _ _ _ _ (by rfl) (by rfl) (by rfl) (by rfl) hA9 Try.underlying30 rfl hd_info) rfl ?_
      exact RPPost.no HPN.out (hk9.below hBV (by omega) (fun j hj => by omega))
    · skip
      have HB2 : Hid (byteR s3 ≠ 8) := Lib.hid (by rw [HY2.out]; simpa using hb2)
      go_wp2_with fail
      obtain ⟨N, hN⟩ : ∃ N, (takeR (takeN s3 1) 8).length = N := ⟨_, rfl⟩
      have hN8 : N ≤ 8 := by rcases takeR8 (takeN s3 1) with h | h; omega; rw [h] at hN; simp at hN; omega
      have HN_ := Lib.hid hN
      clear hN
      have hrD : Rdr w8.drew _ _ _ _ := hr8.drewN 1
      have hGD := hG8.drew
      have hAD := hAR.drew
      have hBD : Below w.heap.size w w8.drew := belowN hBR 1
      have hzD := hGD.lt
      refine wp_region_held_drew (S := (fun _ => True)) (by kernel_rfl) (trivial) (fun hHeld => ?_)
      refine tk_dst (i := 0) (dst := some 87) rfl rfl (by kernel_rfl) (by kernel_rfl) (by kernel_rfl) (fun _ _ _ h => h) (v := ?_) (Or.inl ⟨by rfl, ?_⟩) (by assumption) ?_
      rotate_left
      · intro w hSw; (try dsimp only at hSw); go_simp; first | done | (with_reducible rfl)
      simp only [Act.put, List.setIfInBounds_toArray, List.set_cons_zero, List.set_cons_succ]
      refine tk_dst (i := 1) (dst := some 88) rfl rfl (by kernel_rfl) (by kernel_rfl) (by kernel_rfl) (fun _ _ _ h => h) (v := ?_) (Or.inl ⟨by rfl, ?_⟩) (by assumption) ?_
      rotate_left
      · intro w hSw; (try dsimp only at hSw); go_simp; first | done | (with_reducible rfl)
      simp only [Act.put, List.setIfInBounds_toArray, List.set_cons_zero, List.set_cons_succ]
      refine tk_dst (i := 2) (dst := some 89) rfl rfl (by kernel_rfl) (by kernel_rfl) (by kernel_rfl) (fun _ _ _ h => h) (v := ?_) (Or.inl ⟨by rfl, ?_⟩) (by assumption) ?_
      rotate_left
      · intro w hSw; (try dsimp only at hSw); go_simp; first | done | (with_reducible rfl)
      simp only [Act.put, List.setIfInBounds_toArray, List.set_cons_zero, List.set_cons_succ]
      refine wpAnyH_ready (rs := [3]) (by kernel_rfl) (by simp) ?_
      refine AllReadyH.cons rfl (fun K hK => ?_) AllReadyH.nil
      go_simp
      go_wp2_with ((go_at_call 52; refine (rraw_any (w.heap.size + 1) _ _ (takeN s3 1) 8 _ hrD hPP (by omega)).mono ?_; rintro e wR ⟨vR, rfl, hownR, hrR, hkR⟩; obtain ⟨aR, cR, rfl, gR1, gR2, gR3⟩ := hownR.open_n N HN_.out))
      refine hK.out _ _ (trivial) (fun hHeld => ?_)
      clear hK K
      have hGR := hGD.kept hkR (by omega)
      have hAR2 := hAD.kept hkR (by omega)
      have hBR2 := hkR.below hBD (by omega) (fun j hj => by omega)
      have hsR := hkR.size
      refine wpAnyH_ready (rs := [4]) (by kernel_rfl) (by simp) ?_
      refine AllReadyH.cons rfl (fun K hK => ?_) AllReadyH.nil
      refine step_copy_splice rfl (.tmp 88) (.tmp 90) 28 28 rfl 5 Try.underlying28 (by kernel_rfl) (some ⟨g8, 9, none⟩) aR 8 8 N cR rfl rfl g8 9 (hdL ⟨0, N8.of (takeR (takeN s2 1) 8), .zero, 1, false⟩ Sl.nil) 30 hGR ((takeR (takeN s3 1) 8).map (Value.int .u8))
        (by rw [List.length_map, HN_.out]; exact (Nat.min_eq_left hN8).symm) (fun hp => ⟨rfl, gR3.cells (by rw [List.length_map, HN_.out] at hp; exact hp)⟩) (by rw [List.length_map, HN_.out, hdL_len]; omega) (oneCell_u8 _) g8 wR (Below.refl _ _) (Nat.le_refl _) ?_
      intro wS hbS hblS
      rw [sp_from _ _ _ _ _ _ (takeR8 (takeN s3 1))] at hbS
      refine hK.out _ _ trivial (fun hHeld => ?_)
      clear hK K
      refine wpAnyH_done (by kernel_rfl) ?_ _
      have hGS : At wS g8 30 (hdL ⟨0, N8.of (takeR (takeN s2 1) 8), N8.of (takeR (takeN s3 1) 8), 1, false⟩ Sl.nil) := hbS.out
      have hAS := hAR2.below hblS (by omega)
      have hrS := hrR.kept (Kept.of_belowB hblS) (by omega) (fun b hb hs => by omega)
      have hBS := hBR2.trans (hblS.mono (by omega))
      have hzS := hGS.lt
      clear hrD hGD hAD hBD hzD hownR hrR hkR hGR hAR2 hBR2 hsR hbS hblS hHeld gR1 gR2 gR3 HN_ hN8
      have HN2 : Hid (Byt (N8.of (lgR s3)).l) := Lib.hid (n8_byt _ (takeR_byt _ _ HBB.out))
      clear hr8 hG8 hAR hBR
      have c0 : wS.cell? ⟨g8, 0, none⟩ = some (.int .i64 0) := hGS.cell 0
      obtain ⟨s4, hs4⟩ : ∃ y, takeN (takeN s3 1) 8 = y := ⟨_, rfl⟩
      rw [hs4] at hrS
      have HS4 : Hid (lgN s3 = s4) := Lib.hid hs4
      have hl4 : s4.1.length ≤ s3.1.length := by rw [← hs4]; exact lgN_le s3
      have hby4 : Byt s4.1 := hrS.byt
      clear hs4
      go_wp2_with fail
      refine (rtext_any (w.heap.size + 1) _ _ s4 wS hrS hPP (by omega)).mono ?_
      rintro e wT ⟨vT, rfl, hownT, hrT, hkT⟩
      obtain ⟨NT, hNT⟩ : ∃ N, (textR s4).length = N := ⟨_, rfl⟩
      have HNT := Lib.hid hNT
      obtain ⟨tA, tc, rfl, q1, q2, q3⟩ := hownT.open_n NT hNT
      have hinT := hownT.inD_ hNT
      have hGT := hGS.kept hkT (by omega)
      have hAT := hAS.kept hkT (by omega)
      have hBT := hkT.below hBS (by omega) (fun j hj => by omega)
      have hsT := hkT.size
      have c17 : wT.cell? ⟨g8, 17, none⟩ = some (.slice none 0 0) := hGT.cell 17
      have f17 := hGT.frozen 17
      have hkk : Kept (· = g8) wT (wT.setCell ⟨g8, 17, none⟩ (.slice tA NT tc)) := (Kept.refl _ _).setAt _ _
      have hGU : At (wT.setCell ⟨g8, 17, none⟩ (.slice tA NT tc)) g8 30 (hdL ⟨0, N8.of (takeR (takeN s2 1) 8), N8.of (takeR (takeN s3 1) 8), 1, false⟩ ⟨tA, NT, tc⟩) := hGT.set 17 _
      have hAU := hAT.kept hkk (by omega)
      have hrU := hrT.kept hkk (by omega) (fun b hb e => by omega)
      have hBU := hkk.below hBT (by omega) (fun j hj => by omega)
      have hinU := (hinT.kept hkk (fun b hb e => by omega)).mono (P' := fun b => w.heap.size < b ∧ b ≠ w.heap.size + 1) (fun b _ hb => by omega)
      have hsU := hkk.size
      obtain ⟨s5, hs5⟩ : ∃ y, textN s4 = y := ⟨_, rfl⟩
      have HS5 := Lib.hid hs5
      have hl5 := textN_le s4
      rw [hs5] at hrU hl5
      have hby5 : Byt s5.1 := hrU.byt
      have c17U := hGU.cell 17
      have c17V : (wT.setCell ⟨g8, 17, none⟩ (.slice tA NT tc)).cell? ⟨g8, 17, none⟩ = some (.slice tA NT tc) := hGU.cell 17
      have hq2 := q2
      unfold maxLen at hq2
      have hzU := hGU.lt
      clear hs5 hNT hownT hrT hGT hAT hBT hinT hkT hkk hGS hAS hrS hBS c0 q3 c17U
      go_wp2_with fail
      refine (rvar_any (w.heap.size + 1) _ _ s5 _ hrU hPP).mono ?_
      rintro e wV ⟨rfl, hrV, hkV⟩
      have hGV := hGU.kept hkV (by omega)
      have hAV := hAU.kept hkV (by omega)
      have hBV := hkV.below hBU (by omega) (fun j hj => by omega)
      have hzV := hGV.lt
      have HPN : Hid (parseS bs = none) := Lib.hid (by rw [HLK.out]; exact htail_no _ _ _ _ (.inr (.inl HB1.out)))
      go_wp2_with (first | ((with_reducible refine at_sth (x := .tmp 2) ?_); refine st_hd _ _ (hdL HN.zero Sl.nil) (by rfl) (by rfl) hAV (by rfl) (by rfl) (by rfl) ?_; intro w9 hA9 hk9) | fail)
      refine bodyPost_ret (results_cell_tmp3 2 3 4 5 30 (by rfl) _ 30 _ _ _ _ _ (by rfl) (by rfl) (by rfl) (by rfl) hA9 Try.underlying30 rfl hd_info) rfl ?_
      exact RPPost.no HPN.out (hk9.below hBV (by omega) (fun j hj => by omega))
end Go.Proofs.Ytehdilgnlhhjdaa
