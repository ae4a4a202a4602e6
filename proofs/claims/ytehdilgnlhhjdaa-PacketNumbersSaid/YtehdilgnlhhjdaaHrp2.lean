/-
  The document's own Parse of a long head of no space (2).
-/
import Derived.Test.YtehdilgnlhhjdaaMq12
import Derived.IntWalk
namespace Go.Proofs.Ytehdilgnlhhjdaa
set_option linter.unusedVariables false
set_option linter.unusedSimpArgs false
open Go.RowKit
set_option maxRecDepth 100000 in
set_option maxHeartbeats 8000000 in
theorem rparse_l2 (A : Option Addr) (n c : Nat) (bs : List Int) (w : World) (hr : Rd w w.heap.size A n bs) (hn : n ≤ 1000000) (hnc : n ≤ c) (hcm : c ≤ maxLen) (hA : A = none → c = 0) (hx : ¬ byteR (bs, false) / 64 % 2 = 0) (hy : ¬ byteR (bs, false) / 128 = 0) (hsp : byteR (bs, false) / 16 % 4 = 2) :
    Calls Try.prog 28 #[.slice A n c] w (RPPost bs w) := by
  have hlen := hr.1
  have hby := hr.2.1
  have hbx := byteR_bd (bs, false) hby
  have hB1 : Below w.heap.size w ((w.alloc (.cells (hdL HN.zero Sl.nil).toArray 30)).alloc (.cells ([.slice A n c, .bool false] : List Value).toArray 96)) := ((Below.refl _ _).alloc (Nat.le_refl _) _).alloc (by simp) _
  have hA1 : At ((w.alloc (.cells (hdL HN.zero Sl.nil).toArray 30)).alloc (.cells ([.slice A n c, .bool false] : List Value).toArray 96)) w.heap.size 30 (hdL HN.zero Sl.nil) := (At.new w _ _).alloc _
  have hP1 : At ((w.alloc (.cells (hdL HN.zero Sl.nil).toArray 30)).alloc (.cells ([.slice A n c, .bool false] : List Value).toArray 96)) (w.heap.size + 1) 96 [.slice A n c, .bool false] := At.new_ _ _ _ (by simp)
  have hrp : RdP w (fun b => b < w.heap.size) A n bs := ⟨hr, fun b off hn' e => by obtain ⟨b', off', e', hb', _⟩ := hr.2.2 hn'; rw [e] at e'; injection e' with e'; injection e' with e1 e2; omega⟩
  have hr1 : Rdr ((w.alloc (.cells (hdL HN.zero Sl.nil).toArray 30)).alloc (.cells ([.slice A n c, .bool false] : List Value).toArray 96)) (w.heap.size + 1) 96 (fun b => b < w.heap.size) (bs, false) :=
    ⟨A, n, c, hP1, hnc, hcm, hA, hrp.kept (Kept.of_below hB1 (fun _ => False)) (fun _ _ h => h), fun h => by cases h⟩
  obtain ⟨w1, hw1⟩ : ∃ y, (w.alloc (.cells (hdL HN.zero Sl.nil).toArray 30)).alloc (.cells ([.slice A n c, .bool false] : List Value).toArray 96) = y := ⟨_, rfl⟩
  rw [hw1] at hB1 hA1 hr1
  have hp1 : w.heap.size + 1 < w1.heap.size := by rw [← hw1]; simp
  have hPP : ∀ b, b < w.heap.size → b ≠ w.heap.size + 1 := fun b hb => by omega
  have hl1 : (takeN (bs, false) 1).1.length ≤ bs.length := takeN_le (bs, false) 1
  clear hP1 hrp hr

  have hnb := notbad bs hx
  have hlk : parseS bs = htailS (takeN (takeN (bs, false) 1) 4) 2 bs.length (decide ((2 : Int) ≤ 1 ∧ takeR (takeN (bs, false) 1) 4 = [0, 0, 0, 1])) := by
    unfold parseS
    simp only
    rw [if_neg hx, if_neg hy, hsp]
  
  obtain ⟨x, hxx⟩ : ∃ x, byteR (bs, false) = x := ⟨_, rfl⟩
  obtain ⟨s1, hs1⟩ : ∃ s, takeN (bs, false) 1 = s := ⟨_, rfl⟩
  rw [hxx] at hbx hx hy hsp
  rw [hs1] at hl1 hlk hnb
  have HX := Lib.hid hxx
  have HS1 := Lib.hid hs1
  clear hxx hs1
  have f1 : bits BinOp.and IntKind.u8 x 64 = 64 := by rw [b_and64 x hbx.1 hbx.2]; omega
  have f2 : bits BinOp.and IntKind.u8 x 128 = 128 := by rw [b_and128 x hbx.1 hbx.2]; omega
  have f3 : bits BinOp.and IntKind.u8 (x / 16) 3 = 2 := by rw [b_and3 (x / 16) (by omega) (by omega)]; exact hsp
  obtain ⟨O1, hO1⟩ : ∃ b, decide ((2 : Int) ≤ 1 ∧ takeR s1 4 = [0, 0, 0, 1]) = b := ⟨_, rfl⟩
  have HO1' := Lib.hid hO1
  rw [hO1] at hlk
  obtain ⟨V4, hV4⟩ : ∃ y, takeR s1 4 = y := ⟨_, rfl⟩
  obtain ⟨s2, hs2e⟩ : ∃ y, takeN s1 4 = y := ⟨_, rfl⟩
  have hl2 := takeN_le s1 4
  rw [hs2e] at hlk hl2
  have HV4 := Lib.hid hV4
  have HS2 := Lib.hid hs2e
  have HLK : Hid (parseS bs = htailS s2 2 bs.length O1) := Lib.hid hlk
  clear hV4 hs2e hlk hO1
  go_enter Try.func28, Try.ntmps28
  go_wp2_with fail
  change (fun y => Calls Try.prog 51 #[.pointer (some ⟨w.heap.size + 1, 0, none⟩)] y _) ((w.alloc (.cells (hdL HN.zero Sl.nil).toArray 30)).alloc (.cells ([.slice A n c, .bool false] : List Value).toArray 96))
  rw [hw1]
  clear hw1
  refine (rbyte_any (w.heap.size + 1) _ _ (bs, false) w1 hr1 hPP (by simp only; omega)).mono ?_
  rintro e w2 ⟨rfl, hr2, hk2⟩
  rw [HX.out]
  rw [HS1.out] at hr2
  have hA2 := hA1.kept hk2 (by omega)
  have hB2 := hk2.below hB1 (by omega) (fun j hj => by omega)
  have hs2 := hk2.size
  clear hk2 hA1 hB1 hr1
  have hA3 := hA2.alloc (.cells (hdL ⟨2, .zero, .zero, 1, false⟩ Sl.nil).toArray 30)
  have hG3 := At.new w2 30 (hdL ⟨2, .zero, .zero, 1, false⟩ Sl.nil)
  have hB3 := hB2.alloc (by omega) (.cells (hdL ⟨2, .zero, .zero, 1, false⟩ Sl.nil).toArray 30)
  have hr3 := hr2.kept ((Kept.refl (fun _ => False) w2).alloc (.cells (hdL ⟨2, .zero, .zero, 1, false⟩ Sl.nil).toArray 30)) (fun h => h) (fun _ _ h => h)
  obtain ⟨g8, hg8⟩ : ∃ g, w2.heap.size = g := ⟨_, rfl⟩
  obtain ⟨w3, hw3⟩ : ∃ y, w2.alloc (.cells (hdL ⟨2, .zero, .zero, 1, false⟩ Sl.nil).toArray 30) = y := ⟨_, rfl⟩
  rw [hw3] at hA3 hG3 hB3 hr3
  rw [hg8] at hG3
  have hg8p : w.heap.size + 1 < g8 := by omega
  have hz3 := hG3.lt
  clear hA2 hB2 hr2
  obtain ⟨_, _, _, _, _, _, _, rb3⟩ := hr3.cells_
  rw [hnb] at rb3
  have c00 : w3.cell? ⟨g8, 0, none⟩ = some (.int .i64 2) := hG3.cell 0
  have f00 := hG3.frozen 0
  have hkk : Kept (· = g8) w3 (w3.setCell ⟨g8, 0, none⟩ (.int .i64 2)) := (Kept.refl _ _).setAt _ _
  have hG4 : At (w3.setCell ⟨g8, 0, none⟩ (.int .i64 2)) g8 30 (hdL ⟨2, .zero, .zero, 1, false⟩ Sl.nil) := hG3.set 0 _
  have hA4 := hA3.kept hkk (by omega)
  have hr4 := hr3.kept hkk (by omega) (fun b hb e => by omega)
  have hB4 := hkk.below hB3 (by omega) (fun j hj => by omega)
  have hs4 := hkk.size
  clear hA3 hr3 hB3 hkk
  go_wp2_with (first | ((with_reducible refine at_sth (x := .tmp 8) ?_); refine wpList_store_top w2 30 (hdL HN.zero Sl.nil) (hdL ⟨2, .zero, .zero, 1, false⟩ Sl.nil) (by rfl) _ (by rfl) hg8.symm (by rfl) (by rfl) hd_info (by rfl) ?_; rw [hw3]; clear hw3 hg8) | fail)
  obtain ⟨w4, hw4⟩ : ∃ y, w3.setCell ⟨g8, 0, none⟩ (.int .i64 2) = y := ⟨_, rfl⟩
  rw [hw4] at hG4 hA4 hr4 hB4 hs4 ⊢
  clear hw4 hG3 c00 f00
  refine (rraw_any (w.heap.size + 1) _ _ s1 4 w4 hr4 hPP (by omega)).mono ?_
  rintro e w5 ⟨v5, rfl, hown5, hr5, hk5⟩
  rw [HV4.out] at hown5
  rw [HS2.out] at hr5
  obtain ⟨N5, hN5⟩ : ∃ N, V4.length = N := ⟨_, rfl⟩
  obtain ⟨A5, c5, rfl, q51, q52, q53⟩ := hown5.open_n N5 hN5
  have hG5 := hG4.kept hk5 (by omega)
  have hA5 := hA4.kept hk5 (by omega)
  have hB5 := hk5.below hB4 (by omega) (fun j hj => by omega)
  have hs5 := hk5.size
  have hVb : Byt V4 := hown5.byt
  have c0 : w5.cell? ⟨g8, 0, none⟩ = some (.int .i64 2) := hG5.cell 0
  clear hN5 hown5 hk5 hG4 hA4 hB4 hr4
  have hOf : O1 = false := by rw [← HO1'.out]; simp
  subst hOf
  have hr6 := hr5
  have hG6 := hG5
  have hA6 := hA5
  have hB6 := hB5
  clear hr5 hG5 hA5 hB5
  go_wp2_with fail
  obtain ⟨w6, hw6⟩ : ∃ y, w5 = y := ⟨_, rfl⟩
  rw [hw6] at hr6 hG6 hA6 hB6 ⊢
  clear hw6 c0 HO1'
  have hz6 := hG6.lt
  have hbb1 := byteR_bd s2 hr6.byt
  refine (rbyte_any (w.heap.size + 1) _ _ s2 w6 hr6 hPP (by omega)).mono ?_
  rintro e w7 ⟨rfl, hr7, hk7⟩
  have hG7 := hG6.kept hk7 (by omega)
  have hAR := hA6.kept hk7 (by omega)
  have hBR := hk7.below hB6 (by omega) (fun j hj => by omega)
  have hs7 := hk7.size
  have hz7 := hG7.lt
  have hlA := takeN_le s2 1
  have HBA : Hid (Byt (takeN s2 1).1) := Lib.hid hr7.byt
  clear hr6 hG6 hA6 hB6 hk7
  obtain ⟨y1, hy1⟩ : ∃ y, byteR s2 = y := ⟨_, rfl⟩
  have HY1 := Lib.hid hy1
  rw [hy1]
  clear hy1
  rcases (show y1 = 8 ∨ (y1 == 8) = false by cases h : (y1 == 8); exact .inr rfl; exact .inl (by simpa using h)) with hb1 | hb1
  · skip
    subst hb1
    have HB1 : Hid (byteR s2 = 8) := Lib.hid HY1.out
    go_wp2_with fail
    obtain ⟨N, hN⟩ : ∃ N, (takeR (takeN s2 1) 8).length = N := ⟨_, rfl⟩
    have hN8 : N ≤ 8 := by rcases takeR8 (takeN s2 1) with h | h; omega; rw [h] at hN; simp at hN; omega
    have HN_ := Lib.hid hN
    clear hN
    have hrD : Rdr w7.drew _ _ _ _ := hr7.drewN 1
    have hGD := hG7.drew
    have hAD := hAR.drew
    have hBD : Below w.heap.size w w7.drew := belowN hBR 1
    have hzD := hGD.lt
    refine wp_region_held_drew (S := (fun _ => True)) (by kernel_rfl) (trivial) (fun hHeld => ?_)
    refine tk_dst (i := 0) (dst := some 76) rfl rfl (by kernel_rfl) (by kernel_rfl) (by kernel_rfl) (fun _ _ _ h => h) (v := ?_) (Or.inl ⟨by rfl, ?_⟩) (by assumption) ?_
    rotate_left
    · intro w hSw; (try dsimp only at hSw); go_simp; first | done | (with_reducible rfl)
    simp only [Act.put, List.setIfInBounds_toArray, List.set_cons_zero, List.set_cons_succ]
    refine tk_dst (i := 1) (dst := some 77) rfl rfl (by kernel_rfl) (by kernel_rfl) (by kernel_rfl) (fun _ _ _ h => h) (v := ?_) (Or.inl ⟨by rfl, ?_⟩) (by assumption) ?_
    rotate_left
    · intro w hSw; (try dsimp only at hSw); go_simp; first | done | (with_reducible rfl)
    simp only [Act.put, List.setIfInBounds_toArray, List.set_cons_zero, List.set_cons_succ]
    refine tk_dst (i := 2) (dst := some 78) rfl rfl (by kernel_rfl) (by kernel_rfl) (by kernel_rfl) (fun _ _ _ h => h) (v := ?_) (Or.inl ⟨by rfl, ?_⟩) (by assumption) ?_
    rotate_left
    · intro w hSw; (try dsimp only at hSw); go_simp; first | done | (with_reducible rfl)
    simp only [Act.put, List.setIfInBounds_toArray, List.set_cons_zero, List.set_cons_succ]
    refine wpAnyH_ready (rs := [3]) (by kernel_rfl) (by simp) ?_
    refine AllReadyH.cons rfl (fun K hK => ?_) AllReadyH.nil
    go_simp
    go_wp2_with ((go_at_call 52; refine (rraw_any (w.heap.size + 1) _ _ (takeN s2 1) 8 _ hrD hPP (by omega)).mono ?_; rintro e wR ⟨vR, rfl, hownR, hrR, hkR⟩; obtain ⟨aR, cR, rfl, gR1, gR2, gR3⟩ := hownR.open_n N HN_.out))
    refine hK.out _ _ (trivial) (fun hHeld => ?_)
    clear hK K
    have hGR := hGD.kept hkR (by omega)
    have hAR2 := hAD.kept hkR (by omega)
    have hBR2 := hkR.below hBD (by omega) (fun j hj => by omega)
    have hsR := hkR.size
    refine wpAnyH_ready (rs := [4]) (by kernel_rfl) (by simp) ?_
    refine AllReadyH.cons rfl (fun K hK => ?_) AllReadyH.nil
    refine step_copy_splice rfl (.tmp 77) (.tmp 79) 28 28 rfl 5 Try.underlying28 (by kernel_rfl) (some ⟨g8, 1, none⟩) aR 8 8 N cR rfl rfl g8 1 (hdL ⟨2, .zero, .zero, 1, false⟩ Sl.nil) 30 hGR ((takeR (takeN s2 1) 8).map (Value.int .u8))
      (by rw [List.length_map, HN_.out]; exact (Nat.min_eq_left hN8).symm) (fun hp => ⟨rfl, gR3.cells (by rw [List.length_map, HN_.out] at hp; exact hp)⟩) (by rw [List.length_map, HN_.out, hdL_len]; omega) (oneCell_u8 _) g8 wR (Below.refl _ _) (Nat.le_refl _) ?_
    intro wS hbS hblS
    rw [sp_to _ _ _ _ _ _ (takeR8 (takeN s2 1))] at hbS
    refine hK.out _ _ trivial (fun hHeld => ?_)
    clear hK K
    refine wpAnyH_done (by kernel_rfl) ?_ _
    have hGS : At wS g8 30 (hdL ⟨2, N8.of (takeR (takeN s2 1) 8), .zero, 1, false⟩ Sl.nil) := hbS.out
    have hAS := hAR2.below hblS (by omega)
    have hrS := hrR.kept (Kept.of_belowB hblS) (by omega) (fun b hb hs => by omega)
    have hBS := hBR2.trans (hblS.mono (by omega))
    have hzS := hGS.lt
    clear hrD hGD hAD hBD hzD hownR hrR hkR hGR hAR2 hBR2 hsR hbS hblS hHeld gR1 gR2 gR3 HN_ hN8
    obtain ⟨s3, hs3⟩ : ∃ y, takeN (takeN s2 1) 8 = y := ⟨_, rfl⟩
    have HS3 : Hid (lgN s2 = s3) := Lib.hid hs3
    have hl3 : s3.1.length ≤ s2.1.length := by rw [← hs3]; exact lgN_le s2
    rw [hs3] at hrS
    clear hs3 hr7 hG7 hAR hBR
    have HN1 : Hid (Byt (N8.of (lgR s2)).l) := Lib.hid (n8_byt _ (takeR_byt _ _ HBA.out))
    have hbb2 := byteR_bd s3 hrS.byt
    go_wp2_with fail
    refine (rbyte_any (w.heap.size + 1) _ _ s3 wS hrS hPP (by omega)).mono ?_
    rintro e w8 ⟨rfl, hr8, hk8⟩
    have hG8 := hGS.kept hk8 (by omega)
    have hAR := hAS.kept hk8 (by omega)
    have hBR := hk8.below hBS (by omega) (fun j hj => by omega)
    have hs8 := hk8.size
    have hz8 := hG8.lt
    have hlB := takeN_le s3 1
    have HBB : Hid (Byt (takeN s3 1).1) := Lib.hid hr8.byt
    clear hrS hGS hAS hBS hk8 hzS
    obtain ⟨y2, hy2⟩ : ∃ y, byteR s3 = y := ⟨_, rfl⟩
    have HY2 := Lib.hid hy2
    rw [hy2]
    clear hy2
    rcases (show y2 = 8 ∨ (y2 == 8) = false by cases h : (y2 == 8); exact .inr rfl; exact .inl (by simpa using h)) with hb2 | hb2
    · skip
      subst hb2
      have HB2 : Hid (byteR s3 = 8) := Lib.hid HY2.out
      go_wp2_with fail
      obtain ⟨N, hN⟩ : ∃ N, (takeR (takeN s3 1) 8).length = N := ⟨_, rfl⟩
      have hN8 : N ≤ 8 := by rcases takeR8 (takeN s3 1) with h | h; omega; rw [h] at hN; simp at hN; omega
      have HN_ := Lib.hid hN
      clear hN
      have hrD : Rdr w8.drew _ _ _ _ := hr8.drewN 1
      have hGD := hG8.drew
      have hAD := hAR.drew
      have hBD : Below w.heap.size w w8.drew := belowN hBR 1
      have hzD := hGD.lt
      refine wp_region_held_drew (S := (fun _ => True)) (by kernel_rfl) (trivial) (fun hHeld => ?_)
      refine tk_dst (i := 0) (dst := some 87) rfl rfl (by kernel_rfl) (by kernel_rfl) (by kernel_rfl) (fun _ _ _ h => h) (v := ?_) (Or.inl ⟨by rfl, ?_⟩) (by assumption) ?_
      rotate_left
      · intro w hSw; (try dsimp only at hSw); go_simp; first | done | (with_reducible rfl)
      simp only [Act.put, List.setIfInBounds_toArray, List.set_cons_zero, List.set_cons_succ]
      refine tk_dst (i := 1) (dst := some 88) rfl rfl (by kernel_rfl) (by kernel_rfl) (by kernel_rfl) (fun _ _ _ h => h) (v := ?_) (Or.inl ⟨by rfl, ?_⟩) (by assumption) ?_
      rotate_left
      · intro w hSw; (try dsimp only at hSw); go_simp; first | done | (with_reducible rfl)
      simp only [Act.put, List.setIfInBounds_toArray, List.set_cons_zero, List.set_cons_succ]
      refine tk_dst (i := 2) (dst := some 89) rfl rfl (by kernel_rfl) (by kernel_rfl) (by kernel_rfl) (fun _ _ _ h => h) (v := ?_) (Or.inl ⟨by rfl, ?_⟩) (by assumption) ?_
      rotate_left
      · intro w hSw; (try dsimp only at hSw); go_simp; first | done | (with_reducible rfl)
      simp only [Act.put, List.setIfInBounds_toArray, List.set_cons_zero, List.set_cons_succ]
      refine wpAnyH_ready (rs := [3]) (by kernel_rfl) (by simp) ?_
      refine AllReadyH.cons rfl (fun K hK => ?_) AllReadyH.nil
      go_simp
      go_wp2_with ((go_at_call 52; refine (rraw_any (w.heap.size + 1) _ _ (takeN s3 1) 8 _ hrD hPP (by omega)).mono ?_; rintro e wR ⟨vR, rfl, hownR, hrR, hkR⟩; obtain ⟨aR, cR, rfl, gR1, gR2, gR3⟩ := hownR.open_n N HN_.out))
      refine hK.out _ _ (trivial) (fun hHeld => ?_)
      clear hK K
      have hGR := hGD.kept hkR (by omega)
      have hAR2 := hAD.kept hkR (by omega)
      have hBR2 := hkR.below hBD (by omega) (fun j hj => by omega)
      have hsR := hkR.size
      refine wpAnyH_ready (rs := [4]) (by kernel_rfl) (by simp) ?_
      refine AllReadyH.cons rfl (fun K hK => ?_) AllReadyH.nil
      refine step_copy_splice rfl (.tmp 88) (.tmp 90) 28 28 rfl 5 Try.underlying28 (by kernel_rfl) (some ⟨g8, 9, none⟩) aR 8 8 N cR rfl rfl g8 9 (hdL ⟨2, N8.of (takeR (takeN s2 1) 8), .zero, 1, false⟩ Sl.nil) 30 hGR ((takeR (takeN s3 1) 8).map (Value.int .u8))
        (by rw [List.length_map, HN_.out]; exact (Nat.min_eq_left hN8).symm) (fun hp => ⟨rfl, gR3.cells (by rw [List.length_map, HN_.out] at hp; exact hp)⟩) (by rw [List.length_map, HN_.out, hdL_len]; omega) (oneCell_u8 _) g8 wR (Below.refl _ _) (Nat.le_refl _) ?_
      intro wS hbS hblS
      rw [sp_from _ _ _ _ _ _ (takeR8 (takeN s3 1))] at hbS
      refine hK.out _ _ trivial (fun hHeld => ?_)
      clear hK K
      refine wpAnyH_done (by kernel_rfl) ?_ _
      have hGS : At wS g8 30 (hdL ⟨2, N8.of (takeR (takeN s2 1) 8), N8.of (takeR (takeN s3 1) 8), 1, false⟩ Sl.nil) := hbS.out
      have hAS := hAR2.below hblS (by omega)
      have hrS := hrR.kept (Kept.of_belowB hblS) (by omega) (fun b hb hs => by omega)
      have hBS := hBR2.trans (hblS.mono (by omega))
      have hzS := hGS.lt
      clear hrD hGD hAD hBD hzD hownR hrR hkR hGR hAR2 hBR2 hsR hbS hblS hHeld gR1 gR2 gR3 HN_ hN8
      have HN2 : Hid (Byt (N8.of (lgR s3)).l) := Lib.hid (n8_byt _ (takeR_byt _ _ HBB.out))
      clear hr8 hG8 hAR hBR
      have c0 : wS.cell? ⟨g8, 0, none⟩ = some (.int .i64 2) := hGS.cell 0
      obtain ⟨s4, hs4⟩ : ∃ y, takeN (takeN s3 1) 8 = y := ⟨_, rfl⟩
      rw [hs4] at hrS
      have HS4 : Hid (lgN s3 = s4) := Lib.hid hs4
      have hl4 : s4.1.length ≤ s3.1.length := by rw [← hs4]; exact lgN_le s3
      have hby5 : Byt s4.1 := hrS.byt
      have hinS : InD wS (fun b => w.heap.size < b ∧ b ≠ w.heap.size + 1) Sl.nil [] := InD.nil_ _ _
      clear hs4
      go_wp2_with fail
      refine (rvar_any (w.heap.size + 1) _ _ s4 wS hrS hPP).mono ?_
      rintro e wV ⟨rfl, hrV, hkV⟩
      have hGV := hGS.kept hkV (by omega)
      have hAV := hAS.kept hkV (by omega)
      have hBV := hkV.below hBS (by omega) (fun j hj => by omega)
      have hzV := hGV.lt
      have HPN : Hid (parseS bs = none) := Lib.hid (by rw [HLK.out]; exact htail_no _ _ _ _ (.inl rfl))
      go_wp2_with (first | ((with_reducible refine at_sth (x := .tmp 2) ?_); refine st_hd _ _ (hdL HN.zero Sl.nil) (by rfl) (by rfl) hAV (by rfl) (by rfl) (by rfl) ?_; intro w9 hA9 hk9) | fail)
      refine bodyPost_ret (results_cell_tmp3 2 3 4 5 30 (by rfl) _ 30 _ _ _ _ _ (by rfl) (by rfl) (by rfl) (by rfl) hA9 Try.underlying30 rfl hd_info) rfl ?_
      exact RPPost.no HPN.out (hk9.below hBV (by omega) (fun j hj => by omega))
    · skip
      have HB2 : Hid (byteR s3 ≠ 8) := Lib.hid (by rw [HY2.out]; simpa using hb2)
      go_wp2_with fail
      obtain ⟨N, hN⟩ : ∃ N, (takeR (takeN s3 1) 8).length = N := ⟨_, rfl⟩
      have hN8 : N ≤ 8 := by rcases takeR8 (takeN s3 1) with h | h; omega; rw [h] at hN; simp at hN; omega
      have HN_ := Lib.hid hN
      clear hN
      have hrD : Rdr w8.drew _ _ _ _ := hr8.drewN 1
      have hGD := hG8.drew
      have hAD := hAR.drew
      have hBD : Below w.heap.size w w8.drew := belowN hBR 1
      have hzD := hGD.lt
      refine wp_region_held_drew (S := (fun _ => True)) (by kernel_rfl) (trivial) (fun hHeld => ?_)
      refine tk_dst (i := 0) (dst := some 87) rfl rfl (by kernel_rfl) (by kernel_rfl) (by kernel_rfl) (fun _ _ _ h => h) (v := ?_) (Or.inl ⟨by rfl, ?_⟩) (by assumption) ?_
      rotate_left
      · intro w hSw; (try dsimp only at hSw); go_simp; first | done | (with_reducible rfl)
      simp only [Act.put, List.setIfInBounds_toArray, List.set_cons_zero, List.set_cons_succ]
      refine tk_dst (i := 1) (dst := some 88) rfl rfl (by kernel_rfl) (by kernel_rfl) (by kernel_rfl) (fun _ _ _ h => h) (v := ?_) (Or.inl ⟨by rfl, ?_⟩) (by assumption) ?_
      rotate_left
      · intro w hSw; (try dsimp only at hSw); go_simp; first | done | (with_reducible rfl)
      simp only [Act.put, List.setIfInBounds_toArray, List.set_cons_zero, List.set_cons_succ]
      refine tk_dst (i := 2) (dst := some 89) rfl rfl (by kernel_rfl) (by kernel_rfl) (by kernel_rfl) (fun _ _ _ h => h) (v := ?_) (Or.inl ⟨by rfl, ?_⟩) (by assumption) ?_
      rotate_left
      · intro w hSw; (try dsimp only at hSw); go_simp; first | done | (with_reducible rfl)
      simp only [Act.put, List.setIfInBounds_toArray, List.set_cons_zero, List.set_cons_succ]
      refine wpAnyH_ready (rs := [3]) (by kernel_rfl) (by simp) ?_
      refine AllReadyH.cons rfl (fun K hK => ?_) AllReadyH.nil
      go_simp
      go_wp2_with ((go_at_call 52; refine (rraw_any (w.heap.size + 1) _ _ (takeN s3 1) 8 _ hrD hPP (by omega)).mono ?_; rintro e wR ⟨vR, rfl, hownR, hrR, hkR⟩; obtain ⟨aR, cR, rfl, gR1, gR2, gR3⟩ := hownR.open_n N HN_.out))
      refine hK.out _ _ (trivial) (fun hHeld => ?_)
      clear hK K
      have hGR := hGD.kept hkR (by omega)
      have hAR2 := hAD.kept hkR (by omega)
      have hBR2 := hkR.below hBD (by omega) (fun j hj => by omega)
      have hsR := hkR.size
      refine wpAnyH_ready (rs := [4]) (by kernel_rfl) (by simp) ?_
      refine AllReadyH.cons rfl (fun K hK => ?_) AllReadyH.nil
      refine step_copy_splice rfl (.tmp 88) (.tmp 90) 28 28 rfl 5 Try.underlying28 (by kernel_rfl) (some ⟨g8, 9, none⟩) aR 8 8 N cR rfl rfl g8 9 (hdL ⟨2, N8.of (takeR (takeN s2 1) 8), .zero, 1, false⟩ Sl.nil) 30 hGR ((takeR (takeN s3 1) 8).map (Value.int .u8))
        (by rw [List.length_map, HN_.out]; exact (Nat.min_eq_left hN8).symm) (fun hp => ⟨rfl, gR3.cells (by rw [List.length_map, HN_.out] at hp; exact hp)⟩) (by rw [List.length_map, HN_.out, hdL_len]; omega) (oneCell_u8 _) g8 wR (Below.refl _ _) (Nat.le_refl _) ?_
      intro wS hbS hblS
      rw [sp_from _ _ _ _ _ _ (takeR8 (takeN s3 1))] at hbS
      refine hK.out _ _ trivial (fun hHeld => ?_)
      clear hK K
      refine wpAnyH_done (by kernel_rfl) ?_ _
      have hGS : At wS g8 30 (hdL ⟨2, N8.of (takeR (takeN s2 1) 8), N8.of (takeR (takeN s3 1) 8), 1, false⟩ Sl.nil) := hbS.out
      have hAS := hAR2.below hblS (by omega)
      have hrS := hrR.kept (Kept.of_belowB hblS) (by omega) (fun b hb hs => by omega)
      have hBS := hBR2.trans (hblS.mono (by omega))
      have hzS := hGS.lt
      clear hrD hGD hAD hBD hzD hownR hrR hkR hGR hAR2 hBR2 hsR hbS hblS hHeld gR1 gR2 gR3 HN_ hN8
      have HN2 : Hid (Byt (N8.of (lgR s3)).l) := Lib.hid (n8_byt _ (takeR_byt _ _ HBB.out))
      clear hr8 hG8 hAR hBR
      have c0 : wS.cell? ⟨g8, 0, none⟩ = some (.int .i64 2) := hGS.cell 0
      obtain ⟨s4, hs4⟩ : ∃ y, takeN (takeN s3 1) 8 = y := ⟨_, rfl⟩
      rw [hs4] at hrS
      have HS4 : Hid (lgN s3 = s4) := Lib.hid hs4
      have hl4 : s4.1.length ≤ s3.1.length := by rw [← hs4]; exact lgN_le s3
      have hby5 : Byt s4.1 := hrS.byt
      have hinS : InD wS (fun b => w.heap.size < b ∧ b ≠ w.heap.size + 1) Sl.nil [] := InD.nil_ _ _
      clear hs4
      go_wp2_with fail
      refine (rvar_any (w.heap.size + 1) _ _ s4 wS hrS hPP).mono ?_
      rintro e wV ⟨rfl, hrV, hkV⟩
      have hGV := hGS.kept hkV (by omega)
      have hAV := hAS.kept hkV (by omega)
      have hBV := hkV.below hBS (by omega) (fun j hj => by omega)
      have hzV := hGV.lt
      have HPN : Hid (parseS bs = none) := Lib.hid (by rw [HLK.out]; exact htail_no _ _ _ _ (.inl rfl))
      go_wp2_with (first | ((with_reducible refine at_sth (x := .tmp 2) ?_); refine st_hd _ _ (hdL HN.zero Sl.nil) (by rfl) (by rfl) hAV (by rfl) (by rfl) (by rfl) ?_; intro w9 hA9 hk9) | fail)
      refine bodyPost_ret (results_cell_tmp3 2 3 4 5 30 (by rfl) _ 30 _ _ _ _ _ (by rfl) (by rfl) (by rfl) (by rfl) hA9 Try.underlying30 rfl hd_info) rfl ?_
      exact RPPost.no HPN.out (hk9.below hBV (by omega) (fun j hj => by omega))
  · skip
    have HB1 : Hid (byteR s2 ≠ 8) := Lib.hid (by rw [HY1.out]; simpa using hb1)
    go_wp2_with fail
    obtain ⟨N, hN⟩ : ∃ N, (takeR (takeN s2 1) 8).length = N := ⟨_, rfl⟩
    have hN8 : N ≤ 8 := by rcases takeR8 (takeN s2 1) with h | h; omega; rw [h] at hN; simp at hN; omega
    have HN_ := Lib.hid hN
    clear hN
    have hrD : Rdr w7.drew _ _ _ _ := hr7.drewN 1
    have hGD := hG7.drew
    have hAD := hAR.drew
    have hBD : Below w.heap.size w w7.drew := belowN hBR 1
    have hzD := hGD.lt
    refine wp_region_held_drew (S := (fun _ => True)) (by kernel_rfl) (trivial) (fun hHeld => ?_)
    refine tk_dst (i := 0) (dst := some 76) rfl rfl (by kernel_rfl) (by kernel_rfl) (by kernel_rfl) (fun _ _ _ h => h) (v := ?_) (Or.inl ⟨by rfl, ?_⟩) (by assumption) ?_
    rotate_left
    · intro w hSw; (try dsimp only at hSw); go_simp; first | done | (with_reducible rfl)
    simp only [Act.put, List.setIfInBounds_toArray, List.set_cons_zero, List.set_cons_succ]
    refine tk_dst (i := 1) (dst := some 77) rfl rfl (by kernel_rfl) (by kernel_rfl) (by kernel_rfl) (fun _ _ _ h => h) (v := ?_) (Or.inl ⟨by rfl, ?_⟩) (by assumption) ?_
    rotate_left
    · intro w hSw; (try dsimp only at hSw); go_simp; first | done | (with_reducible rfl)
    simp only [Act.put, List.setIfInBounds_toArray, List.set_cons_zero, List.set_cons_succ]
    refine tk_dst (i := 2) (dst := some 78) rfl rfl (by kernel_rfl) (by kernel_rfl) (by kernel_rfl) (fun _ _ _ h => h) (v := ?_) (Or.inl ⟨by rfl, ?_⟩) (by assumption) ?_
    rotate_left
    · intro w hSw; (try dsimp only at hSw); go_simp; first | done | (with_reducible rfl)
    simp only [Act.put, List.setIfInBounds_toArray, List.set_cons_zero, List.set_cons_succ]
    refine wpAnyH_ready (rs := [3]) (by kernel_rfl) (by simp) ?_
    refine AllReadyH.cons rfl (fun K hK => ?_) AllReadyH.nil
    go_simp
    go_wp2_with ((go_at_call 52; refine (rraw_any (w.heap.size + 1) _ _ (takeN s2 1) 8 _ hrD hPP (by omega)).mono ?_; rintro e wR ⟨vR, rfl, hownR, hrR, hkR⟩; obtain ⟨aR, cR, rfl, gR1, gR2, gR3⟩ := hownR.open_n N HN_.out))
    refine hK.out _ _ (trivial) (fun hHeld => ?_)
    clear hK K
    have hGR := hGD.kept hkR (by omega)
    have hAR2 := hAD.kept hkR (by omega)
    have hBR2 := hkR.below hBD (by omega) (fun j hj => by omega)
    have hsR := hkR.size
    refine wpAnyH_ready (rs := [4]) (by kernel_rfl) (by simp) ?_
    refine AllReadyH.cons rfl (fun K hK => ?_) AllReadyH.nil
    refine step_copy_splice rfl (.tmp 77) (.tmp 79) 28 28 rfl 5 Try.underlying28 (by kernel_rfl) (some ⟨g8, 1, none⟩) aR 8 8 N cR rfl rfl g8 1 (hdL ⟨2, .zero, .zero, 1, false⟩ Sl.nil) 30 hGR ((takeR (takeN s2 1) 8).map (Value.int .u8))
      (by rw [List.length_map, HN_.out]; exact (Nat.min_eq_left hN8).symm) (fun hp => ⟨rfl, gR3.cells (by rw [List.length_map, HN_.out] at hp; exact hp)⟩) (by rw [List.length_map, HN_.out, hdL_len]; omega) (oneCell_u8 _) g8 wR (Below.refl _ _) (Nat.le_refl _) ?_
    intro wS hbS hblS
    rw [sp_to _ _ _ _ _ _ (takeR8 (takeN s2 1))] at hbS
    refine hK.out _ _ trivial (fun hHeld => ?_)
    clear hK K
    refine wpAnyH_done (by kernel_rfl) ?_ _
    have hGS : At wS g8 30 (hdL ⟨2, N8.of (takeR (takeN s2 1) 8), .zero, 1, false⟩ Sl.nil) := hbS.out
    have hAS := hAR2.below hblS (by omega)
    have hrS := hrR.kept (Kept.of_belowB hblS) (by omega) (fun b hb hs => by omega)
    have hBS := hBR2.trans (hblS.mono (by omega))
    have hzS := hGS.lt
    clear hrD hGD hAD hBD hzD hownR hrR hkR hGR hAR2 hBR2 hsR hbS hblS hHeld gR1 gR2 gR3 HN_ hN8
    obtain ⟨s3, hs3⟩ : ∃ y, takeN (takeN s2 1) 8 = y := ⟨_, rfl⟩
    have HS3 : Hid (lgN s2 = s3) := Lib.hid hs3
    have hl3 : s3.1.length ≤ s2.1.length := by rw [← hs3]; exact lgN_le s2
    rw [hs3] at hrS
    clear hs3 hr7 hG7 hAR hBR
    have HN1 : Hid (Byt (N8.of (lgR s2)).l) := Lib.hid (n8_byt _ (takeR_byt _ _ HBA.out))
    have hbb2 := byteR_bd s3 hrS.byt
    go_wp2_with fail
    refine (rbyte_any (w.heap.size + 1) _ _ s3 wS hrS hPP (by omega)).mono ?_
    rintro e w8 ⟨rfl, hr8, hk8⟩
    have hG8 := hGS.kept hk8 (by omega)
    have hAR := hAS.kept hk8 (by omega)
    have hBR := hk8.below hBS (by omega) (fun j hj => by omega)
    have hs8 := hk8.size
    have hz8 := hG8.lt
    have hlB := takeN_le s3 1
    have HBB : Hid (Byt (takeN s3 1).1) := Lib.hid hr8.byt
    clear hrS hGS hAS hBS hk8 hzS
    obtain ⟨y2, hy2⟩ : ∃ y, byteR s3 = y := ⟨_, rfl⟩
    have HY2 := Lib.hid hy2
    rw [hy2]
    clear hy2
    rcases (show y2 = 8 ∨ (y2 == 8) = false by cases h : (y2 == 8); exact .inr rfl; exact .inl (by simpa using h)) with hb2 | hb2
    · skip
      subst hb2
      have HB2 : Hid (byteR s3 = 8) := Lib.hid HY2.out
      go_wp2_with fail
      obtain ⟨N, hN⟩ : ∃ N, (takeR (takeN s3 1) 8).length = N := ⟨_, rfl⟩
      have hN8 : N ≤ 8 := by rcases takeR8 (takeN s3 1) with h | h; omega; rw [h] at hN; simp at hN; omega
      have HN_ := Lib.hid hN
      clear hN
      have hrD : Rdr w8.drew _ _ _ _ := hr8.drewN 1
      have hGD := hG8.drew
      have hAD := hAR.drew
      have hBD : Below w.heap.size w w8.drew := belowN hBR 1
      have hzD := hGD.lt
      refine wp_region_held_drew (S := (fun _ => True)) (by kernel_rfl) (trivial) (fun hHeld => ?_)
      refine tk_dst (i := 0) (dst := some 87) rfl rfl (by kernel_rfl) (by kernel_rfl) (by kernel_rfl) (fun _ _ _ h => h) (v := ?_) (Or.inl ⟨by rfl, ?_⟩) (by assumption) ?_
      rotate_left
      · intro w hSw; (try dsimp only at hSw); go_simp; first | done | (with_reducible rfl)
      simp only [Act.put, List.setIfInBounds_toArray, List.set_cons_zero, List.set_cons_succ]
      refine tk_dst (i := 1) (dst := some 88) rfl rfl (by kernel_rfl) (by kernel_rfl) (by kernel_rfl) (fun _ _ _ h => h) (v := ?_) (Or.inl ⟨by rfl, ?_⟩) (by assumption) ?_
      rotate_left
      · intro w hSw; (try dsimp only at hSw); go_simp; first | done | (with_reducible rfl)
      simp only [Act.put, List.setIfInBounds_toArray, List.set_cons_zero, List.set_cons_succ]
      refine tk_dst (i := 2) (dst := some 89) rfl rfl (by kernel_rfl) (by kernel_rfl) (by kernel_rfl) (fun _ _ _ h => h) (v := ?_) (Or.inl ⟨by rfl, ?_⟩) (by assumption) ?_
      rotate_left
      · intro w hSw; (try dsimp only at hSw); go_simp; first | done | (with_reducible rfl)
      simp only [Act.put, List.setIfInBounds_toArray, List.set_cons_zero, List.set_cons_succ]
      refine wpAnyH_ready (rs := [3]) (by kernel_rfl) (by simp) ?_
      refine AllReadyH.cons rfl (fun K hK => ?_) AllReadyH.nil
      go_simp
      go_wp2_with ((go_at_call 52; refine (rraw_any (w.heap.size + 1) _ _ (takeN s3 1) 8 _ hrD hPP (by omega)).mono ?_; rintro e wR ⟨vR, rfl, hownR, hrR, hkR⟩; obtain ⟨aR, cR, rfl, gR1, gR2, gR3⟩ := hownR.open_n N HN_.out))
      refine hK.out _ _ (trivial) (fun hHeld => ?_)
      clear hK K
      have hGR := hGD.kept hkR (by omega)
      have hAR2 := hAD.kept hkR (by omega)
      have hBR2 := hkR.below hBD (by omega) (fun j hj => by omega)
      have hsR := hkR.size
      refine wpAnyH_ready (rs := [4]) (by kernel_rfl) (by simp) ?_
      refine AllReadyH.cons rfl (fun K hK => ?_) AllReadyH.nil
      refine step_copy_splice rfl (.tmp 88) (.tmp 90) 28 28 rfl 5 Try.underlying28 (by kernel_rfl) (some ⟨g8, 9, none⟩) aR 8 8 N cR rfl rfl g8 9 (hdL ⟨2, N8.of (takeR (takeN s2 1) 8), .zero, 1, false⟩ Sl.nil) 30 hGR ((takeR (takeN s3 1) 8).map (Value.int .u8))
        (by rw [List.length_map, HN_.out]; exact (Nat.min_eq_left hN8).symm) (fun hp => ⟨rfl, gR3.cells (by rw [List.length_map, HN_.out] at hp; exact hp)⟩) (by rw [List.length_map, HN_.out, hdL_len]; omega) (oneCell_u8 _) g8 wR (Below.refl _ _) (Nat.le_refl _) ?_
      intro wS hbS hblS
      rw [sp_from _ _ _ _ _ _ (takeR8 (takeN s3 1))] at hbS
      refine hK.out _ _ trivial (fun hHeld => ?_)
      clear hK K
      refine wpAnyH_done (by kernel_rfl) ?_ _
      have hGS : At wS g8 30 (hdL ⟨2, N8.of (takeR (takeN s2 1) 8), N8.of (takeR (takeN s3 1) 8), 1, false⟩ Sl.nil) := hbS.out
      have hAS := hAR2.below hblS (by omega)
      have hrS := hrR.kept (Kept.of_belowB hblS) (by omega) (fun b hb hs => by omega)
      have hBS := hBR2.trans (hblS.mono (by omega))
      have hzS := hGS.lt
      clear hrD hGD hAD hBD hzD hownR hrR hkR hGR hAR2 hBR2 hsR hbS hblS hHeld gR1 gR2 gR3 HN_ hN8
      have HN2 : Hid (Byt (N8.of (lgR s3)).l) := Lib.hid (n8_byt _ (takeR_byt _ _ HBB.out))
      clear hr8 hG8 hAR hBR
      have c0 : wS.cell? ⟨g8, 0, none⟩ = some (.int .i64 2) := hGS.cell 0
      obtain ⟨s4, hs4⟩ : ∃ y, takeN (takeN s3 1) 8 = y := ⟨_, rfl⟩
      rw [hs4] at hrS
      have HS4 : Hid (lgN s3 = s4) := Lib.hid hs4
      have hl4 : s4.1.length ≤ s3.1.length := by rw [← hs4]; exact lgN_le s3
      have hby5 : Byt s4.1 := hrS.byt
      have hinS : InD wS (fun b => w.heap.size < b ∧ b ≠ w.heap.size + 1) Sl.nil [] := InD.nil_ _ _
      clear hs4
      go_wp2_with fail
      refine (rvar_any (w.heap.size + 1) _ _ s4 wS hrS hPP).mono ?_
      rintro e wV ⟨rfl, hrV, hkV⟩
      have hGV := hGS.kept hkV (by omega)
      have hAV := hAS.kept hkV (by omega)
      have hBV := hkV.below hBS (by omega) (fun j hj => by omega)
      have hzV := hGV.lt
      have HPN : Hid (parseS bs = none) := Lib.hid (by rw [HLK.out]; exact htail_no _ _ _ _ (.inl rfl))
      go_wp2_with (first | ((with_reducible refine at_sth (x := .tmp 2) ?_); refine st_hd _ _ (hdL HN.zero Sl.nil) (by rfl) (by rfl) hAV (by rfl) (by rfl) (by rfl) ?_; intro w9 hA9 hk9) | fail)
      refine bodyPost_ret (results_cell_tmp3 2 3 4 5 30 (by rfl) _ 30 _ _ _ _ _ (by rfl) (by rfl) (by rfl) (by rfl) hA9 Try.underlying30 rfl hd_info) rfl ?_
      exact RPPost.no HPN.out (hk9.below hBV (by omega) (fun j hj => by omega))
    · skip
      have HB2 : Hid (byteR s3 ≠ 8) := Lib.hid (by rw [HY2.out]; simpa using hb2)
      go_wp2_with fail
      obtain ⟨N, hN⟩ : ∃ N, (takeR (takeN s3 1) 8).length = N := ⟨_, rfl⟩
      have hN8 : N ≤ 8 := by rcases takeR8 (takeN s3 1) with h | h; omega; rw [h] at hN; simp at hN; omega
      have HN_ := Lib.hid hN
      clear hN
      have hrD : Rdr w8.drew _ _ _ _ := hr8.drewN 1
      have hGD := hG8.drew
      have hAD := hAR.drew
      have hBD : Below w.heap.size w w8.drew := belowN hBR 1
      have hzD := hGD.lt
      refine wp_region_held_drew (S := (fun _ => True)) (by kernel_rfl) (trivial) (fun hHeld => ?_)
      refine tk_dst (i := 0) (dst := some 87) rfl rfl (by kernel_rfl) (by kernel_rfl) (by kernel_rfl) (fun _ _ _ h => h) (v := ?_) (Or.inl ⟨by rfl, ?_⟩) (by assumption) ?_
      rotate_left
      · intro w hSw; (try dsimp only at hSw); go_simp; first | done | (with_reducible rfl)
      simp only [Act.put, List.setIfInBounds_toArray, List.set_cons_zero, List.set_cons_succ]
      refine tk_dst (i := 1) (dst := some 88) rfl rfl (by kernel_rfl) (by kernel_rfl) (by kernel_rfl) (fun _ _ _ h => h) (v := ?_) (Or.inl ⟨by rfl, ?_⟩) (by assumption) ?_
      rotate_left
      · intro w hSw; (try dsimp only at hSw); go_simp; first | done | (with_reducible rfl)
      simp only [Act.put, List.setIfInBounds_toArray, List.set_cons_zero, List.set_cons_succ]
      refine tk_dst (i := 2) (dst := some 89) rfl rfl (by kernel_rfl) (by kernel_rfl) (by kernel_rfl) (fun _ _ _ h => h) (v := ?_) (Or.inl ⟨by rfl, ?_⟩) (by assumption) ?_
      rotate_left
      · intro w hSw; (try dsimp only at hSw); go_simp; first | done | (with_reducible rfl)
      simp only [Act.put, List.setIfInBounds_toArray, List.set_cons_zero, List.set_cons_succ]
      refine wpAnyH_ready (rs := [3]) (by kernel_rfl) (by simp) ?_
      refine AllReadyH.cons rfl (fun K hK => ?_) AllReadyH.nil
      go_simp
      go_wp2_with ((go_at_call 52; refine (rraw_any (w.heap.size + 1) _ _ (takeN s3 1) 8 _ hrD hPP (by omega)).mono ?_; rintro e wR ⟨vR, rfl, hownR, hrR, hkR⟩; obtain ⟨aR, cR, rfl, gR1, gR2, gR3⟩ := hownR.open_n N HN_.out))
      refine hK.out _ _ (trivial) (fun hHeld => ?_)
      clear hK K
      have hGR := hGD.kept hkR (by omega)
      have hAR2 := hAD.kept hkR (by omega)
      have hBR2 := hkR.below hBD (by omega) (fun j hj => by omega)
      have hsR := hkR.size
      refine wpAnyH_ready (rs := [4]) (by kernel_rfl) (by simp) ?_
      refine AllReadyH.cons rfl (fun K hK => ?_) AllReadyH.nil
      refine step_copy_splice rfl (.tmp 88) (.tmp 90) 28 28 rfl 5 Try.underlying28 (by kernel_rfl) (some ⟨g8, 9, none⟩) aR 8 8 N cR rfl rfl g8 9 (hdL ⟨2, N8.of (takeR (takeN s2 1) 8), .zero, 1, false⟩ Sl.nil) 30 hGR ((takeR (takeN s3 1) 8).map (Value.int .u8))
        (by rw [List.length_map, HN_.out]; exact (Nat.min_eq_left hN8).symm) (fun hp => ⟨rfl, gR3.cells (by rw [List.length_map, HN_.out] at hp; exact hp)⟩) (by rw [List.length_map, HN_.out, hdL_len]; omega) (oneCell_u8 _) g8 wR (Below.refl _ _) (Nat.le_refl _) ?_
      intro wS hbS hblS
      rw [sp_from _ _ _ _ _ _ (takeR8 (takeN s3 1))] at hbS
      refine hK.out _ _ trivial (fun hHeld => ?_)
      clear hK K
      refine wpAnyH_done (by kernel_rfl) ?_ _
      have hGS : At wS g8 30 (hdL ⟨2, N8.of (takeR (takeN s2 1) 8), N8.of (takeR (takeN s3 1) 8), 1, false⟩ Sl.nil) := hbS.out
      have hAS := hAR2.below hblS (by omega)
      have hrS := hrR.kept (Kept.of_belowB hblS) (by omega) (fun b hb hs => by omega)
      have hBS := hBR2.trans (hblS.mono (by omega))
      have hzS := hGS.lt
      clear hrD hGD hAD hBD hzD hownR hrR hkR hGR hAR2 hBR2 hsR hbS hblS hHeld gR1 gR2 gR3 HN_ hN8
      have HN2 : Hid (Byt (N8.of (lgR s3)).l) := Lib.hid (n8_byt _ (takeR_byt _ _ HBB.out))
      clear hr8 hG8 hAR hBR
      have c0 : wS.cell? ⟨g8, 0, none⟩ = some (.int .i64 2) := hGS.cell 0
      obtain ⟨s4, hs4⟩ : ∃ y, takeN (takeN s3 1) 8 = y := ⟨_, rfl⟩
      rw [hs4] at hrS
      have HS4 : Hid (lgN s3 = s4) := Lib.hid hs4
      have hl4 : s4.1.length ≤ s3.1.length := by rw [← hs4]; exact lgN_le s3
      have hby5 : Byt s4.1 := hrS.byt
      have hinS : InD wS (fun b => w.heap.size < b ∧ b ≠ w.heap.size + 1) Sl.nil [] := InD.nil_ _ _
      clear hs4
      go_wp2_with fail
      refine (rvar_any (w.heap.size + 1) _ _ s4 wS hrS hPP).mono ?_
      rintro e wV ⟨rfl, hrV, hkV⟩
      have hGV := hGS.kept hkV (by omega)
      have hAV := hAS.kept hkV (by omega)
      have hBV := hkV.below hBS (by omega) (fun j hj => by omega)
      have hzV := hGV.lt
      have HPN : Hid (parseS bs = none) := Lib.hid (by rw [HLK.out]; exact htail_no _ _ _ _ (.inl rfl))
      go_wp2_with (first | ((with_reducible refine at_sth (x := .tmp 2) ?_); refine st_hd _ _ (hdL HN.zero Sl.nil) (by rfl) (by rfl) hAV (by rfl) (by rfl) (by rfl) ?_; intro w9 hA9 hk9) | fail)
      refine bodyPost_ret (results_cell_tmp3 2 3 4 5 30 (by rfl) _ 30 _ _ _ _ _ (by rfl) (by rfl) (by rfl) (by rfl) hA9 Try.underlying30 rfl hd_info) rfl ?_
      exact RPPost.no HPN.out (hk9.below hBV (by omega) (fun j hj => by omega))
set_option maxRecDepth 100000 in
set_option maxHeartbeats 8000000 in
theorem rparse_l3 (A : Option Addr) (n c : Nat) (bs : List Int) (w : World) (hr : Rd w w.heap.size A n bs) (hn : n ≤ 1000000) (hnc : n ≤ c) (hcm : c ≤ maxLen) (hA : A = none → c = 0) (hx : ¬ byteR (bs, false) / 64 % 2 = 0) (hy : ¬ byteR (bs, false) / 128 = 0) (hsp : byteR (bs, false) / 16 % 4 = 3) :
    Calls Try.prog 28 #[.slice A n c] w (RPPost bs w) := by
  have hlen := hr.1
  have hby := hr.2.1
  have hbx := byteR_bd (bs, false) hby
  have hB1 : Below w.heap.size w ((w.alloc (.cells (hdL HN.zero Sl.nil).toArray 30)).alloc (.cells ([.slice A n c, .bool false] : List Value).toArray 96)) := ((Below.refl _ _).alloc (Nat.le_refl _) _).alloc (by simp) _
  have hA1 : At ((w.alloc (.cells (hdL HN.zero Sl.nil).toArray 30)).alloc (.cells ([.slice A n c, .bool false] : List Value).toArray 96)) w.heap.size 30 (hdL HN.zero Sl.nil) := (At.new w _ _).alloc _
  have hP1 : At ((w.alloc (.cells (hdL HN.zero Sl.nil).toArray 30)).alloc (.cells ([.slice A n c, .bool false] : List Value).toArray 96)) (w.heap.size + 1) 96 [.slice A n c, .bool false] := At.new_ _ _ _ (by simp)
  have hrp : RdP w (fun b => b < w.heap.size) A n bs := ⟨hr, fun b off hn' e => by obtain ⟨b', off', e', hb', _⟩ := hr.2.2 hn'; rw [e] at e'; injection e' with e'; injection e' with e1 e2; omega⟩
  have hr1 : Rdr ((w.alloc (.cells (hdL HN.zero Sl.nil).toArray 30)).alloc (.cells ([.slice A n c, .bool false] : List Value).toArray 96)) (w.heap.size + 1) 96 (fun b => b < w.heap.size) (bs, false) :=
    ⟨A, n, c, hP1, hnc, hcm, hA, hrp.kept (Kept.of_below hB1 (fun _ => False)) (fun _ _ h => h), fun h => by cases h⟩
  obtain ⟨w1, hw1⟩ : ∃ y, (w.alloc (.cells (hdL HN.zero Sl.nil).toArray 30)).alloc (.cells ([.slice A n c, .bool false] : List Value).toArray 96) = y := ⟨_, rfl⟩
  rw [hw1] at hB1 hA1 hr1
  have hp1 : w.heap.size + 1 < w1.heap.size := by rw [← hw1]; simp
  have hPP : ∀ b, b < w.heap.size → b ≠ w.heap.size + 1 := fun b hb => by omega
  have hl1 : (takeN (bs, false) 1).1.length ≤ bs.length := takeN_le (bs, false) 1
  clear hP1 hrp hr

  have hnb := notbad bs hx
  have hlk : parseS bs = htailS (takeN (takeN (bs, false) 1) 4) 3 bs.length (decide ((3 : Int) ≤ 1 ∧ takeR (takeN (bs, false) 1) 4 = [0, 0, 0, 1])) := by
    unfold parseS
    simp only
    rw [if_neg hx, if_neg hy, hsp]
  
  obtain ⟨x, hxx⟩ : ∃ x, byteR (bs, false) = x := ⟨_, rfl⟩
  obtain ⟨s1, hs1⟩ : ∃ s, takeN (bs, false) 1 = s := ⟨_, rfl⟩
  rw [hxx] at hbx hx hy hsp
  rw [hs1] at hl1 hlk hnb
  have HX := Lib.hid hxx
  have HS1 := Lib.hid hs1
  clear hxx hs1
  have f1 : bits BinOp.and IntKind.u8 x 64 = 64 := by rw [b_and64 x hbx.1 hbx.2]; omega
  have f2 : bits BinOp.and IntKind.u8 x 128 = 128 := by rw [b_and128 x hbx.1 hbx.2]; omega
  have f3 : bits BinOp.and IntKind.u8 (x / 16) 3 = 3 := by rw [b_and3 (x / 16) (by omega) (by omega)]; exact hsp
  obtain ⟨O1, hO1⟩ : ∃ b, decide ((3 : Int) ≤ 1 ∧ takeR s1 4 = [0, 0, 0, 1]) = b := ⟨_, rfl⟩
  have HO1' := Lib.hid hO1
  rw [hO1] at hlk
  obtain ⟨V4, hV4⟩ : ∃ y, takeR s1 4 = y := ⟨_, rfl⟩
  obtain ⟨s2, hs2e⟩ : ∃ y, takeN s1 4 = y := ⟨_, rfl⟩
  have hl2 := takeN_le s1 4
  rw [hs2e] at hlk hl2
  have HV4 := Lib.hid hV4
  have HS2 := Lib.hid hs2e
  have HLK : Hid (parseS bs = htailS s2 3 bs.length O1) := Lib.hid hlk
  clear hV4 hs2e hlk hO1
  go_enter Try.func28, Try.ntmps28
  go_wp2_with fail
  change (fun y => Calls Try.prog 51 #[.pointer (some ⟨w.heap.size + 1, 0, none⟩)] y _) ((w.alloc (.cells (hdL HN.zero Sl.nil).toArray 30)).alloc (.cells ([.slice A n c, .bool false] : List Value).toArray 96))
  rw [hw1]
  clear hw1
  refine (rbyte_any (w.heap.size + 1) _ _ (bs, false) w1 hr1 hPP (by simp only; omega)).mono ?_
  rintro e w2 ⟨rfl, hr2, hk2⟩
  rw [HX.out]
  rw [HS1.out] at hr2
  have hA2 := hA1.kept hk2 (by omega)
  have hB2 := hk2.below hB1 (by omega) (fun j hj => by omega)
  have hs2 := hk2.size
  clear hk2 hA1 hB1 hr1
  have hA3 := hA2.alloc (.cells (hdL ⟨2, .zero, .zero, 1, false⟩ Sl.nil).toArray 30)
  have hG3 := At.new w2 30 (hdL ⟨2, .zero, .zero, 1, false⟩ Sl.nil)
  have hB3 := hB2.alloc (by omega) (.cells (hdL ⟨2, .zero, .zero, 1, false⟩ Sl.nil).toArray 30)
  have hr3 := hr2.kept ((Kept.refl (fun _ => False) w2).alloc (.cells (hdL ⟨2, .zero, .zero, 1, false⟩ Sl.nil).toArray 30)) (fun h => h) (fun _ _ h => h)
  obtain ⟨g8, hg8⟩ : ∃ g, w2.heap.size = g := ⟨_, rfl⟩
  obtain ⟨w3, hw3⟩ : ∃ y, w2.alloc (.cells (hdL ⟨2, .zero, .zero, 1, false⟩ Sl.nil).toArray 30) = y := ⟨_, rfl⟩
  rw [hw3] at hA3 hG3 hB3 hr3
  rw [hg8] at hG3
  have hg8p : w.heap.size + 1 < g8 := by omega
  have hz3 := hG3.lt
  clear hA2 hB2 hr2
  obtain ⟨_, _, _, _, _, _, _, rb3⟩ := hr3.cells_
  rw [hnb] at rb3
  have c00 : w3.cell? ⟨g8, 0, none⟩ = some (.int .i64 2) := hG3.cell 0
  have f00 := hG3.frozen 0
  have hkk : Kept (· = g8) w3 (w3.setCell ⟨g8, 0, none⟩ (.int .i64 3)) := (Kept.refl _ _).setAt _ _
  have hG4 : At (w3.setCell ⟨g8, 0, none⟩ (.int .i64 3)) g8 30 (hdL ⟨3, .zero, .zero, 1, false⟩ Sl.nil) := hG3.set 0 _
  have hA4 := hA3.kept hkk (by omega)
  have hr4 := hr3.kept hkk (by omega) (fun b hb e => by omega)
  have hB4 := hkk.below hB3 (by omega) (fun j hj => by omega)
  have hs4 := hkk.size
  clear hA3 hr3 hB3 hkk
  go_wp2_with (first | ((with_reducible refine at_sth (x := .tmp 8) ?_); refine wpList_store_top w2 30 (hdL HN.zero Sl.nil) (hdL ⟨2, .zero, .zero, 1, false⟩ Sl.nil) (by rfl) _ (by rfl) hg8.symm (by rfl) (by rfl) hd_info (by rfl) ?_; rw [hw3]; clear hw3 hg8) | fail)
  obtain ⟨w4, hw4⟩ : ∃ y, w3.setCell ⟨g8, 0, none⟩ (.int .i64 3) = y := ⟨_, rfl⟩
  rw [hw4] at hG4 hA4 hr4 hB4 hs4 ⊢
  clear hw4 hG3 c00 f00
  refine (rraw_any (w.heap.size + 1) _ _ s1 4 w4 hr4 hPP (by omega)).mono ?_
  rintro e w5 ⟨v5, rfl, hown5, hr5, hk5⟩
  rw [HV4.out] at hown5
  rw [HS2.out] at hr5
  obtain ⟨N5, hN5⟩ : ∃ N, V4.length = N := ⟨_, rfl⟩
  obtain ⟨A5, c5, rfl, q51, q52, q53⟩ := hown5.open_n N5 hN5
  have hG5 := hG4.kept hk5 (by omega)
  have hA5 := hA4.kept hk5 (by omega)
  have hB5 := hk5.below hB4 (by omega) (fun j hj => by omega)
  have hs5 := hk5.size
  have hVb : Byt V4 := hown5.byt
  have c0 : w5.cell? ⟨g8, 0, none⟩ = some (.int .i64 3) := hG5.cell 0
  clear hN5 hown5 hk5 hG4 hA4 hB4 hr4
  have hOf : O1 = false := by rw [← HO1'.out]; simp
  subst hOf
  have hr6 := hr5
  have hG6 := hG5
  have hA6 := hA5
  have hB6 := hB5
  clear hr5 hG5 hA5 hB5
  go_wp2_with fail
  obtain ⟨w6, hw6⟩ : ∃ y, w5 = y := ⟨_, rfl⟩
  rw [hw6] at hr6 hG6 hA6 hB6 ⊢
  clear hw6 c0 HO1'
  have hz6 := hG6.lt
  have hbb1 := byteR_bd s2 hr6.byt
  refine (rbyte_any (w.heap.size + 1) _ _ s2 w6 hr6 hPP (by omega)).mono ?_
  rintro e w7 ⟨rfl, hr7, hk7⟩
  have hG7 := hG6.kept hk7 (by omega)
  have hAR := hA6.kept hk7 (by omega)
  have hBR := hk7.below hB6 (by omega) (fun j hj => by omega)
  have hs7 := hk7.size
  have hz7 := hG7.lt
  have hlA := takeN_le s2 1
  have HBA : Hid (Byt (takeN s2 1).1) := Lib.hid hr7.byt
  clear hr6 hG6 hA6 hB6 hk7
  obtain ⟨y1, hy1⟩ : ∃ y, byteR s2 = y := ⟨_, rfl⟩
  have HY1 := Lib.hid hy1
  rw [hy1]
  clear hy1
  rcases (show y1 = 8 ∨ (y1 == 8) = false by cases h : (y1 == 8); exact .inr rfl; exact .inl (by simpa using h)) with hb1 | hb1
  · skip
    subst hb1
    have HB1 : Hid (byteR s2 = 8) := Lib.hid HY1.out
    go_wp2_with fail
    obtain ⟨N, hN⟩ : ∃ N, (takeR (takeN s2 1) 8).length = N := ⟨_, rfl⟩
    have hN8 : N ≤ 8 := by rcases takeR8 (takeN s2 1) with h | h; omega; rw [h] at hN; simp at hN; omega
    have HN_ := Lib.hid hN
    clear hN
    have hrD : Rdr w7.drew _ _ _ _ := hr7.drewN 1
    have hGD := hG7.drew
    have hAD := hAR.drew
    have hBD : Below w.heap.size w w7.drew := belowN hBR 1
    have hzD := hGD.lt
    refine wp_region_held_drew (S := (fun _ => True)) (by kernel_rfl) (trivial) (fun hHeld => ?_)
    refine tk_dst (i := 0) (dst := some 76) rfl rfl (by kernel_rfl) (by kernel_rfl) (by kernel_rfl) (fun _ _ _ h => h) (v := ?_) (Or.inl ⟨by rfl, ?_⟩) (by assumption) ?_
    rotate_left
    · intro w hSw; (try dsimp only at hSw); go_simp; first | done | (with_reducible rfl)
    simp only [Act.put, List.setIfInBounds_toArray, List.set_cons_zero, List.set_cons_succ]
    refine tk_dst (i := 1) (dst := some 77) rfl rfl (by kernel_rfl) (by kernel_rfl) (by kernel_rfl) (fun _ _ _ h => h) (v := ?_) (Or.inl ⟨by rfl, ?_⟩) (by assumption) ?_
    rotate_left
    · intro w hSw; (try dsimp only at hSw); go_simp; first | done | (with_reducible rfl)
    simp only [Act.put, List.setIfInBounds_toArray, List.set_cons_zero, List.set_cons_succ]
    refine tk_dst (i := 2) (dst := some 78) rfl rfl (by kernel_rfl) (by kernel_rfl) (by kernel_rfl) (fun _ _ _ h => h) (v := ?_) (Or.inl ⟨by rfl, ?_⟩) (by assumption) ?_
    rotate_left
    · intro w hSw; (try dsimp only at hSw); go_simp; first | done | (with_reducible rfl)
    simp only [Act.put, List.setIfInBounds_toArray, List.set_cons_zero, List.set_cons_succ]
    refine wpAnyH_ready (rs := [3]) (by kernel_rfl) (by simp) ?_
    refine AllReadyH.cons rfl (fun K hK => ?_) AllReadyH.nil
    go_simp
    go_wp2_with ((go_at_call 52; refine (rraw_any (w.heap.size + 1) _ _ (takeN s2 1) 8 _ hrD hPP (by omega)).mono ?_; rintro e wR ⟨vR, rfl, hownR, hrR, hkR⟩; obtain ⟨aR, cR, rfl, gR1, gR2, gR3⟩ := hownR.open_n N HN_.out))
    refine hK.out _ _ (trivial) (fun hHeld => ?_)
    clear hK K
    have hGR := hGD.kept hkR (by omega)
    have hAR2 := hAD.kept hkR (by omega)
    have hBR2 := hkR.below hBD (by omega) (fun j hj => by omega)
    have hsR := hkR.size
    refine wpAnyH_ready (rs := [4]) (by kernel_rfl) (by simp) ?_
    refine AllReadyH.cons rfl (fun K hK => ?_) AllReadyH.nil
    refine step_copy_splice rfl (.tmp 77) (.tmp 79) 28 28 rfl 5 Try.underlying28 (by kernel_rfl) (some ⟨g8, 1, none⟩) aR 8 8 N cR rfl rfl g8 1 (hdL ⟨3, .zero, .zero, 1, false⟩ Sl.nil) 30 hGR ((takeR (takeN s2 1) 8).map (Value.int .u8))
      (by rw [List.length_map, HN_.out]; exact (Nat.min_eq_left hN8).symm) (fun hp => ⟨rfl, gR3.cells (by rw [List.length_map, HN_.out] at hp; exact hp)⟩) (by rw [List.length_map, HN_.out, hdL_len]; omega) (oneCell_u8 _) g8 wR (Below.refl _ _) (Nat.le_refl _) ?_
    intro wS hbS hblS
    rw [sp_to _ _ _ _ _ _ (takeR8 (takeN s2 1))] at hbS
    refine hK.out _ _ trivial (fun hHeld => ?_)
    clear hK K
    refine wpAnyH_done (by kernel_rfl) ?_ _
    have hGS : At wS g8 30 (hdL ⟨3, N8.of (takeR (takeN s2 1) 8), .zero, 1, false⟩ Sl.nil) := hbS.out
    have hAS := hAR2.below hblS (by omega)
    have hrS := hrR.kept (Kept.of_belowB hblS) (by omega) (fun b hb hs => by omega)
    have hBS := hBR2.trans (hblS.mono (by omega))
    have hzS := hGS.lt
    clear hrD hGD hAD hBD hzD hownR hrR hkR hGR hAR2 hBR2 hsR hbS hblS hHeld gR1 gR2 gR3 HN_ hN8
    obtain ⟨s3, hs3⟩ : ∃ y, takeN (takeN s2 1) 8 = y := ⟨_, rfl⟩
    have HS3 : Hid (lgN s2 = s3) := Lib.hid hs3
    have hl3 : s3.1.length ≤ s2.1.length := by rw [← hs3]; exact lgN_le s2
    rw [hs3] at hrS
    clear hs3 hr7 hG7 hAR hBR
    have HN1 : Hid (Byt (N8.of (lgR s2)).l) := Lib.hid (n8_byt _ (takeR_byt _ _ HBA.out))
    have hbb2 := byteR_bd s3 hrS.byt
    go_wp2_with fail
    refine (rbyte_any (w.heap.size + 1) _ _ s3 wS hrS hPP (by omega)).mono ?_
    rintro e w8 ⟨rfl, hr8, hk8⟩
    have hG8 := hGS.kept hk8 (by omega)
    have hAR := hAS.kept hk8 (by omega)
    have hBR := hk8.below hBS (by omega) (fun j hj => by omega)
    have hs8 := hk8.size
    have hz8 := hG8.lt
    have hlB := takeN_le s3 1
    have HBB : Hid (Byt (takeN s3 1).1) := Lib.hid hr8.byt
    clear hrS hGS hAS hBS hk8 hzS
    obtain ⟨y2, hy2⟩ : ∃ y, byteR s3 = y := ⟨_, rfl⟩
    have HY2 := Lib.hid hy2
    rw [hy2]
    clear hy2
    rcases (show y2 = 8 ∨ (y2 == 8) = false by cases h : (y2 == 8); exact .inr rfl; exact .inl (by simpa using h)) with hb2 | hb2
    · skip
      subst hb2
      have HB2 : Hid (byteR s3 = 8) := Lib.hid HY2.out
      go_wp2_with fail
      obtain ⟨N, hN⟩ : ∃ N, (takeR (takeN s3 1) 8).length = N := ⟨_, rfl⟩
      have hN8 : N ≤ 8 := by rcases takeR8 (takeN s3 1) with h | h; omega; rw [h] at hN; simp at hN; omega
      have HN_ := Lib.hid hN
      clear hN
      have hrD : Rdr w8.drew _ _ _ _ := hr8.drewN 1
      have hGD := hG8.drew
      have hAD := hAR.drew
      have hBD : Below w.heap.size w w8.drew := belowN hBR 1
      have hzD := hGD.lt
      refine wp_region_held_drew (S := (fun _ => True)) (by kernel_rfl) (trivial) (fun hHeld => ?_)
      refine tk_dst (i := 0) (dst := some 87) rfl rfl (by kernel_rfl) (by kernel_rfl) (by kernel_rfl) (fun _ _ _ h => h) (v := ?_) (Or.inl ⟨by rfl, ?_⟩) (by assumption) ?_
      rotate_left
      · intro w hSw; (try dsimp only at hSw); go_simp; first | done | (with_reducible rfl)
      simp only [Act.put, List.setIfInBounds_toArray, List.set_cons_zero, List.set_cons_succ]
      refine tk_dst (i := 1) (dst := some 88) rfl rfl (by kernel_rfl) (by kernel_rfl) (by kernel_rfl) (fun _ _ _ h => h) (v := ?_) (Or.inl ⟨by rfl, ?_⟩) (by assumption) ?_
      rotate_left
      · intro w hSw; (try dsimp only at hSw); go_simp; first | done | (with_reducible rfl)
      simp only [Act.put, List.setIfInBounds_toArray, List.set_cons_zero, List.set_cons_succ]
      refine tk_dst (i := 2) (dst := some 89) rfl rfl (by kernel_rfl) (by kernel_rfl) (by kernel_rfl) (fun _ _ _ h => h) (v := ?_) (Or.inl ⟨by rfl, ?_⟩) (by assumption) ?_
      rotate_left
      · intro w hSw; (try dsimp only at hSw); go_simp; first | done | (with_reducible rfl)
      simp only [Act.put, List.setIfInBounds_toArray, List.set_cons_zero, List.set_cons_succ]
      refine wpAnyH_ready (rs := [3]) (by kernel_rfl) (by simp) ?_
      refine AllReadyH.cons rfl (fun K hK => ?_) AllReadyH.nil
      go_simp
      go_wp2_with ((go_at_call 52; refine (rraw_any (w.heap.size + 1) _ _ (takeN s3 1) 8 _ hrD hPP (by omega)).mono ?_; rintro e wR ⟨vR, rfl, hownR, hrR, hkR⟩; obtain ⟨aR, cR, rfl, gR1, gR2, gR3⟩ := hownR.open_n N HN_.out))
      refine hK.out _ _ (trivial) (fun hHeld => ?_)
      clear hK K
      have hGR := hGD.kept hkR (by omega)
      have hAR2 := hAD.kept hkR (by omega)
      have hBR2 := hkR.below hBD (by omega) (fun j hj => by omega)
      have hsR := hkR.size
      refine wpAnyH_ready (rs := [4]) (by kernel_rfl) (by simp) ?_
      refine AllReadyH.cons rfl (fun K hK => ?_) AllReadyH.nil
      refine step_copy_splice rfl (.tmp 88) (.tmp 90) 28 28 rfl 5 Try.underlying28 (by kernel_rfl) (some ⟨g8, 9, none⟩) aR 8 8 N cR rfl rfl g8 9 (hdL ⟨3, N8.of (takeR (takeN s2 1) 8), .zero, 1, false⟩ Sl.nil) 30 hGR ((takeR (takeN s3 1) 8).map (Value.int .u8))
        (by rw [List.length_map, HN_.out]; exact (Nat.min_eq_left hN8).symm) (fun hp => ⟨rfl, gR3.cells (by rw [List.length_map, HN_.out] at hp; exact hp)⟩) (by rw [List.length_map, HN_.out, hdL_len]; omega) (oneCell_u8 _) g8 wR (Below.refl _ _) (Nat.le_refl _) ?_
      intro wS hbS hblS
      rw [sp_from _ _ _ _ _ _ (takeR8 (takeN s3 1))] at hbS
      refine hK.out _ _ trivial (fun hHeld => ?_)
      clear hK K
      refine wpAnyH_done (by kernel_rfl) ?_ _
      have hGS : At wS g8 30 (hdL ⟨3, N8.of (takeR (takeN s2 1) 8), N8.of (takeR (takeN s3 1) 8), 1, false⟩ Sl.nil) := hbS.out
      have hAS := hAR2.below hblS (by omega)
      have hrS := hrR.kept (Kept.of_belowB hblS) (by omega) (fun b hb hs => by omega)
      have hBS := hBR2.trans (hblS.mono (by omega))
      have hzS := hGS.lt
      clear hrD hGD hAD hBD hzD hownR hrR hkR hGR hAR2 hBR2 hsR hbS hblS hHeld gR1 gR2 gR3 HN_ hN8
      have HN2 : Hid (Byt (N8.of (lgR s3)).l) := Lib.hid (n8_byt _ (takeR_byt _ _ HBB.out))
      clear hr8 hG8 hAR hBR
      have c0 : wS.cell? ⟨g8, 0, none⟩ = some (.int .i64 3) := hGS.cell 0
      obtain ⟨s4, hs4⟩ : ∃ y, takeN (takeN s3 1) 8 = y := ⟨_, rfl⟩
      rw [hs4] at hrS
      have HS4 : Hid (lgN s3 = s4) := Lib.hid hs4
      have hl4 : s4.1.length ≤ s3.1.length := by rw [← hs4]; exact lgN_le s3
      have hby5 : Byt s4.1 := hrS.byt
      have hinS : InD wS (fun b => w.heap.size < b ∧ b ≠ w.heap.size + 1) Sl.nil [] := InD.nil_ _ _
      clear hs4
      go_wp2_with fail
      refine (rvar_any (w.heap.size + 1) _ _ s4 wS hrS hPP).mono ?_
      rintro e wV ⟨rfl, hrV, hkV⟩
      have hGV := hGS.kept hkV (by omega)
      have hAV := hAS.kept hkV (by omega)
      have hBV := hkV.below hBS (by omega) (fun j hj => by omega)
      have hzV := hGV.lt
      have HPN : Hid (parseS bs = none) := Lib.hid (by rw [HLK.out]; exact htail_no _ _ _ _ (.inl rfl))
      go_wp2_with (first | ((with_reducible refine at_sth (x := .tmp 2) ?_); refine st_hd _ _ (hdL HN.zero Sl.nil) (by rfl) (by rfl) hAV (by rfl) (by rfl) (by rfl) ?_; intro w9 hA9 hk9) | fail)
      refine bodyPost_ret (results_cell_tmp3 2 3 4 5 30 (by rfl) _ 30 _ _ _ _ _ (by rfl) (by rfl) (by rfl) (by rfl) hA9 Try.underlying30 rfl hd_info) rfl ?_
      exact RPPost.no HPN.out (hk9.below hBV (by omega) (fun j hj => by omega))
    · skip
      have HB2 : Hid (byteR s3 ≠ 8) := Lib.hid (by rw [HY2.out]; simpa using hb2)
      go_wp2_with fail
      obtain ⟨N, hN⟩ : ∃ N, (takeR (takeN s3 1) 8).length = N := ⟨_, rfl⟩
      have hN8 : N ≤ 8 := by rcases takeR8 (takeN s3 1) with h | h; omega; rw [h] at hN; simp at hN; omega
      have HN_ := Lib.hid hN
      clear hN
      have hrD : Rdr w8.drew _ _ _ _ := hr8.drewN 1
      have hGD := hG8.drew
      have hAD := hAR.drew
      have hBD : Below w.heap.size w w8.drew := belowN hBR 1
      have hzD := hGD.lt
      refine wp_region_held_drew (S := (fun _ => True)) (by kernel_rfl) (trivial) (fun hHeld => ?_)
      refine tk_dst (i := 0) (dst := some 87) rfl rfl (by kernel_rfl) (by kernel_rfl) (by kernel_rfl) (fun _ _ _ h => h) (v := ?_) (Or.inl ⟨by rfl, ?_⟩) (by assumption) ?_
      rotate_left
      · intro w hSw; (try dsimp only at hSw); go_simp; first | done | (with_reducible rfl)
      simp only [Act.put, List.setIfInBounds_toArray, List.set_cons_zero, List.set_cons_succ]
      refine tk_dst (i := 1) (dst := some 88) rfl rfl (by kernel_rfl) (by kernel_rfl) (by kernel_rfl) (fun _ _ _ h => h) (v := ?_) (Or.inl ⟨by rfl, ?_⟩) (by assumption) ?_
      rotate_left
      · intro w hSw; (try dsimp only at hSw); go_simp; first | done | (with_reducible rfl)
      simp only [Act.put, List.setIfInBounds_toArray, List.set_cons_zero, List.set_cons_succ]
      refine tk_dst (i := 2) (dst := some 89) rfl rfl (by kernel_rfl) (by kernel_rfl) (by kernel_rfl) (fun _ _ _ h => h) (v := ?_) (Or.inl ⟨by rfl, ?_⟩) (by assumption) ?_
      rotate_left
      · intro w hSw; (try dsimp only at hSw); go_simp; first | done | (with_reducible rfl)
      simp only [Act.put, List.setIfInBounds_toArray, List.set_cons_zero, List.set_cons_succ]
      refine wpAnyH_ready (rs := [3]) (by kernel_rfl) (by simp) ?_
      refine AllReadyH.cons rfl (fun K hK => ?_) AllReadyH.nil
      go_simp
      go_wp2_with ((go_at_call 52; refine (rraw_any (w.heap.size + 1) _ _ (takeN s3 1) 8 _ hrD hPP (by omega)).mono ?_; rintro e wR ⟨vR, rfl, hownR, hrR, hkR⟩; obtain ⟨aR, cR, rfl, gR1, gR2, gR3⟩ := hownR.open_n N HN_.out))
      refine hK.out _ _ (trivial) (fun hHeld => ?_)
      clear hK K
      have hGR := hGD.kept hkR (by omega)
      have hAR2 := hAD.kept hkR (by omega)
      have hBR2 := hkR.below hBD (by omega) (fun j hj => by omega)
      have hsR := hkR.size
      refine wpAnyH_ready (rs := [4]) (by kernel_rfl) (by simp) ?_
      refine AllReadyH.cons rfl (fun K hK => ?_) AllReadyH.nil
      refine step_copy_splice rfl (.tmp 88) (.tmp 90) 28 28 rfl 5 Try.underlying28 (by kernel_rfl) (some ⟨g8, 9, none⟩) aR 8 8 N cR rfl rfl g8 9 (hdL ⟨3, N8.of (takeR (takeN s2 1) 8), .zero, 1, false⟩ Sl.nil) 30 hGR ((takeR (takeN s3 1) 8).map (Value.int .u8))
        (by rw [List.length_map, HN_.out]; exact (Nat.min_eq_left hN8).symm) (fun hp => ⟨rfl, gR3.cells (by rw [List.length_map, HN_.out] at hp; exact hp)⟩) (by rw [List.length_map, HN_.out, hdL_len]; omega) (oneCell_u8 _) g8 wR (Below.refl _ _) (Nat.le_refl _) ?_
      intro wS hbS hblS
      rw [sp_from _ _ _ _ _ _ (takeR8 (takeN s3 1))] at hbS
      refine hK.out _ _ trivial (fun hHeld => ?_)
      clear hK K
      refine wpAnyH_done (by kernel_rfl) ?_ _
      have hGS : At wS g8 30 (hdL ⟨3, N8.of (takeR (takeN s2 1) 8), N8.of (takeR (takeN s3 1) 8), 1, false⟩ Sl.nil) := hbS.out
      have hAS := hAR2.below hblS (by omega)
      have hrS := hrR.kept (Kept.of_belowB hblS) (by omega) (fun b hb hs => by omega)
      have hBS := hBR2.trans (hblS.mono (by omega))
      have hzS := hGS.lt
      clear hrD hGD hAD hBD hzD hownR hrR hkR hGR hAR2 hBR2 hsR hbS hblS hHeld gR1 gR2 gR3 HN_ hN8
      have HN2 : Hid (Byt (N8.of (lgR s3)).l) := Lib.hid (n8_byt _ (takeR_byt _ _ HBB.out))
      clear hr8 hG8 hAR hBR
      have c0 : wS.cell? ⟨g8, 0, none⟩ = some (.int .i64 3) := hGS.cell 0
      obtain ⟨s4, hs4⟩ : ∃ y, takeN (takeN s3 1) 8 = y := ⟨_, rfl⟩
      rw [hs4] at hrS
      have HS4 : Hid (lgN s3 = s4) := Lib.hid hs4
      have hl4 : s4.1.length ≤ s3.1.length := by rw [← hs4]; exact lgN_le s3
      have hby5 : Byt s4.1 := hrS.byt
      have hinS : InD wS (fun b => w.heap.size < b ∧ b ≠ w.heap.size + 1) Sl.nil [] := InD.nil_ _ _
      clear hs4
      go_wp2_with fail
      refine (rvar_any (w.heap.size + 1) _ _ s4 wS hrS hPP).mono ?_
      rintro e wV ⟨rfl, hrV, hkV⟩
      have hGV := hGS.kept hkV (by omega)
      have hAV := hAS.kept hkV (by omega)
      have hBV := hkV.below hBS (by omega) (fun j hj => by omega)
      have hzV := hGV.lt
      have HPN : Hid (parseS bs = none) := Lib.hid (by rw [HLK.out]; exact htail_no _ _ _ _ (.inl rfl))
      go_wp2_with (first | ((with_reducible refine at_sth (x := .tmp 2) ?_); refine st_hd _ _ (hdL HN.zero Sl.nil) (by rfl) (by rfl) hAV (by rfl) (by rfl) (by rfl) ?_; intro w9 hA9 hk9) | fail)
      refine bodyPost_ret (results_cell_tmp3 2 3 4 5 30 (by rfl) _ 30 _ _ _ _ _ (by rfl) (by rfl) (by rfl) (by rfl) hA9 Try.underlying30 rfl hd_info) rfl ?_
      exact RPPost.no HPN.out (hk9.below hBV (by omega) (fun j hj => by omega))
  · skip
    have HB1 : Hid (byteR s2 ≠ 8) := Lib.hid (by rw [HY1.out]; simpa using hb1)
    go_wp2_with fail
    obtain ⟨N, hN⟩ : ∃ N, (takeR (takeN s2 1) 8).length = N := ⟨_, rfl⟩
    have hN8 : N ≤ 8 := by rcases takeR8 (takeN s2 1) with h | h; omega; rw [h] at hN; simp at hN; omega
    have HN_ := Lib.hid hN
    clear hN
    have hrD : Rdr w7.drew _ _ _ _ := hr7.drewN 1
    have hGD := hG7.drew
    have hAD := hAR.drew
    have hBD : Below w.heap.size w w7.drew := belowN hBR 1
    have hzD := hGD.lt
    refine wp_region_held_drew (S := (fun _ => True)) (by kernel_rfl) (trivial) (fun hHeld => ?_)
    refine tk_dst (i := 0) (dst := some 76) rfl rfl (by kernel_rfl) (by kernel_rfl) (by kernel_rfl) (fun _ _ _ h => h) (v := ?_) (Or.inl ⟨by rfl, ?_⟩) (by assumption) ?_
    rotate_left
    · intro w hSw; (try dsimp only at hSw); go_simp; first | done | (with_reducible rfl)
    simp only [Act.put, List.setIfInBounds_toArray, List.set_cons_zero, List.set_cons_succ]
    refine tk_dst (i := 1) (dst := some 77) rfl rfl (by kernel_rfl) (by kernel_rfl) (by kernel_rfl) (fun _ _ _ h => h) (v := ?_) (Or.inl ⟨by rfl, ?_⟩) (by assumption) ?_
    rotate_left
    · intro w hSw; (try dsimp only at hSw); go_simp; first | done | (with_reducible rfl)
    simp only [Act.put, List.setIfInBounds_toArray, List.set_cons_zero, List.set_cons_succ]
    refine tk_dst (i := 2) (dst := some 78) rfl rfl (by kernel_rfl) (by kernel_rfl) (by kernel_rfl) (fun _ _ _ h => h) (v := ?_) (Or.inl ⟨by rfl, ?_⟩) (by assumption) ?_
    rotate_left
    · intro w hSw; (try dsimp only at hSw); go_simp; first | done | (with_reducible rfl)
    simp only [Act.put, List.setIfInBounds_toArray, List.set_cons_zero, List.set_cons_succ]
    refine wpAnyH_ready (rs := [3]) (by kernel_rfl) (by simp) ?_
    refine AllReadyH.cons rfl (fun K hK => ?_) AllReadyH.nil
    go_simp
    go_wp2_with ((go_at_call 52; refine (rraw_any (w.heap.size + 1) _ _ (takeN s2 1) 8 _ hrD hPP (by omega)).mono ?_; rintro e wR ⟨vR, rfl, hownR, hrR, hkR⟩; obtain ⟨aR, cR, rfl, gR1, gR2, gR3⟩ := hownR.open_n N HN_.out))
    refine hK.out _ _ (trivial) (fun hHeld => ?_)
    clear hK K
    have hGR := hGD.kept hkR (by omega)
    have hAR2 := hAD.kept hkR (by omega)
    have hBR2 := hkR.below hBD (by omega) (fun j hj => by omega)
    have hsR := hkR.size
    refine wpAnyH_ready (rs := [4]) (by kernel_rfl) (by simp) ?_
    refine AllReadyH.cons rfl (fun K hK => ?_) AllReadyH.nil
    refine step_copy_splice rfl (.tmp 77) (.tmp 79) 28 28 rfl 5 Try.underlying28 (by kernel_rfl) (some ⟨g8, 1, none⟩) aR 8 8 N cR rfl rfl g8 1 (hdL ⟨3, .zero, .zero, 1, false⟩ Sl.nil) 30 hGR ((takeR (takeN s2 1) 8).map (Value.int .u8))
      (by rw [List.length_map, HN_.out]; exact (Nat.min_eq_left hN8).symm) (fun hp => ⟨rfl, gR3.cells (by rw [List.length_map, HN_.out] at hp; exact hp)⟩) (by rw [List.length_map, HN_.out, hdL_len]; omega) (oneCell_u8 _) g8 wR (Below.refl _ _) (Nat.le_refl _) ?_
    intro wS hbS hblS
    rw [sp_to _ _ _ _ _ _ (takeR8 (takeN s2 1))] at hbS
    refine hK.out _ _ trivial (fun hHeld => ?_)
    clear hK K
    refine wpAnyH_done (by kernel_rfl) ?_ _
    have hGS : At wS g8 30 (hdL ⟨3, N8.of (takeR (takeN s2 1) 8), .zero, 1, false⟩ Sl.nil) := hbS.out
    have hAS := hAR2.below hblS (by omega)
    have hrS := hrR.kept (Kept.of_belowB hblS) (by omega) (fun b hb hs => by omega)
    have hBS := hBR2.trans (hblS.mono (by omega))
    have hzS := hGS.lt
    clear hrD hGD hAD hBD hzD hownR hrR hkR hGR hAR2 hBR2 hsR hbS hblS hHeld gR1 gR2 gR3 HN_ hN8
    obtain ⟨s3, hs3⟩ : ∃ y, takeN (takeN s2 1) 8 = y := ⟨_, rfl⟩
    have HS3 : Hid (lgN s2 = s3) := Lib.hid hs3
    have hl3 : s3.1.length ≤ s2.1.length := by rw [← hs3]; exact lgN_le s2
    rw [hs3] at hrS
    clear hs3 hr7 hG7 hAR hBR
    have HN1 : Hid (Byt (N8.of (lgR s2)).l) := Lib.hid (n8_byt _ (takeR_byt _ _ HBA.out))
    have hbb2 := byteR_bd s3 hrS.byt
    go_wp2_with fail
    refine (rbyte_any (w.heap.size + 1) _ _ s3 wS hrS hPP (by omega)).mono ?_
    rintro e w8 ⟨rfl, hr8, hk8⟩
    have hG8 := hGS.kept hk8 (by omega)
    have hAR := hAS.kept hk8 (by omega)
    have hBR := hk8.below hBS (by omega) (fun j hj => by omega)
    have hs8 := hk8.size
    have hz8 := hG8.lt
    have hlB := takeN_le s3 1
    have HBB : Hid (Byt (takeN s3 1).1) := Lib.hid hr8.byt
    clear hrS hGS hAS hBS hk8 hzS
    obtain ⟨y2, hy2⟩ : ∃ y, byteR s3 = y := ⟨_, rfl⟩
    have HY2 := Lib.hid hy2
    rw [hy2]
    clear hy2
    rcases (show y2 = 8 ∨ (y2 == 8) = false by cases h : (y2 == 8); exact .inr rfl; exact .inl (by simpa using h)) with hb2 | hb2
    · skip
      subst hb2
      have HB2 : Hid (byteR s3 = 8) := Lib.hid HY2.out
      go_wp2_with fail
      obtain ⟨N, hN⟩ : ∃ N, (takeR (takeN s3 1) 8).length = N := ⟨_, rfl⟩
      have hN8 : N ≤ 8 := by rcases takeR8 (takeN s3 1) with h | h; omega; rw [h] at hN; simp at hN; omega
      have HN_ := Lib.hid hN
      clear hN
      have hrD : Rdr w8.drew _ _ _ _ := hr8.drewN 1
      have hGD := hG8.drew
      have hAD := hAR.drew
      have hBD : Below w.heap.size w w8.drew := belowN hBR 1
      have hzD := hGD.lt
      refine wp_region_held_drew (S := (fun _ => True)) (by kernel_rfl) (trivial) (fun hHeld => ?_)
      refine tk_dst (i := 0) (dst := some 87) rfl rfl (by kernel_rfl) (by kernel_rfl) (by kernel_rfl) (fun _ _ _ h => h) (v := ?_) (Or.inl ⟨by rfl, ?_⟩) (by assumption) ?_
      rotate_left
      · intro w hSw; (try dsimp only at hSw); go_simp; first | done | (with_reducible rfl)
      simp only [Act.put, List.setIfInBounds_toArray, List.set_cons_zero, List.set_cons_succ]
      refine tk_dst (i := 1) (dst := some 88) rfl rfl (by kernel_rfl) (by kernel_rfl) (by kernel_rfl) (fun _ _ _ h => h) (v := ?_) (Or.inl ⟨by rfl, ?_⟩) (by assumption) ?_
      rotate_left
      · intro w hSw; (try dsimp only at hSw); go_simp; first | done | (with_reducible rfl)
      simp only [Act.put, List.setIfInBounds_toArray, List.set_cons_zero, List.set_cons_succ]
      refine tk_dst (i := 2) (dst := some 89) rfl rfl (by kernel_rfl) (by kernel_rfl) (by kernel_rfl) (fun _ _ _ h => h) (v := ?_) (Or.inl ⟨by rfl, ?_⟩) (by assumption) ?_
      rotate_left
      · intro w hSw; (try dsimp only at hSw); go_simp; first | done | (with_reducible rfl)
      simp only [Act.put, List.setIfInBounds_toArray, List.set_cons_zero, List.set_cons_succ]
      refine wpAnyH_ready (rs := [3]) (by kernel_rfl) (by simp) ?_
      refine AllReadyH.cons rfl (fun K hK => ?_) AllReadyH.nil
      go_simp
      go_wp2_with ((go_at_call 52; refine (rraw_any (w.heap.size + 1) _ _ (takeN s3 1) 8 _ hrD hPP (by omega)).mono ?_; rintro e wR ⟨vR, rfl, hownR, hrR, hkR⟩; obtain ⟨aR, cR, rfl, gR1, gR2, gR3⟩ := hownR.open_n N HN_.out))
      refine hK.out _ _ (trivial) (fun hHeld => ?_)
      clear hK K
      have hGR := hGD.kept hkR (by omega)
      have hAR2 := hAD.kept hkR (by omega)
      have hBR2 := hkR.below hBD (by omega) (fun j hj => by omega)
      have hsR := hkR.size
      refine wpAnyH_ready (rs := [4]) (by kernel_rfl) (by simp) ?_
      refine AllReadyH.cons rfl (fun K hK => ?_) AllReadyH.nil
      refine step_copy_splice rfl (.tmp 88) (.tmp 90) 28 28 rfl 5 Try.underlying28 (by kernel_rfl) (some ⟨g8, 9, none⟩) aR 8 8 N cR rfl rfl g8 9 (hdL ⟨3, N8.of (takeR (takeN s2 1) 8), .zero, 1, false⟩ Sl.nil) 30 hGR ((takeR (takeN s3 1) 8).map (Value.int .u8))
        (by rw [List.length_map, HN_.out]; exact (Nat.min_eq_left hN8).symm) (fun hp => ⟨rfl, gR3.cells (by rw [List.length_map, HN_.out] at hp; exact hp)⟩) (by rw [List.length_map, HN_.out, hdL_len]; omega) (oneCell_u8 _) g8 wR (Below.refl _ _) (Nat.le_refl _) ?_
      intro wS hbS hblS
      rw [sp_from _ _ _ _ _ _ (takeR8 (takeN s3 1))] at hbS
      refine hK.out _ _ trivial (fun hHeld => ?_)
      clear hK K
      refine wpAnyH_done (by kernel_rfl) ?_ _
      have hGS : At wS g8 30 (hdL ⟨3, N8.of (takeR (takeN s2 1) 8), N8.of (takeR (takeN s3 1) 8), 1, false⟩ Sl.nil) := hbS.out
      have hAS := hAR2.below hblS (by omega)
      have hrS := hrR.kept (Kept.of_belowB hblS) (by omega) (fun b hb hs => by omega)
      have hBS := hBR2.trans (hblS.mono (by omega))
      have hzS := hGS.lt
      clear hrD hGD hAD hBD hzD hownR hrR hkR hGR hAR2 hBR2 hsR hbS hblS hHeld gR1 gR2 gR3 HN_ hN8
      have HN2 : Hid (Byt (N8.of (lgR s3)).l) := Lib.hid (n8_byt _ (takeR_byt _ _ HBB.out))
      clear hr8 hG8 hAR hBR
      have c0 : wS.cell? ⟨g8, 0, none⟩ = some (.int .i64 3) := hGS.cell 0
      obtain ⟨s4, hs4⟩ : ∃ y, takeN (takeN s3 1) 8 = y := ⟨_, rfl⟩
      rw [hs4] at hrS
      have HS4 : Hid (lgN s3 = s4) := Lib.hid hs4
      have hl4 : s4.1.length ≤ s3.1.length := by rw [← hs4]; exact lgN_le s3
      have hby5 : Byt s4.1 := hrS.byt
      have hinS : InD wS (fun b => w.heap.size < b ∧ b ≠ w.heap.size + 1) Sl.nil [] := InD.nil_ _ _
      clear hs4
      go_wp2_with fail
      refine (rvar_any (w.heap.size + 1) _ _ s4 wS hrS hPP).mono ?_
      rintro e wV ⟨rfl, hrV, hkV⟩
      have hGV := hGS.kept hkV (by omega)
      have hAV := hAS.kept hkV (by omega)
      have hBV := hkV.below hBS (by omega) (fun j hj => by omega)
      have hzV := hGV.lt
      have HPN : Hid (parseS bs = none) := Lib.hid (by rw [HLK.out]; exact htail_no _ _ _ _ (.inl rfl))
      go_wp2_with (first | ((with_reducible refine at_sth (x := .tmp 2) ?_); refine st_hd _ _ (hdL HN.zero Sl.nil) (by rfl) (by rfl) hAV (by rfl) (by rfl) (by rfl) ?_; intro w9 hA9 hk9) | fail)
      refine bodyPost_ret (results_cell_tmp3 2 3 4 5 30 (by rfl) _ 30 _ _ _ _ _ (by rfl) (by rfl) (by rfl) (by rfl) hA9 Try.underlying30 rfl hd_info) rfl ?_
      exact RPPost.no HPN.out (hk9.below hBV (by omega) (fun j hj => by omega))
    · skip
      have HB2 : Hid (byteR s3 ≠ 8) := Lib.hid (by rw [HY2.out]; simpa using hb2)
      go_wp2_with fail
      obtain ⟨N, hN⟩ : ∃ N, (takeR (takeN s3 1) 8).length = N := ⟨_, rfl⟩
      have hN8 : N ≤ 8 := by rcases takeR8 (takeN s3 1) with h | h; omega; rw [h] at hN; simp at hN; omega
      have HN_ := Lib.hid hN
      clear hN
      have hrD : Rdr w8.drew _ _ _ _ := hr8.drewN 1
      have hGD := hG8.drew
      have hAD := hAR.drew
      have hBD : Below w.heap.size w w8.drew := belowN hBR 1
      have hzD := hGD.lt
      refine wp_region_held_drew (S := (fun _ => True)) (by kernel_rfl) (trivial) (fun hHeld => ?_)
      refine tk_dst (i := 0) (dst := some 87) rfl rfl (by kernel_rfl) (by kernel_rfl) (by kernel_rfl) (fun _ _ _ h => h) (v := ?_) (Or.inl ⟨by rfl, ?_⟩) (by assumption) ?_
      rotate_left
      · intro w hSw; (try dsimp only at hSw); go_simp; first | done | (with_reducible rfl)
      simp only [Act.put, List.setIfInBounds_toArray, List.set_cons_zero, List.set_cons_succ]
      refine tk_dst (i := 1) (dst := some 88) rfl rfl (by kernel_rfl) (by kernel_rfl) (by kernel_rfl) (fun _ _ _ h => h) (v := ?_) (Or.inl ⟨by rfl, ?_⟩) (by assumption) ?_
      rotate_left
      · intro w hSw; (try dsimp only at hSw); go_simp; first | done | (with_reducible rfl)
      simp only [Act.put, List.setIfInBounds_toArray, List.set_cons_zero, List.set_cons_succ]
      refine tk_dst (i := 2) (dst := some 89) rfl rfl (by kernel_rfl) (by kernel_rfl) (by kernel_rfl) (fun _ _ _ h => h) (v := ?_) (Or.inl ⟨by rfl, ?_⟩) (by assumption) ?_
      rotate_left
      · intro w hSw; (try dsimp only at hSw); go_simp; first | done | (with_reducible rfl)
      simp only [Act.put, List.setIfInBounds_toArray, List.set_cons_zero, List.set_cons_succ]
      refine wpAnyH_ready (rs := [3]) (by kernel_rfl) (by simp) ?_
      refine AllReadyH.cons rfl (fun K hK => ?_) AllReadyH.nil
      go_simp
      go_wp2_with ((go_at_call 52; refine (rraw_any (w.heap.size + 1) _ _ (takeN s3 1) 8 _ hrD hPP (by omega)).mono ?_; rintro e wR ⟨vR, rfl, hownR, hrR, hkR⟩; obtain ⟨aR, cR, rfl, gR1, gR2, gR3⟩ := hownR.open_n N HN_.out))
      refine hK.out _ _ (trivial) (fun hHeld => ?_)
      clear hK K
      have hGR := hGD.kept hkR (by omega)
      have hAR2 := hAD.kept hkR (by omega)
      have hBR2 := hkR.below hBD (by omega) (fun j hj => by omega)
      have hsR := hkR.size
      refine wpAnyH_ready (rs := [4]) (by kernel_rfl) (by simp) ?_
      refine AllReadyH.cons rfl (fun K hK => ?_) AllReadyH.nil
      refine step_copy_splice rfl (.tmp 88) (.tmp 90) 28 28 rfl 5 Try.underlying28 (by kernel_rfl) (some ⟨g8, 9, none⟩) aR 8 8 N cR rfl rfl g8 9 (hdL ⟨3, N8.of (takeR (takeN s2 1) 8), .zero, 1, false⟩ Sl.nil) 30 hGR ((takeR (takeN s3 1) 8).map (Value.int .u8))
        (by rw [List.length_map, HN_.out]; exact (Nat.min_eq_left hN8).symm) (fun hp => ⟨rfl, gR3.cells (by rw [List.length_map, HN_.out] at hp; exact hp)⟩) (by rw [List.length_map, HN_.out, hdL_len]; omega) (oneCell_u8 _) g8 wR (Below.refl _ _) (Nat.le_refl _) ?_
      intro wS hbS hblS
      rw [sp_from _ _ _ _ _ _ (takeR8 (takeN s3 1))] at hbS
      refine hK.out _ _ trivial (fun hHeld => ?_)
      clear hK K
      refine wpAnyH_done (by kernel_rfl) ?_ _
      have hGS : At wS g8 30 (hdL ⟨3, N8.of (takeR (takeN s2 1) 8), N8.of (takeR (takeN s3 1) 8), 1, false⟩ Sl.nil) := hbS.out
      have hAS := hAR2.below hblS (by omega)
      have hrS := hrR.kept (Kept.of_belowB hblS) (by omega) (fun b hb hs => by omega)
      have hBS := hBR2.trans (hblS.mono (by omega))
      have hzS := hGS.lt
      clear hrD hGD hAD hBD hzD hownR hrR hkR hGR hAR2 hBR2 hsR hbS hblS hHeld gR1 gR2 gR3 HN_ hN8
      have HN2 : Hid (Byt (N8.of (lgR s3)).l) := Lib.hid (n8_byt _ (takeR_byt _ _ HBB.out))
      clear hr8 hG8 hAR hBR
      have c0 : wS.cell? ⟨g8, 0, none⟩ = some (.int .i64 3) := hGS.cell 0
      obtain ⟨s4, hs4⟩ : ∃ y, takeN (takeN s3 1) 8 = y := ⟨_, rfl⟩
      rw [hs4] at hrS
      have HS4 : Hid (lgN s3 = s4) := Lib.hid hs4
      have hl4 : s4.1.length ≤ s3.1.length := by rw [← hs4]; exact lgN_le s3
      have hby5 : Byt s4.1 := hrS.byt
      have hinS : InD wS (fun b => w.heap.size < b ∧ b ≠ w.heap.size + 1) Sl.nil [] := InD.nil_ _ _
      clear hs4
      go_wp2_with fail
      refine (rvar_any (w.heap.size + 1) _ _ s4 wS hrS hPP).mono ?_
      rintro e wV ⟨rfl, hrV, hkV⟩
      have hGV := hGS.kept hkV (by omega)
      have hAV := hAS.kept hkV (by omega)
      have hBV := hkV.below hBS (by omega) (fun j hj => by omega)
      have hzV := hGV.lt
      have HPN : Hid (parseS bs = none) := Lib.hid (by rw [HLK.out]; exact htail_no _ _ _ _ (.inl rfl))
      go_wp2_with (first | ((with_reducible refine at_sth (x := .tmp 2) ?_); refine st_hd _ _ (hdL HN.zero Sl.nil) (by rfl) (by rfl) hAV (by rfl) (by rfl) (by rfl) ?_; intro w9 hA9 hk9) | fail)
      refine bodyPost_ret (results_cell_tmp3 2 3 4 5 30 (by rfl) _ 30 _ _ _ _ _ (by rfl) (by rfl) (by rfl) (by rfl) hA9 Try.underlying30 rfl hd_info) rfl ?_
      exact RPPost.no HPN.out (hk9.below hBV (by omega) (fun j hj => by omega))
end Go.Proofs.Ytehdilgnlhhjdaa
