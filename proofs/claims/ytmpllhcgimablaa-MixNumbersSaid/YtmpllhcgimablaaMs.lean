/-
  same: what package mix answers, of any key and bytes, the document's own does.
-/
import Derived.Test.YtmpllhcgimablaaMb
import Derived.Test.YtmpllhcgimablaaSteps
namespace Go.Proofs.Ytmpllhcgimablaa
set_option linter.unusedVariables false
set_option linter.unusedSimpArgs false
open Go.RowKit Go.ChangeShapes Go.WideShapes Go.Deep
theorem At.rd8 {w : World} {g : Nat} {T : TypeId} {m : N8} (h : At w g T (m.l.map (Value.int .u8))) (hb : Byt m.l) : Rd w w.heap.size (some ⟨g, 0, none⟩) 8 m.l := by
  refine ⟨rfl, hb, fun _ => ⟨g, 0, rfl, h.lt, fun i hi => ?_⟩⟩
  rw [h.cell]
  have : i = 0 ∨ i = 1 ∨ i = 2 ∨ i = 3 ∨ i = 4 ∨ i = 5 ∨ i = 6 ∨ i = 7 := by omega
  rcases this with rfl | rfl | rfl | rfl | rfl | rfl | rfl | rfl <;> rfl
set_option maxRecDepth 100000 in
set_option maxHeartbeats 2000000 in
theorem msame_any (key : Int) (A : Option Addr) (n c : Nat) (bs : List Int) (w : World) (hr : Rd w w.heap.size A n bs) (hn : n ≤ c) (hc : c ≤ maxLen) (k0 : 0 ≤ key) (k1 : key < 18446744073709551616) :
    Calls Try.prog 5 #[.int .u64 key, .slice A n c] w fun e w' => e = .returned (.bool true) ∧ Below w.heap.size w w' := by
  have hnk := fun W => number_any (b8 key) W (b8_byt key)
  rw [num_bytes key k0 k1] at hnk
  have hbk := b8_byt key
  have HB := Lib.hid (fun W => mbytes_any key W k0 k1)
  have HR := Lib.hid (fun W => rbytes_any key W k0 k1)
  obtain ⟨m, hm⟩ : ∃ m, b8 key = m := ⟨_, rfl⟩
  rw [hm] at HB HR hnk hbk
  have HN := Lib.hid hnk
  obtain ⟨TX, hTX⟩ : ∃ x, strOfNums m.l = x := ⟨_, rfl⟩
  have HTX := Lib.hid hTX
  have hTT : (TX == TX) = true := bb_refl TX
  obtain ⟨K1, hK1⟩ : ∃ x, keyedS key bs = x := ⟨_, rfl⟩
  obtain ⟨K2, hK2⟩ : ∃ x, keyedS 0 bs = x := ⟨_, rfl⟩
  obtain ⟨X1, hX1⟩ : ∃ x, nextS key = x := ⟨_, rfl⟩
  have C1 := Lib.hid (fun W B (h : Rd W B A n bs) => keyed_any key A n c bs W B h hn hc k0 k1)
  have C2 := Lib.hid (fun W B (h : Rd W B A n bs) => rkeyed_any key A n c bs W B h hn hc k0 k1)
  have C3 := Lib.hid (fun W B (h : Rd W B A n bs) => sum_any A n c bs W B h hn hc)
  have C4 := Lib.hid (fun W B (h : Rd W B A n bs) => rkeyed_any 0 A n c bs W B h hn hc (by omega) (by omega))
  have C5 := Lib.hid (fun W => next_any key W k0 k1)
  have C6 := Lib.hid (fun W => rnext_any key W k0 k1)
  rw [hK1] at C1 C2
  rw [hK2] at C3 C4
  rw [hX1] at C5 C6
  have HR0 := Lib.hid hr
  clear hTX hm hnk hK1 hK2 hX1 hr
  go_enter Try.func5, Try.ntmps5
  go_wp2_with fail
  refine (HB.out w).mono ?_
  rintro e w1 ⟨rfl, hb1⟩
  have hA2 := At.new w1 29 (m.l.map (Value.int .u8))
  have hb2 := hb1.alloc hb1.size (.cells (m.l.map (Value.int .u8)).toArray 29)
  obtain ⟨w2, hw2⟩ : ∃ x, w1.alloc (.cells (m.l.map (Value.int .u8)).toArray 29) = x := ⟨_, rfl⟩
  rw [hw2] at hA2 hb2
  obtain ⟨g, hg⟩ : ∃ x, w1.heap.size = x := ⟨_, rfl⟩
  rw [hg] at hA2
  go_wp2_with (first | ((with_reducible refine at_st8 ?_); refine wpList_store_top w1 29 ((N8.zero).l.map (Value.int .u8)) (m.l.map (Value.int .u8)) (by rfl) _ (by rfl) hg.symm (by rfl) (by rfl) (by rw [show (m.l.map (Value.int .u8)).length = 8 from rfl]; exact a8_info) (by rfl) ?_; rw [hw2]; clear hw2) | fail)
  have hr2 := (HR0.out.below hb2).more hb2.size
  have t2 := run_text (P := Try.prog) (c := 8) (hA2.drew.rd8 hbk) 22 5 9 Try.underlying22 Try.underlying5 Try.underlying9
  rw [HTX.out] at t2
  have hA3 := hA2.drew
  have hb3 : Below w.heap.size w w2.drew := belowN hb2 1
  have hr3 : Rd w2.drew w2.drew.heap.size A n bs := hr2.drew
  clear hA2 hb2 hr2 hb1
  have C1 := Lib.hid (C1.out w2.drew _ hr3)
  have C2 := Lib.hid (C2.out w2.drew _ hr3)
  have C3 := Lib.hid (C3.out w2.drew _ hr3)
  have C4 := Lib.hid (C4.out w2.drew _ hr3)
  have C5 := Lib.hid (C5.out w2.drew)
  have C6 := Lib.hid (C6.out w2.drew)
  have hbb : (K1 == K1) = true := by simp
  have hbb2 : (K2 == K2) = true := by simp
  have hbb3 : (X1 == X1) = true := by simp
  have hbb4 : (key == key) = true := by simp
  refine wp_region_held_drew (S := (fun w' => w'.rangeAt g 0 (m.l.map (Value.int .u8)) ∧ (convert 22 9 (.slice (some ⟨g, 0, none⟩) 8 8)).run Try.prog w' = .ok (.string TX) w')) (by kernel_rfl) (⟨hA3.rangeAt, t2⟩) (fun hHeld => ?_)
  refine tk_dst (i := 0) (dst := some 8) rfl rfl (by kernel_rfl) (by kernel_rfl) (by kernel_rfl) (fun _ _ _ h => h) (v := ?_) (Or.inl ⟨by rfl, ?_⟩) (by assumption) ?_
  rotate_left
  · intro w hSw; (try dsimp only at hSw); go_simp; first | done | (with_reducible rfl)
  simp only [Act.put, List.setIfInBounds_toArray, List.set_cons_zero, List.set_cons_succ]
  refine tk_dst (i := 1) (dst := some 9) rfl rfl (by kernel_rfl) (by kernel_rfl) (by kernel_rfl) (fun _ _ _ h => h) (v := ?_) (Or.inl ⟨by rfl, ?_⟩) (by assumption) ?_
  rotate_left
  · intro w hSw; (try dsimp only at hSw); go_simp; first | done | (with_reducible rfl)
  simp only [Act.put, List.setIfInBounds_toArray, List.set_cons_zero, List.set_cons_succ]
  refine tk_dst (i := 3) (dst := some 11) rfl rfl (by kernel_rfl) (by kernel_rfl) (by kernel_rfl) (fun _ _ _ h => h) (v := ?_) (Or.inl ⟨by rfl, ?_⟩) (by assumption) ?_
  rotate_left
  · intro w hSw; (try dsimp only at hSw); go_simp; first | done | (with_reducible rfl)
  simp only [Act.put, List.setIfInBounds_toArray, List.set_cons_zero, List.set_cons_succ]
  refine tk_dst (i := 4) (dst := some 12) rfl rfl (by kernel_rfl) (by kernel_rfl) (by kernel_rfl) (fun _ _ _ h => h) (v := ?_) (Or.inl ⟨by rfl, ?_⟩) (by assumption) ?_
  rotate_left
  · intro w hSw; (try dsimp only at hSw); go_simp; first | done | (with_reducible rfl)
  simp only [Act.put, List.setIfInBounds_toArray, List.set_cons_zero, List.set_cons_succ]
  refine wpAnyH_ready (rs := [2]) (by kernel_rfl) (by simp) ?_
  refine AllReadyH.cons rfl (fun K hK => ?_) AllReadyH.nil
  go_simp
  go_wp2_with ((go_at_call 15; refine (C1.out).mono ?_; rintro e w' ⟨rfl, rfl⟩))
  refine hK.out _ _ (⟨hA3.rangeAt, t2⟩) (fun hHeld => ?_)
  clear hK K
  refine wpAnyH_ready (rs := [5]) (by kernel_rfl) (by simp) ?_
  refine AllReadyH.cons rfl (fun K hK => ?_) AllReadyH.nil
  go_simp
  go_wp2_with ((go_at_call 16; refine (C2.out).mono ?_; rintro e w' ⟨rfl, rfl⟩))
  refine hK.out _ _ (⟨hA3.rangeAt, t2⟩) (fun hHeld => ?_)
  clear hK K
  refine tk_dst (i := 6) (dst := some 14) rfl rfl (by kernel_rfl) (by kernel_rfl) (by kernel_rfl) (fun _ _ _ h => h) (v := ?_) (Or.inl ⟨by rfl, ?_⟩) (by assumption) ?_
  rotate_left
  · intro w hSw; (try dsimp only at hSw); go_simp; first | done | (with_reducible rfl)
  simp only [Act.put, List.setIfInBounds_toArray, List.set_cons_zero, List.set_cons_succ]
  refine tk_dst (i := 7) (dst := some 15) rfl rfl (by kernel_rfl) (by kernel_rfl) (by kernel_rfl) (fun _ _ _ h => h) (v := ?_) (Or.inl ⟨by rfl, ?_⟩) (by assumption) ?_
  rotate_left
  · intro w hSw; (try dsimp only at hSw); go_simp; first | done | (with_reducible rfl)
  simp only [Act.put, List.setIfInBounds_toArray, List.set_cons_zero, List.set_cons_succ]
  refine tk_dst (i := 8) (dst := some 16) rfl rfl (by kernel_rfl) (by kernel_rfl) (by kernel_rfl) (fun _ _ _ h => h) (v := ?_) (Or.inl ⟨by rfl, ?_⟩) (by assumption) ?_
  rotate_left
  · intro w hSw; (try dsimp only at hSw); go_simp; first | done | (with_reducible rfl)
  simp only [Act.put, List.setIfInBounds_toArray, List.set_cons_zero, List.set_cons_succ]
  refine tk_dst (i := 10) (dst := some 18) rfl rfl (by kernel_rfl) (by kernel_rfl) (by kernel_rfl) (fun _ _ _ h => h) (v := ?_) (Or.inl ⟨by rfl, ?_⟩) (by assumption) ?_
  rotate_left
  · intro w hSw; (try dsimp only at hSw); go_simp; first | done | (with_reducible rfl)
  simp only [Act.put, List.setIfInBounds_toArray, List.set_cons_zero, List.set_cons_succ]
  refine wpAnyH_ready (rs := [9]) (by kernel_rfl) (by simp) ?_
  refine AllReadyH.cons rfl (fun K hK => ?_) AllReadyH.nil
  go_simp
  go_wp2_with ((go_at_call 6; refine (C3.out).mono ?_; rintro e w' ⟨rfl, rfl⟩))
  refine hK.out _ _ (⟨hA3.rangeAt, t2⟩) (fun hHeld => ?_)
  clear hK K
  refine wpAnyH_ready (rs := [11]) (by kernel_rfl) (by simp) ?_
  refine AllReadyH.cons rfl (fun K hK => ?_) AllReadyH.nil
  go_simp
  go_wp2_with ((go_at_call 16; refine (C4.out).mono ?_; rintro e w' ⟨rfl, rfl⟩))
  refine hK.out _ _ (⟨hA3.rangeAt, t2⟩) (fun hHeld => ?_)
  clear hK K
  refine tk_dst (i := 12) (dst := some 20) rfl rfl (by kernel_rfl) (by kernel_rfl) (by kernel_rfl) (fun _ _ _ h => h) (v := ?_) (Or.inl ⟨by rfl, ?_⟩) (by assumption) ?_
  rotate_left
  · intro w hSw; (try dsimp only at hSw); go_simp; first | done | (with_reducible rfl)
  simp only [Act.put, List.setIfInBounds_toArray, List.set_cons_zero, List.set_cons_succ]
  refine tk_dst (i := 13) (dst := some 21) rfl rfl (by kernel_rfl) (by kernel_rfl) (by kernel_rfl) (fun _ _ _ h => h) (v := ?_) (Or.inl ⟨by rfl, ?_⟩) (by assumption) ?_
  rotate_left
  · intro w hSw; (try dsimp only at hSw); go_simp; first | done | (with_reducible rfl)
  simp only [Act.put, List.setIfInBounds_toArray, List.set_cons_zero, List.set_cons_succ]
  refine tk_dst (i := 14) (dst := some 22) rfl rfl (by kernel_rfl) (by kernel_rfl) (by kernel_rfl) (fun _ _ _ h => h) (v := ?_) (Or.inl ⟨by rfl, ?_⟩) (by assumption) ?_
  rotate_left
  · intro w hSw; (try dsimp only at hSw); go_simp; first | done | (with_reducible rfl)
  simp only [Act.put, List.setIfInBounds_toArray, List.set_cons_zero, List.set_cons_succ]
  refine tk_dst (i := 15) (dst := some 23) rfl rfl (by kernel_rfl) (by kernel_rfl) (by kernel_rfl) (fun _ _ _ h => h) (v := ?_) (Or.inl ⟨by rfl, ?_⟩) (by assumption) ?_
  rotate_left
  · intro w hSw; (try dsimp only at hSw); go_simp; first | done | (with_reducible rfl)
  simp only [Act.put, List.setIfInBounds_toArray, List.set_cons_zero, List.set_cons_succ]
  refine tk_dst (i := 17) (dst := some 25) rfl rfl (by kernel_rfl) (by kernel_rfl) (by kernel_rfl) (fun _ _ _ h => h) (v := ?_) (Or.inl ⟨by rfl, ?_⟩) (by assumption) ?_
  rotate_left
  · intro w hSw; (try dsimp only at hSw); go_simp; first | done | (with_reducible rfl)
  simp only [Act.put, List.setIfInBounds_toArray, List.set_cons_zero, List.set_cons_succ]
  refine wpAnyH_ready (rs := [16]) (by kernel_rfl) (by simp) ?_
  refine AllReadyH.cons rfl (fun K hK => ?_) AllReadyH.nil
  go_simp
  go_wp2_with ((go_at_call 17; refine (C5.out).mono ?_; rintro e w' ⟨rfl, rfl⟩))
  refine hK.out _ _ (⟨hA3.rangeAt, t2⟩) (fun hHeld => ?_)
  clear hK K
  refine wpAnyH_ready (rs := [18]) (by kernel_rfl) (by simp) ?_
  refine AllReadyH.cons rfl (fun K hK => ?_) AllReadyH.nil
  go_simp
  go_wp2_with ((go_at_call 18; refine (C6.out).mono ?_; rintro e w' ⟨rfl, rfl⟩))
  refine hK.out _ _ (⟨hA3.rangeAt, t2⟩) (fun hHeld => ?_)
  clear hK K
  refine tk_dst (i := 19) (dst := some 27) rfl rfl (by kernel_rfl) (by kernel_rfl) (by kernel_rfl) (fun _ _ _ h => h) (v := ?_) (Or.inl ⟨by rfl, ?_⟩) (by assumption) ?_
  rotate_left
  · intro w hSw; (try dsimp only at hSw); go_simp; first | done | (with_reducible rfl)
  simp only [Act.put, List.setIfInBounds_toArray, List.set_cons_zero, List.set_cons_succ]
  refine tk_dst (i := 20) (dst := some 28) rfl rfl (by kernel_rfl) (by kernel_rfl) (by kernel_rfl) (fun _ _ _ h => h) (v := ?_) (Or.inl ⟨by rfl, ?_⟩) (by assumption) ?_
  rotate_left
  · intro w hSw; (try dsimp only at hSw); go_simp; first | done | (with_reducible rfl)
  simp only [Act.put, List.setIfInBounds_toArray, List.set_cons_zero, List.set_cons_succ]
  refine tk_dst (i := 21) (dst := some 29) rfl rfl (by kernel_rfl) (by kernel_rfl) (by kernel_rfl) (fun _ _ _ h => h) (v := ?_) (Or.inl ⟨by rfl, ?_⟩) (by assumption) ?_
  rotate_left
  · intro w hSw; (try dsimp only at hSw); go_simp; first | done | (with_reducible rfl)
  simp only [Act.put, List.setIfInBounds_toArray, List.set_cons_zero, List.set_cons_succ]
  refine tk_dst (i := 22) (dst := some 30) rfl rfl (by kernel_rfl) (by kernel_rfl) (by kernel_rfl) (fun _ _ _ h => h) (v := ?_) (Or.inl ⟨by rfl, ?_⟩) (by assumption) ?_
  rotate_left
  · intro w hSw; (try dsimp only at hSw); go_simp; first | done | (with_reducible rfl)
  simp only [Act.put, List.setIfInBounds_toArray, List.set_cons_zero, List.set_cons_succ]
  refine tk_dst (i := 23) (dst := some 31) rfl rfl (by kernel_rfl) (by kernel_rfl) (by kernel_rfl) (fun _ _ _ h => h) (v := ?_) (Or.inl ⟨by rfl, ?_⟩) (by assumption) ?_
  rotate_left
  · intro w hSw; (try dsimp only at hSw); go_simp; first | done | (with_reducible rfl)
  simp only [Act.put, List.setIfInBounds_toArray, List.set_cons_zero, List.set_cons_succ]
  refine tk_dst (i := 24) (dst := some 32) rfl rfl (by kernel_rfl) (by kernel_rfl) (by kernel_rfl) (fun _ _ _ h => h) (v := ?_) (Or.inl ⟨by rfl, ?_⟩) (by assumption) ?_
  rotate_left
  · intro w hSw; (try dsimp only at hSw); go_simp; first | done | (with_reducible rfl)
  simp only [Act.put, List.setIfInBounds_toArray, List.set_cons_zero, List.set_cons_succ]
  refine wpAnyH_ready (rs := [25]) (by kernel_rfl) (by simp) ?_
  refine AllReadyH.cons rfl (fun K hK => ?_) AllReadyH.nil
  go_simp
  go_wp2_with ((go_at_call 19; refine (HR.out _).mono ?_; rintro e w4 ⟨v4, rfl, hown4, hb4⟩; obtain ⟨A4, c4, rfl, s1, s2, s3⟩ := hown4.open_n 8 rfl; have hB4 := hb3.trans (hb4.mono hb3.size); have hA4 := hA3.below hb4 hA3.lt; have t4 := run_text (P := Try.prog) (c := c4) s3 22 5 9 Try.underlying22 Try.underlying5 Try.underlying9; rw [HTX.out] at t4))
  refine hK.out _ _ (⟨hA4.rangeAt, by have := run_text (P := Try.prog) (c := 8) (hA4.rd8 hbk) 22 5 9 Try.underlying22 Try.underlying5 Try.underlying9; rw [HTX.out] at this; exact this⟩) (fun hHeld => ?_)
  clear hK K
  refine wpAnyH_ready (rs := [26]) (by kernel_rfl) (by simp) ?_
  refine AllReadyH.cons rfl (fun K hK => ?_) AllReadyH.nil
  go_simp
  refine hK.out _ _ (⟨hA4.rangeAt, by have := run_text (P := Try.prog) (c := 8) (hA4.rd8 hbk) 22 5 9 Try.underlying22 Try.underlying5 Try.underlying9; rw [HTX.out] at this; exact this⟩) (fun hHeld => ?_)
  clear hK K
  refine tk_dst (i := 27) (dst := some 35) rfl rfl (by kernel_rfl) (by kernel_rfl) (by kernel_rfl) (fun _ _ _ h => h) (v := ?_) (Or.inl ⟨by rfl, ?_⟩) (by assumption) ?_
  rotate_left
  · intro w hSw; (try dsimp only at hSw); go_simp; first | done | (with_reducible rfl)
  simp only [Act.put, List.setIfInBounds_toArray, List.set_cons_zero, List.set_cons_succ]
  refine tk_dst (i := 28) (dst := some 36) rfl rfl (by kernel_rfl) (by kernel_rfl) (by kernel_rfl) (fun _ _ _ h => h) (v := ?_) (Or.inl ⟨by rfl, ?_⟩) (by assumption) ?_
  rotate_left
  · intro w hSw; (try dsimp only at hSw); go_simp; first | done | (with_reducible rfl)
  simp only [Act.put, List.setIfInBounds_toArray, List.set_cons_zero, List.set_cons_succ]
  refine tk_dst (i := 29) (dst := some 37) rfl rfl (by kernel_rfl) (by kernel_rfl) (by kernel_rfl) (fun _ _ _ h => h) (v := ?_) (Or.inl ⟨by rfl, ?_⟩) (by assumption) ?_
  rotate_left
  · intro w hSw; (try dsimp only at hSw); go_simp; first | done | (with_reducible rfl)
  simp only [Act.put, List.setIfInBounds_toArray, List.set_cons_zero, List.set_cons_succ]
  refine tk_dst (i := 30) (dst := some 38) rfl rfl (by kernel_rfl) (by kernel_rfl) (by kernel_rfl) (fun _ _ _ h => h) (v := ?_) ?_ (by assumption) ?_
  rotate_left
  · refine yl_any 29 ?ylx30 ?ylo30 ?ylb30 ?ylq30 ?ylp30 (m.l.map (Value.int .u8)) _ ?ylS30 Try.underlying29 rfl ?yli30 ?ylw30
    case ylo30 => rfl
    case ylp30 => rfl
    case ylS30 => intro w hSw; exact hSw.1
    case yli30 => exact a8_info
    case ylw30 => rfl
  simp only [Act.put, List.setIfInBounds_toArray, List.set_cons_zero, List.set_cons_succ]
  refine tk_dst (i := 32) (dst := some 40) rfl rfl (by kernel_rfl) (by kernel_rfl) (by kernel_rfl) (fun _ _ _ h => h) (v := ?_) (Or.inl ⟨by rfl, ?_⟩) (by assumption) ?_
  rotate_left
  · intro w hSw; (try dsimp only at hSw); go_simp; first | done | (with_reducible rfl)
  simp only [Act.put, List.setIfInBounds_toArray, List.set_cons_zero, List.set_cons_succ]
  refine wpAnyH_ready (rs := [31]) (by kernel_rfl) (by simp) ?_
  refine AllReadyH.cons rfl (fun K hK => ?_) AllReadyH.nil
  go_simp
  go_wp2_with (go_at_call 12; refine (HN.out _).mono ?_; rintro e w5 ⟨rfl, hb5⟩)
  have hA5 := hA4.below hb5 hA4.lt
  have hB5 := hB4.trans (hb5.mono hB4.size)
  refine hK.out _ _ (⟨hA5.rangeAt, by have := run_text (P := Try.prog) (c := 8) (hA5.rd8 hbk) 22 5 9 Try.underlying22 Try.underlying5 Try.underlying9; rw [HTX.out] at this; exact this⟩) (fun hHeld => ?_)
  clear hK K
  refine tk_dst (i := 33) (dst := some 41) rfl rfl (by kernel_rfl) (by kernel_rfl) (by kernel_rfl) (fun _ _ _ h => h) (v := ?_) (Or.inl ⟨by rfl, ?_⟩) (by assumption) ?_
  rotate_left
  · intro w hSw; (try dsimp only at hSw); go_simp; first | done | (with_reducible rfl)
  simp only [Act.put, List.setIfInBounds_toArray, List.set_cons_zero, List.set_cons_succ]
  refine tk_dst (i := 34) (dst := some 42) rfl rfl (by kernel_rfl) (by kernel_rfl) (by kernel_rfl) (fun _ _ _ h => h) (v := ?_) (Or.inl ⟨by rfl, ?_⟩) (by assumption) ?_
  rotate_left
  · intro w hSw; (try dsimp only at hSw); go_simp; first | done | (with_reducible rfl)
  simp only [Act.put, List.setIfInBounds_toArray, List.set_cons_zero, List.set_cons_succ]
  refine tk_dst (i := 35) (dst := some 4) rfl rfl (by kernel_rfl) (by kernel_rfl) (by kernel_rfl) (fun _ _ _ h => h) (v := ?_) (Or.inl ⟨by rfl, ?_⟩) (by assumption) ?_
  rotate_left
  · intro w hSw; (try dsimp only at hSw); go_simp; first | done | (with_reducible rfl)
  simp only [Act.put, List.setIfInBounds_toArray, List.set_cons_zero, List.set_cons_succ]
  refine wpAnyH_done (by kernel_rfl) ?_ _
  go_wp2_with fail
  go_ret
  exact ⟨rfl, hB5⟩
end Go.Proofs.Ytmpllhcgimablaa
