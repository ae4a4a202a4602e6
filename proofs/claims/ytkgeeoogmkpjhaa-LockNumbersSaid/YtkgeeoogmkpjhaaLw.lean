/-
  lock.Mask; the document's own turned, tag, Seal, Open, Mask.
-/
import Derived.Test.YtkgeeoogmkpjhaaLv
namespace Go.Proofs.Ytkgeeoogmkpjhaa
set_option linter.unusedVariables false
set_option linter.unusedSimpArgs false
open Go.RowKit Go.ChangeShapes Go.WideShapes Go.Deep
def maskS (key : Int) (bs : List Int) : List Int := (b8 (keyedS key bs)).l.take 5
theorem a5_info : (Try.prog.info? 31).map (·.size) = some 5 := by kernel_rfl
def z5L : List Value := [.int .u8 0, .int .u8 0, .int .u8 0, .int .u8 0, .int .u8 0]
section
variable {ops : Array Oper} {rest : List Oper} {a : Act} {w : World} {Q : Exit → Act → World → Prop} {dst : Option Tmp} {x y : Operand} {t : TypeId} {pos : String} {after : Array Edge} {g : Option (Nat × Bool)}
theorem at_ld5 (h : wpList Try.prog ops Q (⟨dst, .load 31 x, t, pos, after, g⟩ :: rest) a w) : wpList Try.prog ops Q (⟨dst, .load 31 x, t, pos, after, g⟩ :: rest) a w := h
theorem at_st5 (h : wpList Try.prog ops Q (⟨dst, .store 31 x y, t, pos, after, g⟩ :: rest) a w) : wpList Try.prog ops Q (⟨dst, .store 31 x y, t, pos, after, g⟩ :: rest) a w := h
end
set_option maxRecDepth 100000 in
set_option maxHeartbeats 2000000 in
theorem mask_any (key : Int) (m : N8) (w : World) (hmb : Byt m.l) (k0 : 0 ≤ key) (k1 : key < 18446744073709551616) :
    Calls Try.prog 13 #[.int .u64 key, m.v] w fun e w' => e = .returned (.agg ((maskS key m.l).map (Value.int .u8)).toArray) ∧ Below w.heap.size w w' := by
  have hkb := keyedS_bd key m.l
  have HF := Lib.hid (fun W => mbytes_any (keyedS key m.l) W hkb.1 hkb.2)
  have HK := Lib.hid (fun W B (h : Rd W B (some ⟨w.heap.size, 0, none⟩) 8 m.l) => keyed_any key (some ⟨w.heap.size, 0, none⟩) 8 8 m.l W B h (Nat.le_refl _) (by unfold maxLen; omega) k0 k1)
  have hb9 := b8_byt (keyedS key m.l)
  unfold maskS
  obtain ⟨m9, hm9⟩ : ∃ x, b8 (keyedS key m.l) = x := ⟨_, rfl⟩
  rw [hm9] at HF hb9 ⊢
  obtain ⟨K9, hK9⟩ : ∃ x, keyedS key m.l = x := ⟨_, rfl⟩
  rw [hK9] at HF HK
  clear hm9 hkb hK9
  have hA0 : At (w.alloc (.cells #[.int .u8 m.a0, .int .u8 m.a1, .int .u8 m.a2, .int .u8 m.a3, .int .u8 m.a4, .int .u8 m.a5, .int .u8 m.a6, .int .u8 m.a7] 28)) w.heap.size 28 (m.l.map (Value.int .u8)) := At.new w 28 _
  have hb0 : Below w.heap.size w (w.alloc (.cells #[.int .u8 m.a0, .int .u8 m.a1, .int .u8 m.a2, .int .u8 m.a3, .int .u8 m.a4, .int .u8 m.a5, .int .u8 m.a6, .int .u8 m.a7] 28)) := (Below.refl _ _).alloc (Nat.le_refl _) _
  obtain ⟨w0, hw0⟩ : ∃ x, w.alloc (.cells #[.int .u8 m.a0, .int .u8 m.a1, .int .u8 m.a2, .int .u8 m.a3, .int .u8 m.a4, .int .u8 m.a5, .int .u8 m.a6, .int .u8 m.a7] 28) = x := ⟨_, rfl⟩
  rw [hw0] at hA0 hb0
  have hA1 : At (w0.alloc (.cells #[.int .u8 0, .int .u8 0, .int .u8 0, .int .u8 0, .int .u8 0] 31)) w0.heap.size 31 z5L := At.new w0 31 _
  have hAm := hA0.alloc (.cells #[.int .u8 0, .int .u8 0, .int .u8 0, .int .u8 0, .int .u8 0] 31)
  have hb1 := hb0.alloc hb0.size (.cells #[.int .u8 0, .int .u8 0, .int .u8 0, .int .u8 0, .int .u8 0] 31)
  have hlt0 := hA0.lt
  obtain ⟨w1, hw1⟩ : ∃ x, w0.alloc (.cells #[.int .u8 0, .int .u8 0, .int .u8 0, .int .u8 0, .int .u8 0] 31) = x := ⟨_, rfl⟩
  rw [hw1] at hA1 hAm hb1
  have hvv : m.v = .agg #[.int .u8 m.a0, .int .u8 m.a1, .int .u8 m.a2, .int .u8 m.a3, .int .u8 m.a4, .int .u8 m.a5, .int .u8 m.a6, .int .u8 m.a7] := rfl
  rw [hvv]
  clear hvv
  go_enter Try.func13, Try.ntmps13
  go_wp2_with fail
  refine (HK.out w1 _ (hAm.rd8 hmb)).mono ?_
  rintro e w' ⟨rfl, rfl⟩
  clear hw0 hw1
  go_wp2_with fail
  refine (HF.out w1).mono ?_
  rintro e w2 ⟨rfl, hb2⟩
  have hA1 := hA1.below hb2 hA1.lt
  have hs2 := hA1.lt
  have hb2 := hb1.trans (hb2.mono hb1.size)
  have hA2 : At (w2.alloc (.cells #[.int .u8 0, .int .u8 0, .int .u8 0, .int .u8 0, .int .u8 0, .int .u8 0, .int .u8 0, .int .u8 0] 28)) w2.heap.size 28 z8L := At.new w2 28 z8L
  have hA1 := hA1.alloc (.cells #[.int .u8 0, .int .u8 0, .int .u8 0, .int .u8 0, .int .u8 0, .int .u8 0, .int .u8 0, .int .u8 0] 28)
  have hle2 := hb2.size
  have hb2 := hb2.alloc hb2.size (.cells #[.int .u8 0, .int .u8 0, .int .u8 0, .int .u8 0, .int .u8 0, .int .u8 0, .int .u8 0, .int .u8 0] 28)
  have hle0 := hb0.size
  go_wp2_with (first | ((with_reducible refine at_st8 ?_); refine st_8 w2.heap.size 28 z8L m9 (by rfl) (by rfl) hA2 rfl ?_; intro w3 hA3 hk3; have hB1 := hA1.kept hk3 (by omega); have hb3 := hk3.below hb2 hb2.size (by intro j hj; subst hj; exact hle2); clear hA1 hA2 hb2 hk3) | fail)
  have hA5 : At (w3.alloc (.cells #[.int .u8 0, .int .u8 0, .int .u8 0, .int .u8 0, .int .u8 0] 31)) w3.heap.size 31 z5L := At.new w3 31 _
  have hlt3 := hB1.lt
  have hB1 := hB1.alloc (.cells #[.int .u8 0, .int .u8 0, .int .u8 0, .int .u8 0, .int .u8 0] 31)
  have hr3 := (hA3.alloc (.cells #[.int .u8 0, .int .u8 0, .int .u8 0, .int .u8 0, .int .u8 0] 31)).rd8 hb9
  have hle3 := hb3.size
  have hb3 := hb3.alloc hb3.size (.cells #[.int .u8 0, .int .u8 0, .int .u8 0, .int .u8 0, .int .u8 0] 31)
  clear hA3
  have hA5 := hA5.drew
  have hB1 := hB1.drew
  have hr3 := hr3.drew
  have hb3 : Below w.heap.size w (w3.alloc (.cells #[.int .u8 0, .int .u8 0, .int .u8 0, .int .u8 0, .int .u8 0] 31)).drew := belowN hb3 1
  obtain ⟨Y, hY⟩ : ∃ x, (w3.alloc (.cells #[.int .u8 0, .int .u8 0, .int .u8 0, .int .u8 0, .int .u8 0] 31)).drew = x := ⟨_, rfl⟩
  rw [hY] at hA5 hB1 hr3 hb3
  refine wp_region_held_drew (S := (fun _ => True)) (by kernel_rfl) (trivial) (fun hHeld => ?_)
  rw [hY]
  clear hY
  refine tkq 0 (some 11) (v := ?_) rfl (Or.inl ⟨by rfl, ?_⟩) (by assumption) ?_
  rotate_left
  · intro w hSw; (try dsimp only at hSw); go_simp; first | done | (with_reducible rfl)
  simp only [Act.put, List.setIfInBounds_toArray, List.set_cons_zero, List.set_cons_succ]
  refine tkq 1 (some 12) (v := ?_) rfl (Or.inl ⟨by rfl, ?_⟩) (by assumption) ?_
  rotate_left
  · intro w hSw; (try dsimp only at hSw); go_simp; first | done | (with_reducible rfl)
  simp only [Act.put, List.setIfInBounds_toArray, List.set_cons_zero, List.set_cons_succ]
  refine wpAnyH_ready (rs := [2]) (by kernel_rfl) (by simp) ?_
  refine AllReadyH.cons rfl (fun K hK => ?_) AllReadyH.nil
  refine step_copy_splice rfl (.tmp 11) (.tmp 12) 22 22 rfl 5 Try.underlying22 (by kernel_rfl) _ _ 5 5 8 8 (by rfl) (by rfl) w3.heap.size 0 z5L 31 hA5 ((m9.l.take 5).map (Value.int .u8)) (by rfl) (fun _ => ⟨rfl, _, rfl, ?_⟩) (by simp [z5L, N8.l]) (oneCell_u8 _) w3.heap.size Y (Below.refl _ _) (Nat.le_refl _) ?_
  · intro j v hj
    obtain ⟨ad, e1, hc⟩ := hr3.cells (by omega)
    obtain rfl : ad = ⟨w2.heap.size, 0, none⟩ := by injection e1 with e1; exact e1.symm
    refine hc j v ?_
    rw [List.map_take] at hj
    rw [List.getElem?_take] at hj
    split at hj
    · exact hj
    · cases hj
  intro W4 hA6 hb6
  have hA6 : At W4 w3.heap.size 31 ((m9.l.take 5).map (Value.int .u8)) := hA6.out
  have hB1 := hB1.below hb6 hlt3
  have hb6 := hb3.trans (hb6.mono hle3)
  refine hK.out _ _ (trivial) (fun hHeld => ?_)
  clear hK K
  refine wpAnyH_done (by kernel_rfl) ?_ _
  go_wp2_with (first | ((with_reducible refine at_ld5 ?_); refine wpList_load_mid rfl 31 (.tmp 6) rfl w3.heap.size 0 (by rfl) ((m9.l.take 5).map (Value.int .u8)) _ hA6.rangeAt Try.underlying31 rfl a5_info ?_) | ((with_reducible refine at_st5 ?_); refine wpList_store_at w0.heap.size 31 z5L ((m9.l.take 5).map (Value.int .u8)) (by rfl) (by rfl) hB1 (by rfl) a5_info (by rfl) ?_; intro w9 hA9 hk9) | fail)
  refine bodyPost_ret (results_cell 4 31 (by rfl) _ 31 _ _ (by rfl) hA9 Try.underlying31 rfl a5_info) rfl ?_
  exact ⟨rfl, hk9.below hb6 hb6.size (by intro j hj; subst hj; exact hle0)⟩
end Go.Proofs.Ytkgeeoogmkpjhaa
