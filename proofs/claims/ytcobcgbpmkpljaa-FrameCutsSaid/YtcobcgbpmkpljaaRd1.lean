/-
  The eight bytes of a name, a Stream's data, as they are read (frame.readCID, readData).
-/
import Derived.Test.YtcobcgbpmkpljaaEnc
import Derived.Test.YtcobcgbpmkpljaaCid8
import Derived.Laws.CopyOwn
namespace Go.Proofs.Ytcobcgbpmkpljaa
set_option linter.unusedVariables false
set_option linter.unusedSimpArgs false
open Go.RowKit
set_option maxRecDepth 100000 in
set_option maxHeartbeats 1000000 in
theorem rcid_any (p : Nat) (T : TypeId) (P : Nat → Prop) (s : St) (w : World) (hr : Rdr w p T P s) (hP : ∀ b, P b → b ≠ p) (hl : s.1.length ≤ 140737488355000) :
    Calls Try.prog 73 #[.pointer (some ⟨p, 0, none⟩)] w (CidPost w p T P s) := by
  have hpl : p < w.heap.size := by obtain ⟨_, _, _, h, _⟩ := hr; exact h.lt
  obtain ⟨N, hN⟩ : ∃ N, (takeR s 8).length = N := ⟨_, rfl⟩
  have hN8 : N ≤ 8 := by rcases takeR8 s with h | h; omega; rw [h] at hN; simp at hN; omega
  have HN := Lib.hid hN
  have hsp : splice (List.replicate 8 (Value.int .u8 0)) 0 ((takeR s 8).map (Value.int .u8)) = (cid8 (takeR s 8)).map (Value.int .u8) := by
    rcases takeR8 s with h | h
    · rw [cid8_full _ h]
      match takeR s 8, h with
      | [a, b, c, d, e, f, g, i], _ => rfl
    · rw [h]; rfl
  have HSP := Lib.hid hsp
  have hc8 : ((cid8 (takeR s 8)).map (Value.int .u8)).length = 8 := rfl
  have hr' := hr.mono (P' := fun b => P b ∧ b < w.heap.size) (fun b hb hP => ⟨hP, hb⟩)
  have hP' : ∀ b, (P b ∧ b < w.heap.size) → b ≠ p := fun b hb => hP b hb.1
  have hrA : Rdr ((w.alloc (.cells (List.replicate 8 (Value.int .u8 0)).toArray 29)).alloc (.cells (List.replicate 8 (Value.int .u8 0)).toArray 29)) p T (fun b => P b ∧ b < w.heap.size) s :=
    hr'.kept (((Kept.refl (fun _ => False) w).alloc _).alloc _) (fun h => h) (fun _ _ h => h)
  have hbA : Below w.heap.size w ((w.alloc (.cells (List.replicate 8 (Value.int .u8 0)).toArray 29)).alloc (.cells (List.replicate 8 (Value.int .u8 0)).toArray 29)) := ((Below.refl _ _).alloc (Nat.le_refl _) _).alloc (by simp) _
  have hA2 : At ((w.alloc (.cells (List.replicate 8 (Value.int .u8 0)).toArray 29)).alloc (.cells (List.replicate 8 (Value.int .u8 0)).toArray 29)) w.heap.size 29 (List.replicate 8 (Value.int .u8 0)) := (At.new w _ _).alloc _
  have hA3 : At ((w.alloc (.cells (List.replicate 8 (Value.int .u8 0)).toArray 29)).alloc (.cells (List.replicate 8 (Value.int .u8 0)).toArray 29)) (w.heap.size + 1) 29 (List.replicate 8 (Value.int .u8 0)) := At.new_ _ _ _ (by simp)
  clear hN hsp
  go_enter Try.func73, Try.ntmps73
  go_wp2_with fail
  change (Code.region _ _ _).wp _ _ _ ((w.alloc (.cells (List.replicate 8 (Value.int .u8 0)).toArray 29)).alloc (.cells (List.replicate 8 (Value.int .u8 0)).toArray 29))
  obtain ⟨w1, hw1⟩ : ∃ w1, (w.alloc (.cells (List.replicate 8 (Value.int .u8 0)).toArray 29)).alloc (.cells (List.replicate 8 (Value.int .u8 0)).toArray 29) = w1 := ⟨_, rfl⟩
  rw [hw1] at hrA hbA hA2 hA3 ⊢
  clear hw1
  have hrA := hrA.drewN 1
  have hA2 := hA2.drew
  have hA3 := hA3.drew
  have hp3 := hA3.lt

  refine wp_region_held_drew (S := (fun _ => True)) (by kernel_rfl) (trivial) (fun hHeld => ?_)
  refine take_dst (i := 0) (dst := some 4) rfl rfl (by kernel_rfl) (by kernel_rfl) (by kernel_rfl) (fun _ _ _ h => h) (v := ?_) (Or.inl ⟨by rfl, ?_⟩) (by assumption) ?_
  rotate_left
  · intro w hSw; (try dsimp only at hSw); go_simp; first | done | (with_reducible rfl)
  simp only [Act.put, List.setIfInBounds_toArray, List.set_cons_zero, List.set_cons_succ]
  refine take_dst (i := 1) (dst := some 5) rfl rfl (by kernel_rfl) (by kernel_rfl) (by kernel_rfl) (fun _ _ _ h => h) (v := ?_) (Or.inl ⟨by rfl, ?_⟩) (by assumption) ?_
  rotate_left
  · intro w hSw; (try dsimp only at hSw); go_simp; first | done | (with_reducible rfl)
  simp only [Act.put, List.setIfInBounds_toArray, List.set_cons_zero, List.set_cons_succ]
  refine wpAnyH_ready (rs := [2]) (by kernel_rfl) (by simp) ?_
  refine AllReadyH.cons rfl (fun K hK => ?_) AllReadyH.nil
  go_simp
  go_wp2_with ((go_at_call 83; refine (raw_any p T (fun b => P b ∧ b < w.heap.size) s 8 _ hrA hP' hl).mono ?_; rintro e w2 ⟨v2, rfl, hown, hr2, hk2⟩; obtain ⟨A2, c2, rfl, g1, g2, g3⟩ := hown.open_n N HN.out))
  refine hK.out _ _ (trivial) (fun hHeld => ?_)
  clear hK K
  have B2 := hA2.kept hk2 (by omega)
  have B3 := hA3.kept hk2 (by omega)
  have hpa : N ≤ 8 := hN8
  refine wpAnyH_ready (rs := [3]) (by kernel_rfl) (by simp) ?_
  refine AllReadyH.cons rfl (fun K hK => ?_) AllReadyH.nil
  refine step_copy_splice rfl (.tmp 4) (.tmp 6) 26 26 rfl 5 Try.underlying26 (by kernel_rfl) (some ⟨w.heap.size + 1, 0, none⟩) A2 8 8 N c2 rfl rfl (w.heap.size + 1) 0 (List.replicate 8 (Value.int .u8 0)) 29 B3 ((takeR s 8).map (Value.int .u8))
    (by rw [List.length_map, HN.out]; exact (Nat.min_eq_left hN8).symm) (fun hp => ⟨rfl, g3.cells (by rw [List.length_map, HN.out] at hp; exact hp)⟩) (by rw [List.length_map, HN.out]; simp; omega) (oneCell_u8 _) (w.heap.size + 1) w2 (Below.refl _ _) (Nat.le_refl _) ?_
  intro w3 hb3 hbl3
  rw [HSP.out] at hb3
  refine hK.out _ _ trivial (fun hHeld => ?_)
  clear hK K
  refine wpAnyH_done (by kernel_rfl) ?_ _
  have C3 : At w3 (w.heap.size + 1) 29 ((cid8 (takeR s 8)).map (Value.int .u8)) := hb3.out
  have C2 := B2.below hbl3 (by omega)
  have hr3 := hr2.kept (Kept.of_belowB hbl3) (by omega) (fun b hb hs => by omega)
  have hk3 : Kept (· = p) w w3 := ((Kept.of_below hbA _).trans hk2.from_drewN).trans' (Kept.of_belowB hbl3) (fun j hj => .inr (by omega))
  go_wp2_with (first | (refine wpList_load_at (ty := 29) (w.heap.size + 1) _ ((cid8 (takeR s 8)).map (Value.int .u8)) _ (by rfl) C3 Try.underlying29 rfl cid_info ?_) | (refine wpList_store_at (ty := 29) w.heap.size _ (List.replicate 8 (Value.int .u8 0)) ((cid8 (takeR s 8)).map (Value.int .u8)) (by rfl) (by rfl) C2 rfl cid_info (by rfl) ?_; intro w4 D4 hk4) | fail)
  refine bodyPost_ret (results_cell 2 29 (by rfl) _ 29 _ _ (by rfl) D4 Try.underlying29 rfl cid_info) rfl ?_
  exact ⟨rfl, (hr3.kept hk4 (by omega) (fun b hb hs => by omega)).mono (fun b _ hb => hb.1), hk3.trans' hk4 (fun j hj => .inr (by omega))⟩
end Go.Proofs.Ytcobcgbpmkpljaa
