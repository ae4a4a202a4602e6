/-
  sender.Sender: nextReset, Next.
-/
import Derived.Test.YtbejpafephofaaaGreatMq18
import Derived.Test.YtbejpafephofaaaGreatMq9
namespace Go.Proofs.YtbejpafephofaaaGreat
set_option linter.unusedVariables false
set_option linter.unusedSimpArgs false
open Go.RowKit
section
variable {w0 W W1 W' : World} {q p : Nat} {X X' : SS} {F : Nat → Prop}
theorem m4_wf {id code gn : Nat} (h1 : id < 18446744073709551616) (h2 : code < 18446744073709551616) (h3 : gn < 18446744073709551616) : (m4 id code gn).wf := by
  constructor <;> simp only [m4, FN.zero] <;> first | omega | (intro x hx; simp at hx; omega)
theorem m8_wf {id off : Nat} {fin : Bool} (h1 : id < 18446744073709551616) (h2 : off < 18446744073709551616) : (m8 id off fin).wf := by
  constructor <;> simp only [m8, FN.zero] <;> first | omega | (intro x hx; simp at hx; omega)
def zsR (X : SS) : Int := sizeF (m4 X.id X.code X.o.gn) [] []
theorem zsR_bd (X : SS) : 0 ≤ zsR X ∧ zsR X ≤ 808 := by
  unfold zsR sizeF
  split
  · rename_i h
    have := one_bound _ _ _ h
    omega
  · omega
set_option maxRecDepth 100000 in
set_option maxHeartbeats 4000000 in
theorem sm_nr_due (h : Sm w0 W q p X F) (hL : X.o.bs.length ≤ 1099511627776) (hdue : X.due = false) (room : Int) :
    Calls Tryz.prog 45 #[.pointer (some ⟨q, 0, none⟩), .int .i64 room] W (SmPost w0 W q p X F noV) := by
  obtain ⟨W1, hW1, hA1, hB1, h1⟩ := fz_sm h
  have hgn : X.o.gn < 18446744073709551616 := by have := h.oz.ok.gl; omega
  have HSZ := Lib.hid (fun W' => fsize_any (fun _ => True) (m4 X.id X.code X.o.gn) .nil .nil [] [] W' ⟨m4_wf h.ok.id h.ok.code hgn, InD.nil_ _ _, InR.nil_ _ _⟩ (.inr (.inl rfl)))
  have hzb := zsR_bd X
  have HBX := Lib.hid (fun (W9 : World) (k : Below W.heap.size W W9) => h.same k noV)
  have HFX := Lib.hid (fun (W1 W5 W6 W9 : World) (X6 : SS) (v : Value) (bs : List Int) a b c d e f g k => nb_fin (W1 := W1) (W5 := W5) (W6 := W6) (W9 := W9) (X5 := X) (X6 := X6) (v := v) (bs := bs) h a b c d e f g k)
  obtain ⟨LF, hLF⟩ : ∃ LF, frL (m4 X.id X.code X.o.gn) .nil .nil = LF := ⟨_, rfl⟩
  have hFl : LF.length = 19 := by rw [← hLF]; rfl
  have hFo : LF.all (·.oneCell') = true := by rw [← hLF]; rfl
  have hFv : frV (m4 X.id X.code X.o.gn) .nil .nil = .agg LF.toArray := by rw [← hLF]; rfl
  have HLF := Lib.hid hLF
  have HFl := Lib.hid hFl
  have HFo := Lib.hid hFo
  have HTGT := Lib.hid hFv
  rw [hFv] at HSZ
  change Hid (∀ W', Calls Tryz.prog 57 #[.agg LF.toArray] W' (FrPost (.int .i64 (zsR X)) W')) at HSZ
  generalize zsR X = sz at *
  obtain ⟨Y, hY⟩ : ∃ x, W1.drew = x := ⟨_, rfl⟩
  have hSY : Sm w0 Y q p X (fun b => b = W.heap.size ∨ F b) := by rw [← hY]; exact h1.drewN 1
  have hAY : At Y W.heap.size 51 (frL (FN.zero 0) .nil .nil) := by rw [← hY]; exact hA1.drewN 1
  have hBY : Below W.heap.size W Y := by rw [← hY]; exact below_drewN hB1 1
  have hgY : W.heap.size < Y.heap.size := hAY.lt
  have hSA := hSY.beside (frL (FN.zero 0) .nil .nil) 51
  have HB := Lib.hid (sm_sent hSY)
  have HA : Hid (Calls Tryz.prog 27 #[.pointer (some ⟨q, 0, none⟩)] (Y.alloc (.cells #[.int .i64 0, .int .u64 0, .int .u64 0, .slice none 0 0, .bool false, .int .u64 0, .int .u64 0, .int .u64 0, .int .u64 0, .int .u64 0, .slice none 0 0, .int .u8 0, .int .u8 0, .int .u8 0, .int .u8 0, .int .u8 0, .int .u8 0, .int .u8 0, .int .u8 0] 51)) fun e w' => e = .returned (.int .u64 X.o.gn) ∧ w' = (Y.alloc (.cells #[.int .i64 0, .int .u64 0, .int .u64 0, .slice none 0 0, .bool false, .int .u64 0, .int .u64 0, .int .u64 0, .int .u64 0, .int .u64 0, .slice none 0 0, .int .u8 0, .int .u8 0, .int .u8 0, .int .u8 0, .int .u8 0, .int .u8 0, .int .u8 0, .int .u8 0] 51))) := Lib.hid (sm_sent hSA)
  have HKA : Hid ((Y.alloc (.cells #[.int .i64 0, .int .u64 0, .int .u64 0, .slice none 0 0, .bool false, .int .u64 0, .int .u64 0, .int .u64 0, .int .u64 0, .int .u64 0, .slice none 0 0, .int .u8 0, .int .u8 0, .int .u8 0, .int .u8 0, .int .u8 0, .int .u8 0, .int .u8 0, .int .u8 0] 51)).cell? ⟨q, 0, none⟩ = some (.int .u64 X.id) ∧ (Y.alloc (.cells #[.int .i64 0, .int .u64 0, .int .u64 0, .slice none 0 0, .bool false, .int .u64 0, .int .u64 0, .int .u64 0, .int .u64 0, .int .u64 0, .slice none 0 0, .int .u8 0, .int .u8 0, .int .u8 0, .int .u8 0, .int .u8 0, .int .u8 0, .int .u8 0, .int .u8 0] 51)).cell? ⟨q, 5, none⟩ = some (.int .u64 X.code)) := Lib.hid ⟨hSA.c0, hSA.c5⟩
  have HAZ : Hid (At (Y.alloc (.cells #[.int .i64 0, .int .u64 0, .int .u64 0, .slice none 0 0, .bool false, .int .u64 0, .int .u64 0, .int .u64 0, .int .u64 0, .int .u64 0, .slice none 0 0, .int .u8 0, .int .u8 0, .int .u8 0, .int .u8 0, .int .u8 0, .int .u8 0, .int .u8 0, .int .u8 0] 51)) Y.heap.size 51 (frL (FN.zero 0) .nil .nil)) := Lib.hid (At.new Y _ (frL (FN.zero 0) .nil .nil))
  have HY8 : Hid (∀ w8, At w8 Y.heap.size 51 LF → Kept (· = Y.heap.size) (Y.alloc (.cells #[.int .i64 0, .int .u64 0, .int .u64 0, .slice none 0 0, .bool false, .int .u64 0, .int .u64 0, .int .u64 0, .int .u64 0, .int .u64 0, .slice none 0 0, .int .u8 0, .int .u8 0, .int .u8 0, .int .u8 0, .int .u8 0, .int .u8 0, .int .u8 0, .int .u8 0] 51)) w8 → Sm w0 w8 q p X (fun b => b = W.heap.size ∨ F b) ∧ At w8 W.heap.size 51 (frL (FN.zero 0) .nil .nil) ∧ Below W.heap.size W w8 ∧ W.heap.size < w8.heap.size ∧ At w8 Y.heap.size 51 LF) := Lib.hid (fun w8 ha hk => by
    have hal : Below W.heap.size W (Y.alloc (.cells #[.int .i64 0, .int .u64 0, .int .u64 0, .slice none 0 0, .bool false, .int .u64 0, .int .u64 0, .int .u64 0, .int .u64 0, .int .u64 0, .slice none 0 0, .int .u8 0, .int .u8 0, .int .u8 0, .int .u8 0, .int .u8 0, .int .u8 0, .int .u8 0, .int .u8 0] 51)) := hBY.alloc (Nat.le_of_lt hgY) _
    have hs := hk.size
    simp at hs
    exact ⟨(hSA.other (.inl rfl) hSY.bl.size hk).weak fun b hb => .inr hb, (hAY.alloc _).kept hk (by omega), hk.below hal hal.size (fun j hj => by omega), by omega, ha⟩)
  have HK8 : Hid (∀ w8, At w8 Y.heap.size 51 LF → Kept (· = Y.heap.size) (Y.alloc (.cells #[.int .i64 0, .int .u64 0, .int .u64 0, .slice none 0 0, .bool false, .int .u64 0, .int .u64 0, .int .u64 0, .int .u64 0, .int .u64 0, .slice none 0 0, .int .u8 0, .int .u8 0, .int .u8 0, .int .u8 0, .int .u8 0, .int .u8 0, .int .u8 0, .int .u8 0] 51)) w8 → w8.cell? ⟨q, 0, none⟩ = some (.int .u64 X.id) ∧ w8.cell? ⟨q, 5, none⟩ = some (.int .u64 X.code)) := Lib.hid (fun w8 ha hk => ⟨(HY8.out w8 ha hk).1.c0, (HY8.out w8 ha hk).1.c5⟩)
  have r0 := hSY.c0
  have r5 := hSY.c5
  clear hL
  clear h h1 hA1 hB1 hgn hLF hFl hFo hFv hSY hAY hBY hSA
  go_enter Tryz.func45, Tryz.ntmps45
  go_wp2_with fail
  refine wp_region_held_drew (S := (fun W => W.cell? ⟨q, 0, none⟩ = some (.int .u64 X.id) ∧ W.cell? ⟨q, 5, none⟩ = some (.int .u64 X.code))) (by kernel_rfl) (by rw [hY]; exact ⟨r0, r5⟩) (fun hHeld => ?_)
  rw [hY] at hHeld ⊢
  clear hY
  refine tkq 0 (some 7) (v := ?_) rfl (Or.inl ⟨by rfl, ?_⟩) (by assumption) ?_
  rotate_left
  · intro w hSw; (try dsimp only at hSw); go_simp; first | done | (with_reducible rfl)
  simp only [Act.put, List.setIfInBounds_toArray, List.set_cons_zero, List.set_cons_succ]
  refine tkq 1 (some 8) (v := ?_) rfl (Or.inl ⟨by rfl, ?_⟩) (by assumption) ?_
  rotate_left
  · intro w hSw; (try dsimp only at hSw); go_simp; first | done | (with_reducible rfl)
  simp only [Act.put, List.setIfInBounds_toArray, List.set_cons_zero, List.set_cons_succ]
  refine tkq 2 (some 9) (v := ?_) rfl (Or.inl ⟨by rfl, ?_⟩) (by assumption) ?_
  rotate_left
  · intro w hSw; (try dsimp only at hSw); go_simp; first | done | (with_reducible rfl)
  simp only [Act.put, List.setIfInBounds_toArray, List.set_cons_zero, List.set_cons_succ]
  refine tkq 3 (some 10) (v := ?_) rfl (Or.inl ⟨by rfl, ?_⟩) (by assumption) ?_
  rotate_left
  · intro w hSw; (try dsimp only at hSw); go_simp; first | done | (with_reducible rfl)
  simp only [Act.put, List.setIfInBounds_toArray, List.set_cons_zero, List.set_cons_succ]
  refine tkq 4 (some 11) (v := ?_) rfl (Or.inl ⟨by rfl, ?_⟩) (by assumption) ?_
  rotate_left
  · intro w hSw; (try dsimp only at hSw); go_simp; first | done | (with_reducible rfl)
  simp only [Act.put, List.setIfInBounds_toArray, List.set_cons_zero, List.set_cons_succ]
  refine tkq 5 (some 12) (v := ?_) rfl (Or.inl ⟨by rfl, ?_⟩) (by assumption) ?_
  rotate_left
  · intro w hSw; (try dsimp only at hSw); go_simp; first | done | (with_reducible rfl)
  simp only [Act.put, List.setIfInBounds_toArray, List.set_cons_zero, List.set_cons_succ]
  refine tkq 6 (some 13) (v := ?_) rfl (Or.inl ⟨by rfl, ?_⟩) (by assumption) ?_
  rotate_left
  · intro w hSw; (try dsimp only at hSw); go_simp; first | done | (with_reducible rfl)
  simp only [Act.put, List.setIfInBounds_toArray, List.set_cons_zero, List.set_cons_succ]
  refine tkq 7 (some 14) (v := ?_) rfl (Or.inl ⟨by rfl, ?_⟩) (by assumption) ?_
  rotate_left
  · intro w hSw; (try dsimp only at hSw); go_simp; first | done | (with_reducible rfl)
  simp only [Act.put, List.setIfInBounds_toArray, List.set_cons_zero, List.set_cons_succ]
  refine tkq 8 (some 15) (v := ?_) rfl (Or.inl ⟨by rfl, ?_⟩) (by assumption) ?_
  rotate_left
  · intro w hSw; (try dsimp only at hSw); go_simp; first | done | (with_reducible rfl)
  simp only [Act.put, List.setIfInBounds_toArray, List.set_cons_zero, List.set_cons_succ]
  refine wpAnyH_ready (rs := [9, 11]) (by kernel_rfl) (by simp) ?_
  refine AllReadyH.cons rfl (fun K hK => ?_) (AllReadyH.cons rfl (fun K hK => ?_) (AllReadyH.nil))
  · go_simp
    go_wp2_with (go_at_call 27; (with_reducible refine HB.out.mono ?_); rintro ez w6 ⟨rfl, hw6⟩; rw [hw6]; clear hw6)
    refine hK.out _ _ ((⟨r0, r5⟩)) (fun hHeld => ?_)
    clear hK K
    refine tkq 10 (some 17) (v := ?_) rfl (Or.inl ⟨by rfl, ?_⟩) (by assumption) ?_
    rotate_left
    · intro w hSw; (try dsimp only at hSw); go_simp; first | done | (with_reducible rfl)
    simp only [Act.put, List.setIfInBounds_toArray, List.set_cons_zero, List.set_cons_succ]
    refine wpAnyH_ready (rs := [11]) (by kernel_rfl) (by simp) ?_
    refine AllReadyH.cons rfl (fun K hK => ?_) AllReadyH.nil
    go_simp
    go_wp2_with (fail)
    refine hK.out _ _ ((HKA.out)) (fun hHeld => ?_)
    clear hK K
    refine wpAnyH_ready (rs := [12]) (by kernel_rfl) (by simp) ?_
    refine AllReadyH.cons rfl (fun K hK => ?_) AllReadyH.nil
    refine step_st_any (by rfl) (Y.heap.size) 51 (frL (FN.zero 0) .nil .nil) LF (by rfl) (by rw [← HLF.out]; rfl) HAZ.out (by rw [HFl.out]; rfl) (by rw [HFl.out]; kernel_rfl) HFo.out ?_
    intro w8 hAn hkn
    refine hK.out _ _ ((HK8.out w8 hAn hkn)) (fun hHeld => ?_)
    clear hK K
    refine wpAnyH_done (by kernel_rfl) ?_ _
    have H8 := Lib.hid (HY8.out w8 hAn hkn)
    have x6 := H8.out.1.c6
    rw [hdue] at x6
    have HA8 := Lib.hid H8.out.2.1
    clear hdue hAn hkn HY8 HK8 HAZ HKA HA HB HLF
    go_wp2_with (first | ((with_reducible refine at_st (x := .tmp 4) ?_); refine st_at _ _ (frL (FN.zero 0) .nil .nil) (by rfl) (by rfl) HA8.out (by rfl) (by rfl) (by rfl) ?_; intro w9 hA9 hk9; skip) | fail)
    refine bodyPost_ret (results_cell_tmp 4 5 51 (by rfl) _ 51 _ _ _ (by rfl) (by rfl) hA9 Tryz.underlying51 rfl fr_info) rfl ?_
    exact HBX.out _ (hk9.below H8.out.2.2.1 (Nat.le_of_lt H8.out.2.2.2.1) (fun j hj => by omega))
  · go_simp
    go_wp2_with (fail)
    refine hK.out _ _ ((HKA.out)) (fun hHeld => ?_)
    clear hK K
    refine wpAnyH_ready (rs := [9]) (by kernel_rfl) (by simp) ?_
    refine AllReadyH.cons rfl (fun K hK => ?_) AllReadyH.nil
    go_simp
    go_wp2_with (go_at_call 27; (with_reducible refine HA.out.mono ?_); rintro ez w6 ⟨rfl, hw6⟩; rw [hw6]; clear hw6)
    refine hK.out _ _ ((HKA.out)) (fun hHeld => ?_)
    clear hK K
    refine tkq 10 (some 17) (v := ?_) rfl (Or.inl ⟨by rfl, ?_⟩) (by assumption) ?_
    rotate_left
    · intro w hSw; (try dsimp only at hSw); go_simp; first | done | (with_reducible rfl)
    simp only [Act.put, List.setIfInBounds_toArray, List.set_cons_zero, List.set_cons_succ]
    refine wpAnyH_ready (rs := [12]) (by kernel_rfl) (by simp) ?_
    refine AllReadyH.cons rfl (fun K hK => ?_) AllReadyH.nil
    refine step_st_any (by rfl) (Y.heap.size) 51 (frL (FN.zero 0) .nil .nil) LF (by rfl) (by rw [← HLF.out]; rfl) HAZ.out (by rw [HFl.out]; rfl) (by rw [HFl.out]; kernel_rfl) HFo.out ?_
    intro w8 hAn hkn
    refine hK.out _ _ ((HK8.out w8 hAn hkn)) (fun hHeld => ?_)
    clear hK K
    refine wpAnyH_done (by kernel_rfl) ?_ _
    have H8 := Lib.hid (HY8.out w8 hAn hkn)
    have x6 := H8.out.1.c6
    rw [hdue] at x6
    have HA8 := Lib.hid H8.out.2.1
    clear hdue hAn hkn HY8 HK8 HAZ HKA HA HB HLF
    go_wp2_with (first | ((with_reducible refine at_st (x := .tmp 4) ?_); refine st_at _ _ (frL (FN.zero 0) .nil .nil) (by rfl) (by rfl) HA8.out (by rfl) (by rfl) (by rfl) ?_; intro w9 hA9 hk9; skip) | fail)
    refine bodyPost_ret (results_cell_tmp 4 5 51 (by rfl) _ 51 _ _ _ (by rfl) (by rfl) hA9 Tryz.underlying51 rfl fr_info) rfl ?_
    exact HBX.out _ (hk9.below H8.out.2.2.1 (Nat.le_of_lt H8.out.2.2.2.1) (fun j hj => by omega))
set_option maxRecDepth 100000 in
set_option maxHeartbeats 4000000 in
theorem sm_nr_small (h : Sm w0 W q p X F) (hL : X.o.bs.length ≤ 1099511627776) (hdue : X.due = true) (room : Int) (hr : room < zsR X) :
    Calls Tryz.prog 45 #[.pointer (some ⟨q, 0, none⟩), .int .i64 room] W (SmPost w0 W q p X F noV) := by
  obtain ⟨W1, hW1, hA1, hB1, h1⟩ := fz_sm h
  have hgn : X.o.gn < 18446744073709551616 := by have := h.oz.ok.gl; omega
  have HSZ := Lib.hid (fun W' => fsize_any (fun _ => True) (m4 X.id X.code X.o.gn) .nil .nil [] [] W' ⟨m4_wf h.ok.id h.ok.code hgn, InD.nil_ _ _, InR.nil_ _ _⟩ (.inr (.inl rfl)))
  have hzb := zsR_bd X
  have HBX := Lib.hid (fun (W9 : World) (k : Below W.heap.size W W9) => h.same k noV)
  have HFX := Lib.hid (fun (W1 W5 W6 W9 : World) (X6 : SS) (v : Value) (bs : List Int) a b c d e f g k => nb_fin (W1 := W1) (W5 := W5) (W6 := W6) (W9 := W9) (X5 := X) (X6 := X6) (v := v) (bs := bs) h a b c d e f g k)
  obtain ⟨LF, hLF⟩ : ∃ LF, frL (m4 X.id X.code X.o.gn) .nil .nil = LF := ⟨_, rfl⟩
  have hFl : LF.length = 19 := by rw [← hLF]; rfl
  have hFo : LF.all (·.oneCell') = true := by rw [← hLF]; rfl
  have hFv : frV (m4 X.id X.code X.o.gn) .nil .nil = .agg LF.toArray := by rw [← hLF]; rfl
  have HLF := Lib.hid hLF
  have HFl := Lib.hid hFl
  have HFo := Lib.hid hFo
  have HTGT := Lib.hid hFv
  rw [hFv] at HSZ
  change Hid (∀ W', Calls Tryz.prog 57 #[.agg LF.toArray] W' (FrPost (.int .i64 (zsR X)) W')) at HSZ
  generalize zsR X = sz at *
  obtain ⟨Y, hY⟩ : ∃ x, W1.drew = x := ⟨_, rfl⟩
  have hSY : Sm w0 Y q p X (fun b => b = W.heap.size ∨ F b) := by rw [← hY]; exact h1.drewN 1
  have hAY : At Y W.heap.size 51 (frL (FN.zero 0) .nil .nil) := by rw [← hY]; exact hA1.drewN 1
  have hBY : Below W.heap.size W Y := by rw [← hY]; exact below_drewN hB1 1
  have hgY : W.heap.size < Y.heap.size := hAY.lt
  have hSA := hSY.beside (frL (FN.zero 0) .nil .nil) 51
  have HB := Lib.hid (sm_sent hSY)
  have HA : Hid (Calls Tryz.prog 27 #[.pointer (some ⟨q, 0, none⟩)] (Y.alloc (.cells #[.int .i64 0, .int .u64 0, .int .u64 0, .slice none 0 0, .bool false, .int .u64 0, .int .u64 0, .int .u64 0, .int .u64 0, .int .u64 0, .slice none 0 0, .int .u8 0, .int .u8 0, .int .u8 0, .int .u8 0, .int .u8 0, .int .u8 0, .int .u8 0, .int .u8 0] 51)) fun e w' => e = .returned (.int .u64 X.o.gn) ∧ w' = (Y.alloc (.cells #[.int .i64 0, .int .u64 0, .int .u64 0, .slice none 0 0, .bool false, .int .u64 0, .int .u64 0, .int .u64 0, .int .u64 0, .int .u64 0, .slice none 0 0, .int .u8 0, .int .u8 0, .int .u8 0, .int .u8 0, .int .u8 0, .int .u8 0, .int .u8 0, .int .u8 0] 51))) := Lib.hid (sm_sent hSA)
  have HKA : Hid ((Y.alloc (.cells #[.int .i64 0, .int .u64 0, .int .u64 0, .slice none 0 0, .bool false, .int .u64 0, .int .u64 0, .int .u64 0, .int .u64 0, .int .u64 0, .slice none 0 0, .int .u8 0, .int .u8 0, .int .u8 0, .int .u8 0, .int .u8 0, .int .u8 0, .int .u8 0, .int .u8 0] 51)).cell? ⟨q, 0, none⟩ = some (.int .u64 X.id) ∧ (Y.alloc (.cells #[.int .i64 0, .int .u64 0, .int .u64 0, .slice none 0 0, .bool false, .int .u64 0, .int .u64 0, .int .u64 0, .int .u64 0, .int .u64 0, .slice none 0 0, .int .u8 0, .int .u8 0, .int .u8 0, .int .u8 0, .int .u8 0, .int .u8 0, .int .u8 0, .int .u8 0] 51)).cell? ⟨q, 5, none⟩ = some (.int .u64 X.code)) := Lib.hid ⟨hSA.c0, hSA.c5⟩
  have HAZ : Hid (At (Y.alloc (.cells #[.int .i64 0, .int .u64 0, .int .u64 0, .slice none 0 0, .bool false, .int .u64 0, .int .u64 0, .int .u64 0, .int .u64 0, .int .u64 0, .slice none 0 0, .int .u8 0, .int .u8 0, .int .u8 0, .int .u8 0, .int .u8 0, .int .u8 0, .int .u8 0, .int .u8 0] 51)) Y.heap.size 51 (frL (FN.zero 0) .nil .nil)) := Lib.hid (At.new Y _ (frL (FN.zero 0) .nil .nil))
  have HY8 : Hid (∀ w8, At w8 Y.heap.size 51 LF → Kept (· = Y.heap.size) (Y.alloc (.cells #[.int .i64 0, .int .u64 0, .int .u64 0, .slice none 0 0, .bool false, .int .u64 0, .int .u64 0, .int .u64 0, .int .u64 0, .int .u64 0, .slice none 0 0, .int .u8 0, .int .u8 0, .int .u8 0, .int .u8 0, .int .u8 0, .int .u8 0, .int .u8 0, .int .u8 0] 51)) w8 → Sm w0 w8 q p X (fun b => b = W.heap.size ∨ F b) ∧ At w8 W.heap.size 51 (frL (FN.zero 0) .nil .nil) ∧ Below W.heap.size W w8 ∧ W.heap.size < w8.heap.size ∧ At w8 Y.heap.size 51 LF) := Lib.hid (fun w8 ha hk => by
    have hal : Below W.heap.size W (Y.alloc (.cells #[.int .i64 0, .int .u64 0, .int .u64 0, .slice none 0 0, .bool false, .int .u64 0, .int .u64 0, .int .u64 0, .int .u64 0, .int .u64 0, .slice none 0 0, .int .u8 0, .int .u8 0, .int .u8 0, .int .u8 0, .int .u8 0, .int .u8 0, .int .u8 0, .int .u8 0] 51)) := hBY.alloc (Nat.le_of_lt hgY) _
    have hs := hk.size
    simp at hs
    exact ⟨(hSA.other (.inl rfl) hSY.bl.size hk).weak fun b hb => .inr hb, (hAY.alloc _).kept hk (by omega), hk.below hal hal.size (fun j hj => by omega), by omega, ha⟩)
  have HK8 : Hid (∀ w8, At w8 Y.heap.size 51 LF → Kept (· = Y.heap.size) (Y.alloc (.cells #[.int .i64 0, .int .u64 0, .int .u64 0, .slice none 0 0, .bool false, .int .u64 0, .int .u64 0, .int .u64 0, .int .u64 0, .int .u64 0, .slice none 0 0, .int .u8 0, .int .u8 0, .int .u8 0, .int .u8 0, .int .u8 0, .int .u8 0, .int .u8 0, .int .u8 0] 51)) w8 → w8.cell? ⟨q, 0, none⟩ = some (.int .u64 X.id) ∧ w8.cell? ⟨q, 5, none⟩ = some (.int .u64 X.code)) := Lib.hid (fun w8 ha hk => ⟨(HY8.out w8 ha hk).1.c0, (HY8.out w8 ha hk).1.c5⟩)
  have r0 := hSY.c0
  have r5 := hSY.c5
  clear hL
  clear h h1 hA1 hB1 hgn hLF hFl hFo hFv hSY hAY hBY hSA
  go_enter Tryz.func45, Tryz.ntmps45
  go_wp2_with fail
  refine wp_region_held_drew (S := (fun W => W.cell? ⟨q, 0, none⟩ = some (.int .u64 X.id) ∧ W.cell? ⟨q, 5, none⟩ = some (.int .u64 X.code))) (by kernel_rfl) (by rw [hY]; exact ⟨r0, r5⟩) (fun hHeld => ?_)
  rw [hY] at hHeld ⊢
  clear hY
  refine tkq 0 (some 7) (v := ?_) rfl (Or.inl ⟨by rfl, ?_⟩) (by assumption) ?_
  rotate_left
  · intro w hSw; (try dsimp only at hSw); go_simp; first | done | (with_reducible rfl)
  simp only [Act.put, List.setIfInBounds_toArray, List.set_cons_zero, List.set_cons_succ]
  refine tkq 1 (some 8) (v := ?_) rfl (Or.inl ⟨by rfl, ?_⟩) (by assumption) ?_
  rotate_left
  · intro w hSw; (try dsimp only at hSw); go_simp; first | done | (with_reducible rfl)
  simp only [Act.put, List.setIfInBounds_toArray, List.set_cons_zero, List.set_cons_succ]
  refine tkq 2 (some 9) (v := ?_) rfl (Or.inl ⟨by rfl, ?_⟩) (by assumption) ?_
  rotate_left
  · intro w hSw; (try dsimp only at hSw); go_simp; first | done | (with_reducible rfl)
  simp only [Act.put, List.setIfInBounds_toArray, List.set_cons_zero, List.set_cons_succ]
  refine tkq 3 (some 10) (v := ?_) rfl (Or.inl ⟨by rfl, ?_⟩) (by assumption) ?_
  rotate_left
  · intro w hSw; (try dsimp only at hSw); go_simp; first | done | (with_reducible rfl)
  simp only [Act.put, List.setIfInBounds_toArray, List.set_cons_zero, List.set_cons_succ]
  refine tkq 4 (some 11) (v := ?_) rfl (Or.inl ⟨by rfl, ?_⟩) (by assumption) ?_
  rotate_left
  · intro w hSw; (try dsimp only at hSw); go_simp; first | done | (with_reducible rfl)
  simp only [Act.put, List.setIfInBounds_toArray, List.set_cons_zero, List.set_cons_succ]
  refine tkq 5 (some 12) (v := ?_) rfl (Or.inl ⟨by rfl, ?_⟩) (by assumption) ?_
  rotate_left
  · intro w hSw; (try dsimp only at hSw); go_simp; first | done | (with_reducible rfl)
  simp only [Act.put, List.setIfInBounds_toArray, List.set_cons_zero, List.set_cons_succ]
  refine tkq 6 (some 13) (v := ?_) rfl (Or.inl ⟨by rfl, ?_⟩) (by assumption) ?_
  rotate_left
  · intro w hSw; (try dsimp only at hSw); go_simp; first | done | (with_reducible rfl)
  simp only [Act.put, List.setIfInBounds_toArray, List.set_cons_zero, List.set_cons_succ]
  refine tkq 7 (some 14) (v := ?_) rfl (Or.inl ⟨by rfl, ?_⟩) (by assumption) ?_
  rotate_left
  · intro w hSw; (try dsimp only at hSw); go_simp; first | done | (with_reducible rfl)
  simp only [Act.put, List.setIfInBounds_toArray, List.set_cons_zero, List.set_cons_succ]
  refine tkq 8 (some 15) (v := ?_) rfl (Or.inl ⟨by rfl, ?_⟩) (by assumption) ?_
  rotate_left
  · intro w hSw; (try dsimp only at hSw); go_simp; first | done | (with_reducible rfl)
  simp only [Act.put, List.setIfInBounds_toArray, List.set_cons_zero, List.set_cons_succ]
  refine wpAnyH_ready (rs := [9, 11]) (by kernel_rfl) (by simp) ?_
  refine AllReadyH.cons rfl (fun K hK => ?_) (AllReadyH.cons rfl (fun K hK => ?_) (AllReadyH.nil))
  · go_simp
    go_wp2_with (go_at_call 27; (with_reducible refine HB.out.mono ?_); rintro ez w6 ⟨rfl, hw6⟩; rw [hw6]; clear hw6)
    refine hK.out _ _ ((⟨r0, r5⟩)) (fun hHeld => ?_)
    clear hK K
    refine tkq 10 (some 17) (v := ?_) rfl (Or.inl ⟨by rfl, ?_⟩) (by assumption) ?_
    rotate_left
    · intro w hSw; (try dsimp only at hSw); go_simp; first | done | (with_reducible rfl)
    simp only [Act.put, List.setIfInBounds_toArray, List.set_cons_zero, List.set_cons_succ]
    refine wpAnyH_ready (rs := [11]) (by kernel_rfl) (by simp) ?_
    refine AllReadyH.cons rfl (fun K hK => ?_) AllReadyH.nil
    go_simp
    go_wp2_with (fail)
    refine hK.out _ _ ((HKA.out)) (fun hHeld => ?_)
    clear hK K
    refine wpAnyH_ready (rs := [12]) (by kernel_rfl) (by simp) ?_
    refine AllReadyH.cons rfl (fun K hK => ?_) AllReadyH.nil
    refine step_st_any (by rfl) (Y.heap.size) 51 (frL (FN.zero 0) .nil .nil) LF (by rfl) (by rw [← HLF.out]; rfl) HAZ.out (by rw [HFl.out]; rfl) (by rw [HFl.out]; kernel_rfl) HFo.out ?_
    intro w8 hAn hkn
    refine hK.out _ _ ((HK8.out w8 hAn hkn)) (fun hHeld => ?_)
    clear hK K
    refine wpAnyH_done (by kernel_rfl) ?_ _
    have H8 := Lib.hid (HY8.out w8 hAn hkn)
    have x6 := H8.out.1.c6
    rw [hdue] at x6
    have HA8 := Lib.hid H8.out.2.1
    have HF8 := Lib.hid H8.out.2.2.2.2
    clear hdue hAn hkn HY8 HK8 HAZ HKA HA HB HLF
    go_wp2_with (first | ((with_reducible refine at_ld ?_); refine ld_fr_g _ LF (by rfl) (by rfl) HF8.out HFl.out ?_) | (go_at_call 57; (with_reducible refine (HSZ.out _).mono ?_); rintro e w10 ⟨rfl, hb10⟩; have H10 := Lib.hid hb10; have HA10 := Lib.hid (HA8.out.below hb10 HA8.out.lt); clear hb10) | ((with_reducible refine at_st (x := .tmp 4) ?_); refine st_at _ _ (frL (FN.zero 0) .nil .nil) (by rfl) (by rfl) HA10.out (by rfl) (by rfl) (by rfl) ?_; intro w9 hA9 hk9; skip) | fail)
    refine bodyPost_ret (results_cell_tmp 4 5 51 (by rfl) _ 51 _ _ _ (by rfl) (by rfl) hA9 Tryz.underlying51 rfl fr_info) rfl ?_
    have hb := H8.out.2.2.1.trans (H10.out.mono (Nat.le_of_lt H8.out.2.2.2.1))
    exact HBX.out _ (hk9.below hb hb.size (fun j hj => by omega))
  · go_simp
    go_wp2_with (fail)
    refine hK.out _ _ ((HKA.out)) (fun hHeld => ?_)
    clear hK K
    refine wpAnyH_ready (rs := [9]) (by kernel_rfl) (by simp) ?_
    refine AllReadyH.cons rfl (fun K hK => ?_) AllReadyH.nil
    go_simp
    go_wp2_with (go_at_call 27; (with_reducible refine HA.out.mono ?_); rintro ez w6 ⟨rfl, hw6⟩; rw [hw6]; clear hw6)
    refine hK.out _ _ ((HKA.out)) (fun hHeld => ?_)
    clear hK K
    refine tkq 10 (some 17) (v := ?_) rfl (Or.inl ⟨by rfl, ?_⟩) (by assumption) ?_
    rotate_left
    · intro w hSw; (try dsimp only at hSw); go_simp; first | done | (with_reducible rfl)
    simp only [Act.put, List.setIfInBounds_toArray, List.set_cons_zero, List.set_cons_succ]
    refine wpAnyH_ready (rs := [12]) (by kernel_rfl) (by simp) ?_
    refine AllReadyH.cons rfl (fun K hK => ?_) AllReadyH.nil
    refine step_st_any (by rfl) (Y.heap.size) 51 (frL (FN.zero 0) .nil .nil) LF (by rfl) (by rw [← HLF.out]; rfl) HAZ.out (by rw [HFl.out]; rfl) (by rw [HFl.out]; kernel_rfl) HFo.out ?_
    intro w8 hAn hkn
    refine hK.out _ _ ((HK8.out w8 hAn hkn)) (fun hHeld => ?_)
    clear hK K
    refine wpAnyH_done (by kernel_rfl) ?_ _
    have H8 := Lib.hid (HY8.out w8 hAn hkn)
    have x6 := H8.out.1.c6
    rw [hdue] at x6
    have HA8 := Lib.hid H8.out.2.1
    have HF8 := Lib.hid H8.out.2.2.2.2
    clear hdue hAn hkn HY8 HK8 HAZ HKA HA HB HLF
    go_wp2_with (first | ((with_reducible refine at_ld ?_); refine ld_fr_g _ LF (by rfl) (by rfl) HF8.out HFl.out ?_) | (go_at_call 57; (with_reducible refine (HSZ.out _).mono ?_); rintro e w10 ⟨rfl, hb10⟩; have H10 := Lib.hid hb10; have HA10 := Lib.hid (HA8.out.below hb10 HA8.out.lt); clear hb10) | ((with_reducible refine at_st (x := .tmp 4) ?_); refine st_at _ _ (frL (FN.zero 0) .nil .nil) (by rfl) (by rfl) HA10.out (by rfl) (by rfl) (by rfl) ?_; intro w9 hA9 hk9; skip) | fail)
    refine bodyPost_ret (results_cell_tmp 4 5 51 (by rfl) _ 51 _ _ _ (by rfl) (by rfl) hA9 Tryz.underlying51 rfl fr_info) rfl ?_
    have hb := H8.out.2.2.1.trans (H10.out.mono (Nat.le_of_lt H8.out.2.2.2.1))
    exact HBX.out _ (hk9.below hb hb.size (fun j hj => by omega))
set_option maxRecDepth 100000 in
set_option maxHeartbeats 4000000 in
theorem sm_nr (h : Sm w0 W q p X F) (hL : X.o.bs.length ≤ 1099511627776) (hdue : X.due = true) (room : Int) (hr : zsR X ≤ room) :
    Calls Tryz.prog 45 #[.pointer (some ⟨q, 0, none⟩), .int .i64 room] W (SmPost w0 W q p { X with due := false } F (.tuple #[frV (m4 X.id X.code X.o.gn) .nil .nil, .bool true])) := by
  have hrr : ¬ room < zsR X := by omega
  have HTP := Lib.hid (fun (W5 : World) (h5 : Sm w0 W5 q p X (fun b => b = W.heap.size ∨ F b)) => h5.top (X' := { X with due := false }) ((Kept.refl _ W5).setAt 6 (.bool false)) (h5.at_.set 6 (.bool false)) rfl ⟨h5.ok.id, h5.ok.lim, h5.ok.code, h5.ok.st⟩)
  obtain ⟨W1, hW1, hA1, hB1, h1⟩ := fz_sm h
  have hgn : X.o.gn < 18446744073709551616 := by have := h.oz.ok.gl; omega
  have HSZ := Lib.hid (fun W' => fsize_any (fun _ => True) (m4 X.id X.code X.o.gn) .nil .nil [] [] W' ⟨m4_wf h.ok.id h.ok.code hgn, InD.nil_ _ _, InR.nil_ _ _⟩ (.inr (.inl rfl)))
  have hzb := zsR_bd X
  have HBX := Lib.hid (fun (W9 : World) (k : Below W.heap.size W W9) => h.same k noV)
  have HFX := Lib.hid (fun (W1 W5 W6 W9 : World) (X6 : SS) (v : Value) (bs : List Int) a b c d e f g k => nb_fin (W1 := W1) (W5 := W5) (W6 := W6) (W9 := W9) (X5 := X) (X6 := X6) (v := v) (bs := bs) h a b c d e f g k)
  obtain ⟨LF, hLF⟩ : ∃ LF, frL (m4 X.id X.code X.o.gn) .nil .nil = LF := ⟨_, rfl⟩
  have hFl : LF.length = 19 := by rw [← hLF]; rfl
  have hFo : LF.all (·.oneCell') = true := by rw [← hLF]; rfl
  have hFv : frV (m4 X.id X.code X.o.gn) .nil .nil = .agg LF.toArray := by rw [← hLF]; rfl
  have HLF := Lib.hid hLF
  have HFl := Lib.hid hFl
  have HFo := Lib.hid hFo
  have HTGT := Lib.hid hFv
  rw [hFv] at HSZ
  change Hid (∀ W', Calls Tryz.prog 57 #[.agg LF.toArray] W' (FrPost (.int .i64 (zsR X)) W')) at HSZ
  generalize zsR X = sz at *
  obtain ⟨Y, hY⟩ : ∃ x, W1.drew = x := ⟨_, rfl⟩
  have hSY : Sm w0 Y q p X (fun b => b = W.heap.size ∨ F b) := by rw [← hY]; exact h1.drewN 1
  have hAY : At Y W.heap.size 51 (frL (FN.zero 0) .nil .nil) := by rw [← hY]; exact hA1.drewN 1
  have hBY : Below W.heap.size W Y := by rw [← hY]; exact below_drewN hB1 1
  have hgY : W.heap.size < Y.heap.size := hAY.lt
  have hSA := hSY.beside (frL (FN.zero 0) .nil .nil) 51
  have HB := Lib.hid (sm_sent hSY)
  have HA : Hid (Calls Tryz.prog 27 #[.pointer (some ⟨q, 0, none⟩)] (Y.alloc (.cells #[.int .i64 0, .int .u64 0, .int .u64 0, .slice none 0 0, .bool false, .int .u64 0, .int .u64 0, .int .u64 0, .int .u64 0, .int .u64 0, .slice none 0 0, .int .u8 0, .int .u8 0, .int .u8 0, .int .u8 0, .int .u8 0, .int .u8 0, .int .u8 0, .int .u8 0] 51)) fun e w' => e = .returned (.int .u64 X.o.gn) ∧ w' = (Y.alloc (.cells #[.int .i64 0, .int .u64 0, .int .u64 0, .slice none 0 0, .bool false, .int .u64 0, .int .u64 0, .int .u64 0, .int .u64 0, .int .u64 0, .slice none 0 0, .int .u8 0, .int .u8 0, .int .u8 0, .int .u8 0, .int .u8 0, .int .u8 0, .int .u8 0, .int .u8 0] 51))) := Lib.hid (sm_sent hSA)
  have HKA : Hid ((Y.alloc (.cells #[.int .i64 0, .int .u64 0, .int .u64 0, .slice none 0 0, .bool false, .int .u64 0, .int .u64 0, .int .u64 0, .int .u64 0, .int .u64 0, .slice none 0 0, .int .u8 0, .int .u8 0, .int .u8 0, .int .u8 0, .int .u8 0, .int .u8 0, .int .u8 0, .int .u8 0] 51)).cell? ⟨q, 0, none⟩ = some (.int .u64 X.id) ∧ (Y.alloc (.cells #[.int .i64 0, .int .u64 0, .int .u64 0, .slice none 0 0, .bool false, .int .u64 0, .int .u64 0, .int .u64 0, .int .u64 0, .int .u64 0, .slice none 0 0, .int .u8 0, .int .u8 0, .int .u8 0, .int .u8 0, .int .u8 0, .int .u8 0, .int .u8 0, .int .u8 0] 51)).cell? ⟨q, 5, none⟩ = some (.int .u64 X.code)) := Lib.hid ⟨hSA.c0, hSA.c5⟩
  have HAZ : Hid (At (Y.alloc (.cells #[.int .i64 0, .int .u64 0, .int .u64 0, .slice none 0 0, .bool false, .int .u64 0, .int .u64 0, .int .u64 0, .int .u64 0, .int .u64 0, .slice none 0 0, .int .u8 0, .int .u8 0, .int .u8 0, .int .u8 0, .int .u8 0, .int .u8 0, .int .u8 0, .int .u8 0] 51)) Y.heap.size 51 (frL (FN.zero 0) .nil .nil)) := Lib.hid (At.new Y _ (frL (FN.zero 0) .nil .nil))
  have HY8 : Hid (∀ w8, At w8 Y.heap.size 51 LF → Kept (· = Y.heap.size) (Y.alloc (.cells #[.int .i64 0, .int .u64 0, .int .u64 0, .slice none 0 0, .bool false, .int .u64 0, .int .u64 0, .int .u64 0, .int .u64 0, .int .u64 0, .slice none 0 0, .int .u8 0, .int .u8 0, .int .u8 0, .int .u8 0, .int .u8 0, .int .u8 0, .int .u8 0, .int .u8 0] 51)) w8 → Sm w0 w8 q p X (fun b => b = W.heap.size ∨ F b) ∧ At w8 W.heap.size 51 (frL (FN.zero 0) .nil .nil) ∧ Below W.heap.size W w8 ∧ W.heap.size < w8.heap.size ∧ At w8 Y.heap.size 51 LF) := Lib.hid (fun w8 ha hk => by
    have hal : Below W.heap.size W (Y.alloc (.cells #[.int .i64 0, .int .u64 0, .int .u64 0, .slice none 0 0, .bool false, .int .u64 0, .int .u64 0, .int .u64 0, .int .u64 0, .int .u64 0, .slice none 0 0, .int .u8 0, .int .u8 0, .int .u8 0, .int .u8 0, .int .u8 0, .int .u8 0, .int .u8 0, .int .u8 0] 51)) := hBY.alloc (Nat.le_of_lt hgY) _
    have hs := hk.size
    simp at hs
    exact ⟨(hSA.other (.inl rfl) hSY.bl.size hk).weak fun b hb => .inr hb, (hAY.alloc _).kept hk (by omega), hk.below hal hal.size (fun j hj => by omega), by omega, ha⟩)
  have HK8 : Hid (∀ w8, At w8 Y.heap.size 51 LF → Kept (· = Y.heap.size) (Y.alloc (.cells #[.int .i64 0, .int .u64 0, .int .u64 0, .slice none 0 0, .bool false, .int .u64 0, .int .u64 0, .int .u64 0, .int .u64 0, .int .u64 0, .slice none 0 0, .int .u8 0, .int .u8 0, .int .u8 0, .int .u8 0, .int .u8 0, .int .u8 0, .int .u8 0, .int .u8 0] 51)) w8 → w8.cell? ⟨q, 0, none⟩ = some (.int .u64 X.id) ∧ w8.cell? ⟨q, 5, none⟩ = some (.int .u64 X.code)) := Lib.hid (fun w8 ha hk => ⟨(HY8.out w8 ha hk).1.c0, (HY8.out w8 ha hk).1.c5⟩)
  have r0 := hSY.c0
  have r5 := hSY.c5
  have HNE : Hid (q ≠ Y.heap.size) := Lib.hid (by have := hSY.at_.lt; omega)
  clear hL
  clear h h1 hA1 hB1 hgn hLF hFl hFo hFv hSY hAY hBY hSA
  go_enter Tryz.func45, Tryz.ntmps45
  go_wp2_with fail
  refine wp_region_held_drew (S := (fun W => W.cell? ⟨q, 0, none⟩ = some (.int .u64 X.id) ∧ W.cell? ⟨q, 5, none⟩ = some (.int .u64 X.code))) (by kernel_rfl) (by rw [hY]; exact ⟨r0, r5⟩) (fun hHeld => ?_)
  rw [hY] at hHeld ⊢
  clear hY
  refine tkq 0 (some 7) (v := ?_) rfl (Or.inl ⟨by rfl, ?_⟩) (by assumption) ?_
  rotate_left
  · intro w hSw; (try dsimp only at hSw); go_simp; first | done | (with_reducible rfl)
  simp only [Act.put, List.setIfInBounds_toArray, List.set_cons_zero, List.set_cons_succ]
  refine tkq 1 (some 8) (v := ?_) rfl (Or.inl ⟨by rfl, ?_⟩) (by assumption) ?_
  rotate_left
  · intro w hSw; (try dsimp only at hSw); go_simp; first | done | (with_reducible rfl)
  simp only [Act.put, List.setIfInBounds_toArray, List.set_cons_zero, List.set_cons_succ]
  refine tkq 2 (some 9) (v := ?_) rfl (Or.inl ⟨by rfl, ?_⟩) (by assumption) ?_
  rotate_left
  · intro w hSw; (try dsimp only at hSw); go_simp; first | done | (with_reducible rfl)
  simp only [Act.put, List.setIfInBounds_toArray, List.set_cons_zero, List.set_cons_succ]
  refine tkq 3 (some 10) (v := ?_) rfl (Or.inl ⟨by rfl, ?_⟩) (by assumption) ?_
  rotate_left
  · intro w hSw; (try dsimp only at hSw); go_simp; first | done | (with_reducible rfl)
  simp only [Act.put, List.setIfInBounds_toArray, List.set_cons_zero, List.set_cons_succ]
  refine tkq 4 (some 11) (v := ?_) rfl (Or.inl ⟨by rfl, ?_⟩) (by assumption) ?_
  rotate_left
  · intro w hSw; (try dsimp only at hSw); go_simp; first | done | (with_reducible rfl)
  simp only [Act.put, List.setIfInBounds_toArray, List.set_cons_zero, List.set_cons_succ]
  refine tkq 5 (some 12) (v := ?_) rfl (Or.inl ⟨by rfl, ?_⟩) (by assumption) ?_
  rotate_left
  · intro w hSw; (try dsimp only at hSw); go_simp; first | done | (with_reducible rfl)
  simp only [Act.put, List.setIfInBounds_toArray, List.set_cons_zero, List.set_cons_succ]
  refine tkq 6 (some 13) (v := ?_) rfl (Or.inl ⟨by rfl, ?_⟩) (by assumption) ?_
  rotate_left
  · intro w hSw; (try dsimp only at hSw); go_simp; first | done | (with_reducible rfl)
  simp only [Act.put, List.setIfInBounds_toArray, List.set_cons_zero, List.set_cons_succ]
  refine tkq 7 (some 14) (v := ?_) rfl (Or.inl ⟨by rfl, ?_⟩) (by assumption) ?_
  rotate_left
  · intro w hSw; (try dsimp only at hSw); go_simp; first | done | (with_reducible rfl)
  simp only [Act.put, List.setIfInBounds_toArray, List.set_cons_zero, List.set_cons_succ]
  refine tkq 8 (some 15) (v := ?_) rfl (Or.inl ⟨by rfl, ?_⟩) (by assumption) ?_
  rotate_left
  · intro w hSw; (try dsimp only at hSw); go_simp; first | done | (with_reducible rfl)
  simp only [Act.put, List.setIfInBounds_toArray, List.set_cons_zero, List.set_cons_succ]
  refine wpAnyH_ready (rs := [9, 11]) (by kernel_rfl) (by simp) ?_
  refine AllReadyH.cons rfl (fun K hK => ?_) (AllReadyH.cons rfl (fun K hK => ?_) (AllReadyH.nil))
  · go_simp
    go_wp2_with (go_at_call 27; (with_reducible refine HB.out.mono ?_); rintro ez w6 ⟨rfl, hw6⟩; rw [hw6]; clear hw6)
    refine hK.out _ _ ((⟨r0, r5⟩)) (fun hHeld => ?_)
    clear hK K
    refine tkq 10 (some 17) (v := ?_) rfl (Or.inl ⟨by rfl, ?_⟩) (by assumption) ?_
    rotate_left
    · intro w hSw; (try dsimp only at hSw); go_simp; first | done | (with_reducible rfl)
    simp only [Act.put, List.setIfInBounds_toArray, List.set_cons_zero, List.set_cons_succ]
    refine wpAnyH_ready (rs := [11]) (by kernel_rfl) (by simp) ?_
    refine AllReadyH.cons rfl (fun K hK => ?_) AllReadyH.nil
    go_simp
    go_wp2_with (fail)
    refine hK.out _ _ ((HKA.out)) (fun hHeld => ?_)
    clear hK K
    refine wpAnyH_ready (rs := [12]) (by kernel_rfl) (by simp) ?_
    refine AllReadyH.cons rfl (fun K hK => ?_) AllReadyH.nil
    refine step_st_any (by rfl) (Y.heap.size) 51 (frL (FN.zero 0) .nil .nil) LF (by rfl) (by rw [← HLF.out]; rfl) HAZ.out (by rw [HFl.out]; rfl) (by rw [HFl.out]; kernel_rfl) HFo.out ?_
    intro w8 hAn hkn
    refine hK.out _ _ ((HK8.out w8 hAn hkn)) (fun hHeld => ?_)
    clear hK K
    refine wpAnyH_done (by kernel_rfl) ?_ _
    have H8 := Lib.hid (HY8.out w8 hAn hkn)
    have x6 := H8.out.1.c6
    rw [hdue] at x6
    have HA8 := Lib.hid H8.out.2.1
    have HF8 := Lib.hid H8.out.2.2.2.2
    clear hdue hAn hkn HY8 HK8 HAZ HKA HA HB HLF
    go_wp2_with (first | ((with_reducible refine at_ld ?_); refine ld_fr_g _ LF (by rfl) (by rfl) HF8.out HFl.out ?_) | (go_at_call 57; (with_reducible refine (HSZ.out _).mono ?_); rintro e w10 ⟨rfl, hb10⟩; have H10 := Lib.hid hb10; have h10 := H8.out.1.below hb10; have HS10 := Lib.hid h10; have f6 := h10.at_.frozen 6; have x6' := h10.c6; have HT := Lib.hid (HTP.out w10 h10); have HA11 := Lib.hid ((HA8.out.below hb10 HA8.out.lt).set_other (q := ⟨q, 6, none⟩) (fun e => h10.nF (.inl e)) (.bool false)); have HF11 := Lib.hid ((HF8.out.below hb10 HF8.out.lt).set_other (q := ⟨q, 6, none⟩) (fun e => HNE.out e) (.bool false)); clear h10; clear hb10) | ((with_reducible refine at_ld ?_); refine ld_fr_g _ LF (by rfl) (by rfl) HF11.out HFl.out ?_) | ((with_reducible refine at_st (x := .tmp 4) ?_); refine st_at _ _ LF (by rfl) (by rfl) HA11.out (by rfl) HFl.out HFo.out ?_; intro w9 hA9 hk9; skip) | fail)
    refine bodyPost_ret (results_cell_tmp 4 5 51 (by rfl) _ 51 _ _ _ (by rfl) (by rfl) hA9 Tryz.underlying51 rfl (by rw [HFl.out]; exact fr_info)) rfl ?_
    have hb := H8.out.2.2.1.trans (H10.out.mono (Nat.le_of_lt H8.out.2.2.2.1))
    have hs10 := H10.out.size
    obtain ⟨_, y2, y3, y4⟩ := HFX.out w10 w10 _ _ _ _ _ hb (Nat.lt_of_lt_of_le H8.out.2.2.2.1 hs10) (fun _ _ => rfl) (Nat.le_refl _) (Own.none_ _ _ _) HT.out.1 ((Kept.refl _ _).setAt 6 _) hk9
    rw [HTGT.out]
    exact ⟨rfl, y2, y3, y4⟩
  · go_simp
    go_wp2_with (fail)
    refine hK.out _ _ ((HKA.out)) (fun hHeld => ?_)
    clear hK K
    refine wpAnyH_ready (rs := [9]) (by kernel_rfl) (by simp) ?_
    refine AllReadyH.cons rfl (fun K hK => ?_) AllReadyH.nil
    go_simp
    go_wp2_with (go_at_call 27; (with_reducible refine HA.out.mono ?_); rintro ez w6 ⟨rfl, hw6⟩; rw [hw6]; clear hw6)
    refine hK.out _ _ ((HKA.out)) (fun hHeld => ?_)
    clear hK K
    refine tkq 10 (some 17) (v := ?_) rfl (Or.inl ⟨by rfl, ?_⟩) (by assumption) ?_
    rotate_left
    · intro w hSw; (try dsimp only at hSw); go_simp; first | done | (with_reducible rfl)
    simp only [Act.put, List.setIfInBounds_toArray, List.set_cons_zero, List.set_cons_succ]
    refine wpAnyH_ready (rs := [12]) (by kernel_rfl) (by simp) ?_
    refine AllReadyH.cons rfl (fun K hK => ?_) AllReadyH.nil
    refine step_st_any (by rfl) (Y.heap.size) 51 (frL (FN.zero 0) .nil .nil) LF (by rfl) (by rw [← HLF.out]; rfl) HAZ.out (by rw [HFl.out]; rfl) (by rw [HFl.out]; kernel_rfl) HFo.out ?_
    intro w8 hAn hkn
    refine hK.out _ _ ((HK8.out w8 hAn hkn)) (fun hHeld => ?_)
    clear hK K
    refine wpAnyH_done (by kernel_rfl) ?_ _
    have H8 := Lib.hid (HY8.out w8 hAn hkn)
    have x6 := H8.out.1.c6
    rw [hdue] at x6
    have HA8 := Lib.hid H8.out.2.1
    have HF8 := Lib.hid H8.out.2.2.2.2
    clear hdue hAn hkn HY8 HK8 HAZ HKA HA HB HLF
    go_wp2_with (first | ((with_reducible refine at_ld ?_); refine ld_fr_g _ LF (by rfl) (by rfl) HF8.out HFl.out ?_) | (go_at_call 57; (with_reducible refine (HSZ.out _).mono ?_); rintro e w10 ⟨rfl, hb10⟩; have H10 := Lib.hid hb10; have h10 := H8.out.1.below hb10; have HS10 := Lib.hid h10; have f6 := h10.at_.frozen 6; have x6' := h10.c6; have HT := Lib.hid (HTP.out w10 h10); have HA11 := Lib.hid ((HA8.out.below hb10 HA8.out.lt).set_other (q := ⟨q, 6, none⟩) (fun e => h10.nF (.inl e)) (.bool false)); have HF11 := Lib.hid ((HF8.out.below hb10 HF8.out.lt).set_other (q := ⟨q, 6, none⟩) (fun e => HNE.out e) (.bool false)); clear h10; clear hb10) | ((with_reducible refine at_ld ?_); refine ld_fr_g _ LF (by rfl) (by rfl) HF11.out HFl.out ?_) | ((with_reducible refine at_st (x := .tmp 4) ?_); refine st_at _ _ LF (by rfl) (by rfl) HA11.out (by rfl) HFl.out HFo.out ?_; intro w9 hA9 hk9; skip) | fail)
    refine bodyPost_ret (results_cell_tmp 4 5 51 (by rfl) _ 51 _ _ _ (by rfl) (by rfl) hA9 Tryz.underlying51 rfl (by rw [HFl.out]; exact fr_info)) rfl ?_
    have hb := H8.out.2.2.1.trans (H10.out.mono (Nat.le_of_lt H8.out.2.2.2.1))
    have hs10 := H10.out.size
    obtain ⟨_, y2, y3, y4⟩ := HFX.out w10 w10 _ _ _ _ _ hb (Nat.lt_of_lt_of_le H8.out.2.2.2.1 hs10) (fun _ _ => rfl) (Nat.le_refl _) (Own.none_ _ _ _) HT.out.1 ((Kept.refl _ _).setAt 6 _) hk9
    rw [HTGT.out]
    exact ⟨rfl, y2, y3, y4⟩
end
end Go.Proofs.YtbejpafephofaaaGreat
