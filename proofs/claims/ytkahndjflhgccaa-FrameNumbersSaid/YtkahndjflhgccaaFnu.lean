/-
  FrameNumbers, the closed sentence of chapter 4's runs, returns true: its walk.
-/
import Derived.Test.YtkahndjflhgccaaFns
import Derived.Test.YtkahndjflhgccaaFes
import Derived.Test.YtkahndjflhgccaaMk
import Derived.Test.YtkahndjflhgccaaFs
import Derived.Test.YtkahndjflhgccaaMl
import Derived.IntWalk
namespace Go.Proofs.Ytkahndjflhgccaa
set_option linter.unusedVariables false
set_option linter.unusedSimpArgs false
open Go.RowKit
/-- What stays: the frames that some() made. -/
structure FnS (w : World) (g off : Nat) (L : List FR) (W : World) : Prop where
  b : Below w.heap.size w W
  fr : FrsP W AnyB (some ⟨g, off, none⟩) 39 L
section
variable {w : World} {g off : Nat} {L : List FR} {W W' : World}
theorem FnS.below (h : FnS w g off L W) (k : Below W.heap.size W W') : FnS w g off L W' := ⟨h.b.trans (k.mono h.b.size), h.fr.below k⟩
theorem FnS.rng (h : FnS w g off L W) (i : Nat) (x : FR) (hx : L[i]? = some x) : W.rangeAt g (off + i * 19) (frL x.m x.d x.r) := by
  obtain ⟨b, o, e, _, _, hc⟩ := h.fr.2.1 (by omega)
  injection e with e
  injection e with e1 e2
  subst e1; subst e2
  exact hc i x hx
theorem FnS.fits (h : FnS w g off L W) (i : Nat) (x : FR) (hx : L[i]? = some x) : Fits W AnyB x.m x.d x.r x.ds x.rs := h.fr.2.2 x (List.mem_of_getElem? hx)
end
theorem frs_lit (W : World) (L : List FR) (n : Nat) (hn : L.length = n) (hm : n ≤ 1000) (hf : ∀ z ∈ L, Fits W AnyB z.m z.d z.r z.ds z.rs) : FrsP (W.alloc (.cells (frsC L).toArray 31)) AnyB (some ⟨W.heap.size, 0, none⟩) n L := by
  subst hn
  have hown : OwnF (W.alloc (.cells (frsC L).toArray 31)) W.heap.size (.slice (some ⟨W.heap.size, 0, none⟩) L.length L.length) L :=
    ⟨frsC_len L, .inr ⟨_, L.length, _, rfl, Nat.le_refl _, heap_alloc_new W _, Nat.le_refl _, by unfold maxLen; omega, by rw [List.size_toArray, frsC_len], by rw [List.take_of_length_le (by rw [frsC_len]; exact Nat.le_refl _)]⟩⟩
  exact hown.frsP rfl (fun _ _ => trivial) (fun z hz => (hf z hz).ext (Ext.of_below ((Below.refl _ _).alloc (Nat.le_refl _) _)))
theorem ping_fits (W : World) : Fits W AnyB (FN.zero 1) .nil .nil [] [] := ⟨wf_zero 1 (by omega) (by omega), InD.nil_ _ _, InR.nil_ _ _⟩
theorem inRow_rd {W : World} {g o n c : Nat} {bs : List Int} (h : Rd W W.heap.size (some ⟨g, o, none⟩) n bs) (h1 : n ≤ c) (h2 : c ≤ maxLen) : InRow W (some ⟨g, o, none⟩) n c bs := ⟨h, h1, h2, fun e => by cases e⟩
set_option maxRecDepth 100000 in
set_option maxHeartbeats 16000000 in
theorem fnumbers_law (w : World) : Calls Try.prog 3 #[] w fun e w' => e = .returned (.bool true) ∧ Below w.heap.size w w' := by
  obtain ⟨i0, hi, hz0, hz1, hz2⟩ := info_parts u8_info
  have HDEC := Lib.hid (fun (A : Option Addr) (n c : Nat) (bs : List Int) W (h : InRow W A n c bs) (hn : n ≤ 1000000) => fdecs_any A n c bs W h hn)
  have HENC := Lib.hid (fun (A : Option Addr) (n c : Nat) (L : List FR) W (h : FrsP W AnyB A n L) (hn : n ≤ 1000) (hc : n ≤ c) => fencs_any AnyB A n c L W h hn hc)
  have HKN := Lib.hid fknown_any
  go_enter Try.func3, Try.ntmps3
  go_wp2_with fail
  refine (some_any w).mono ?_
  rintro e w1 ⟨A, L, rfl, hf, hb⟩
  obtain ⟨g, off, rfl, _, _, _⟩ := hf.2.1 (by omega)
  have hLn := Lib.hid hf.1
  have HI := Lib.hid (show FnS w g off L w1 from ⟨hb, hf⟩)
  clear hf hb
  go_wp2_with fail
  go_loopw [2] (fun i wr => ∃ k : Nat, k ≤ 39 ∧ i = .int .i64 k ∧ Hid (FnS w g off L wr)) (fun i _ => 39 - (intOf i).toNat)
  case atStart => exact ⟨0, by omega, rfl, HI⟩
  case round =>
    obtain ⟨k, hk, rfl, hst⟩ := hrel
    obtain ⟨wo, rfl⟩ : ∃ wo : World, wo = wr := ⟨_, rfl⟩
    have hS0 := hst.out
    clear hst HI
    by_cases hlt : k < 39
    · have hkI : (k : Int) < 39 := by omega
      obtain ⟨j, hj⟩ : ∃ j, (k + 1) % 39 = j := ⟨_, rfl⟩
      have hj39 : j < 39 := by omega
      have hjI : (j : Int) < 39 := by omega
      have hj0 : (0 : Int) ≤ (j : Int) := by omega
      have hwr : IntKind.i64.wrap ((k : Int) + 1) = (k : Int) + 1 := by rw [IntKind.wrap_i64]; omega
      have htm : ((k : Int) + 1).tmod 39 = (j : Int) := by rw [Int.tmod_eq_emod_of_nonneg (by omega)]; omega
      have hwj : IntKind.i64.wrap (j : Int) = (j : Int) := by rw [IntKind.wrap_i64]; omega
      clear hj
      obtain ⟨x, hx⟩ : ∃ x, L[k]? = some x := ⟨_, List.getElem?_eq_getElem (by rw [hLn.out]; omega)⟩
      obtain ⟨y, hy⟩ : ∃ y, L[j]? = some y := ⟨_, List.getElem?_eq_getElem (by rw [hLn.out]; omega)⟩
      have hxr := Lib.hid (fun W (h : FnS w g off L W) => h.rng k x hx)
      have hyr := Lib.hid (fun W (h : FnS w g off L W) => h.rng j y hy)
      have hxf := Lib.hid (fun W (h : FnS w g off L W) => h.fits k x hx)
      have hyf := Lib.hid (fun W (h : FnS w g off L W) => h.fits j y hy)
      have H30 := Lib.hid (fun W (h : FnS w g off L W) => fsame2_any AnyB x.m y.m x.d x.r y.d y.r x.ds y.ds x.rs y.rs W (hxf.out W h) (hyf.out W h))
      have H43 := Lib.hid (fun W (h : FnS w g off L W) => rsame_any AnyB x.m y.m x.d y.d x.r y.r x.ds y.ds x.rs y.rs W (hxf.out W h) (hyf.out W h))
      have H63 := Lib.hid (fun W (h : FnS w g off L W) => rright_any AnyB x.m x.d x.r x.ds x.rs W (hxf.out W h))
      have H69 := Lib.hid (fun (hr : rightB x.m x.ds x.rs = true) W (h : FnS w g off L W) => rone_any AnyB x.m x.d x.r x.ds x.rs W (hxf.out W h) hr)
      have hbd := Lib.hid (fun (hr : rightB x.m x.ds x.rs = true) => one_bound x.m x.ds x.rs hr)
      have hps := Lib.hid (fun (hr : rightB x.m x.ds x.rs = true) => one_pos x.m x.ds x.rs hr)
      obtain ⟨B, hB⟩ : ∃ b, sameB x.m y.m x.ds y.ds x.rs y.rs = b := ⟨_, rfl⟩
      rw [hB] at H30 H43
      have hBB : (B != B) = false := by simp
      obtain ⟨RB, hRB⟩ : ∃ b, rightB x.m x.ds x.rs = b := ⟨_, rfl⟩
      rw [hRB] at H63 H69 hbd hps
      obtain ⟨E1, hE1⟩ : ∃ l, oneS x.m x.ds x.rs = l := ⟨_, rfl⟩
      rw [hE1] at H69 hbd hps
      have hvx : frV x.m x.d x.r = .agg (frL x.m x.d x.r).toArray := rfl
      have hvy : frV y.m y.d y.r = .agg (frL y.m y.d y.r).toArray := rfl
      have hlx : (frL x.m x.d x.r).length = 19 := rfl
      have hly : (frL y.m y.d y.r).length = 19 := rfl
      obtain ⟨fx, hfx⟩ : ∃ l, frL x.m x.d x.r = l := ⟨_, rfl⟩
      obtain ⟨fy, hfy⟩ : ∃ l, frL y.m y.d y.r = l := ⟨_, rfl⟩
      rw [hfx] at hxr hvx hlx
      rw [hfy] at hyr hvy hly
      rw [hvx, hvy] at H30 H43
      rw [hvx] at H63 H69
      have HVX := Lib.hid hvx
      have HLX := Lib.hid hlx
      have HLY := Lib.hid hly
      clear hB hRB hE1 hvx hvy hlx hly hfx hfy hx hy
      go_wp2_with fail
      have hS0 := hS0.below (Below.refl _ _).drew
      obtain ⟨Y0, hY⟩ : ∃ x, wo.drew = x := ⟨_, rfl⟩
      rw [hY] at hS0
      refine wp_region_held_drew (S := (fun W => FnS w g off L W)) (by kernel_rfl) (by rw [hY]; exact hS0) (fun hHeld => ?_)
      rw [hY] at hHeld ⊢
      clear hY
      refine tkq 0 (some 13) (v := ?_) rfl (Or.inl ⟨by rfl, ?_⟩) (by assumption) ?_
      rotate_left
      · intro w hSw; (try dsimp only at hSw); go_simp; first | done | (with_reducible rfl)
      simp only [Act.put, List.setIfInBounds_toArray, List.set_cons_zero, List.set_cons_succ]
      refine tkq 1 (some 14) (v := ?_) rfl (Or.inl ⟨by rfl, ?_⟩) (by assumption) ?_
      rotate_left
      · intro w hSw; (try dsimp only at hSw); go_simp; first | done | (with_reducible rfl)
      simp only [Act.put, List.setIfInBounds_toArray, List.set_cons_zero, List.set_cons_succ]
      refine tkq 2 (some 15) (v := ?_) rfl (Or.inl ⟨by rfl, ?_⟩) (by assumption) ?_
      rotate_left
      · intro w hSw; (try dsimp only at hSw); go_simp; first | done | (with_reducible rfl)
      simp only [Act.put, List.setIfInBounds_toArray, List.set_cons_zero, List.set_cons_succ]
      refine tkq 3 (some 16) (v := ?_) rfl ?_ (by assumption) ?_
      rotate_left
      · refine yl_any 31 (.tmp 15) ?_ g (off + k * 19) ?_ fx _ ?_ Try.underlying31 rfl ?_ ?_
        · rfl
        · rfl
        · intro w hSw; exact (hxr.out w hSw)
        · exact (by rw [HLX.out]; exact fr_info)
        · rfl
      simp only [Act.put, List.setIfInBounds_toArray, List.set_cons_zero, List.set_cons_succ]
      refine wpAnyH_ready (rs := [4]) (by kernel_rfl) (by simp) ?_
      refine AllReadyH.cons rfl (fun K hK => ?_) AllReadyH.nil
      refine step_ok (some 17) rfl (by rfl) (run_bs_op 1 _ rfl [x] rfl (by omega) (by omega) (by show [(0, Value.agg fx.toArray)] = _; rw [← HVX.out]; rfl)) ?_
      refine hK.out _ _ (hS0.below ((Below.refl _ _).alloc (Nat.le_refl _) _)) (fun hHeld => ?_)
      clear hK K
      simp only [Act.put, List.setIfInBounds_toArray, List.set_cons_zero, List.set_cons_succ]
      have hq1 := frs_lit Y0 [x] 1 rfl (by omega) (by intro z hz; simp only [List.mem_cons, List.not_mem_nil, or_false] at hz; subst hz; exact hxf.out _ hS0)
      have hS1 := hS0.below ((Below.refl Y0.heap.size Y0).alloc (Nat.le_refl _) (.cells (frsC [x]).toArray 31))
      obtain ⟨g1, hg1⟩ : ∃ z, Y0.heap.size = z := ⟨_, rfl⟩
      obtain ⟨Y1, hY1⟩ : ∃ z, Y0.alloc (.cells (frsC [x]).toArray 31) = z := ⟨_, rfl⟩
      rw [hY1] at hq1 hS1 hHeld
      rw [hg1] at hq1
      rw [hg1, hY1]
      clear hg1 hY1
      refine wpAnyH_ready (rs := [5]) (by kernel_rfl) (by simp) ?_
      refine AllReadyH.cons rfl (fun K hK => ?_) AllReadyH.nil
      go_simp
      go_wp2_with (go_at_call 8; refine (HENC.out (some ⟨g1, 0, none⟩) 1 1 [x] _ hq1 (by omega) (by omega)).mono ?_; rintro e Y2 ⟨rfl, hb2⟩; have hS2 := hS1.below hb2)
      refine hK.out _ _ (hS2) (fun hHeld => ?_)
      clear hK K
      refine tkq 6 (some 19) (v := ?_) rfl (Or.inl ⟨by rfl, ?_⟩) (by assumption) ?_
      rotate_left
      · intro w hSw; (try dsimp only at hSw); go_simp; first | done | (with_reducible rfl)
      simp only [Act.put, List.setIfInBounds_toArray, List.set_cons_zero, List.set_cons_succ]
      refine tkq 7 (some 20) (v := ?_) rfl (Or.inl ⟨by rfl, ?_⟩) (by assumption) ?_
      rotate_left
      · intro w hSw; (try dsimp only at hSw); go_simp; first | done | (with_reducible rfl)
      simp only [Act.put, List.setIfInBounds_toArray, List.set_cons_zero, List.set_cons_succ]
      refine tkq 8 (some 21) (v := ?_) rfl (Or.inl ⟨by rfl, ?_⟩) (by assumption) ?_
      rotate_left
      · intro w hSw; (try dsimp only at hSw); go_simp; first | done | (with_reducible rfl)
      simp only [Act.put, List.setIfInBounds_toArray, List.set_cons_zero, List.set_cons_succ]
      refine tkq 9 (some 22) (v := ?_) rfl (Or.inl ⟨by rfl, ?_⟩) (by assumption) ?_
      rotate_left
      · intro w hSw; (try dsimp only at hSw); go_simp; first | done | (with_reducible rfl)
      simp only [Act.put, List.setIfInBounds_toArray, List.set_cons_zero, List.set_cons_succ]
      refine tkq 10 (some 23) (v := ?_) rfl (Or.inl ⟨by rfl, ?_⟩) (by assumption) ?_
      rotate_left
      · intro w hSw; (try dsimp only at hSw); go_simp; first | done | (with_reducible rfl)
      simp only [Act.put, List.setIfInBounds_toArray, List.set_cons_zero, List.set_cons_succ]
      refine tkq 11 (some 24) (v := ?_) rfl (Or.inl ⟨by rfl, ?_⟩) (by assumption) ?_
      rotate_left
      · intro w hSw; (try dsimp only at hSw); go_simp; first | done | (with_reducible rfl)
      simp only [Act.put, List.setIfInBounds_toArray, List.set_cons_zero, List.set_cons_succ]
      refine tkq 12 (some 25) (v := ?_) rfl ?_ (by assumption) ?_
      rotate_left
      · refine yl_any 31 (.tmp 24) ?_ g (off + k * 19) ?_ fx _ ?_ Try.underlying31 rfl ?_ ?_
        · rfl
        · rfl
        · intro w hSw; exact (hxr.out w hSw)
        · exact (by rw [HLX.out]; exact fr_info)
        · rfl
      simp only [Act.put, List.setIfInBounds_toArray, List.set_cons_zero, List.set_cons_succ]
      refine wpAnyH_ready (rs := [13]) (by kernel_rfl) (by simp) ?_
      refine AllReadyH.cons rfl (fun K hK => ?_) AllReadyH.nil
      refine step_ok (some 26) rfl (by rfl) (run_bs_op 2 _ rfl [⟨FN.zero 1, .nil, .nil, [], []⟩, x] rfl (by omega) (by omega) (by show [(0, .agg #[.int .i64 1, .int .u64 0, .int .u64 0, .slice none 0 0, .bool false, .int .u64 0, .int .u64 0, .int .u64 0, .int .u64 0, .int .u64 0, .slice none 0 0, .int .u8 0, .int .u8 0, .int .u8 0, .int .u8 0, .int .u8 0, .int .u8 0, .int .u8 0, .int .u8 0]), (1, Value.agg fx.toArray)] = _; rw [← HVX.out]; rfl)) ?_
      refine hK.out _ _ (hS2.below ((Below.refl _ _).alloc (Nat.le_refl _) _)) (fun hHeld => ?_)
      clear hK K
      simp only [Act.put, List.setIfInBounds_toArray, List.set_cons_zero, List.set_cons_succ]
      have hq3 := frs_lit Y2 [⟨FN.zero 1, .nil, .nil, [], []⟩, x] 2 rfl (by omega) (by intro z hz; simp only [List.mem_cons, List.not_mem_nil, or_false] at hz; rcases hz with rfl | rfl; exact ping_fits _; exact hxf.out _ hS2)
      have hS3 := hS2.below ((Below.refl Y2.heap.size Y2).alloc (Nat.le_refl _) (.cells (frsC [⟨FN.zero 1, .nil, .nil, [], []⟩, x]).toArray 31))
      obtain ⟨g3, hg3⟩ : ∃ z, Y2.heap.size = z := ⟨_, rfl⟩
      obtain ⟨Y3, hY3⟩ : ∃ z, Y2.alloc (.cells (frsC [⟨FN.zero 1, .nil, .nil, [], []⟩, x]).toArray 31) = z := ⟨_, rfl⟩
      rw [hY3] at hq3 hS3 hHeld
      rw [hg3] at hq3
      rw [hg3, hY3]
      clear hg3 hY3
      refine wpAnyH_ready (rs := [14]) (by kernel_rfl) (by simp) ?_
      refine AllReadyH.cons rfl (fun K hK => ?_) AllReadyH.nil
      go_simp
      go_wp2_with (go_at_call 8; refine (HENC.out (some ⟨g3, 0, none⟩) 2 2 [⟨FN.zero 1, .nil, .nil, [], []⟩, x] _ hq3 (by omega) (by omega)).mono ?_; rintro e Y4 ⟨rfl, hb4⟩; have hS4 := hS3.below hb4)
      refine hK.out _ _ (hS4) (fun hHeld => ?_)
      clear hK K
      refine tkq 15 (some 28) (v := ?_) rfl (Or.inl ⟨by rfl, ?_⟩) (by assumption) ?_
      rotate_left
      · intro w hSw; (try dsimp only at hSw); go_simp; first | done | (with_reducible rfl)
      simp only [Act.put, List.setIfInBounds_toArray, List.set_cons_zero, List.set_cons_succ]
      refine tkq 16 (some 29) (v := ?_) rfl (Or.inl ⟨by rfl, ?_⟩) (by assumption) ?_
      rotate_left
      · intro w hSw; (try dsimp only at hSw); go_simp; first | done | (with_reducible rfl)
      simp only [Act.put, List.setIfInBounds_toArray, List.set_cons_zero, List.set_cons_succ]
      refine tkq 17 (some 30) (v := ?_) rfl (Or.inl ⟨by rfl, ?_⟩) (by assumption) ?_
      rotate_left
      · intro w hSw; (try dsimp only at hSw); go_simp; first | done | (with_reducible rfl)
      simp only [Act.put, List.setIfInBounds_toArray, List.set_cons_zero, List.set_cons_succ]
      refine tkq 18 (some 31) (v := ?_) rfl (Or.inl ⟨by rfl, ?_⟩) (by assumption) ?_
      rotate_left
      · intro w hSw; (try dsimp only at hSw); go_simp; first | done | (with_reducible rfl)
      simp only [Act.put, List.setIfInBounds_toArray, List.set_cons_zero, List.set_cons_succ]
      refine tkq 19 (some 32) (v := ?_) rfl (Or.inl ⟨by rfl, ?_⟩) (by assumption) ?_
      rotate_left
      · intro w hSw; (try dsimp only at hSw); go_simp; first | done | (with_reducible rfl)
      simp only [Act.put, List.setIfInBounds_toArray, List.set_cons_zero, List.set_cons_succ]
      refine tkq 20 (some 33) (v := ?_) rfl (Or.inl ⟨by rfl, ?_⟩) (by assumption) ?_
      rotate_left
      · intro w hSw; (try dsimp only at hSw); go_simp; first | done | (with_reducible rfl)
      simp only [Act.put, List.setIfInBounds_toArray, List.set_cons_zero, List.set_cons_succ]
      refine tkq 21 (some 34) (v := ?_) rfl ?_ (by assumption) ?_
      rotate_left
      · refine yl_any 31 (.tmp 33) ?_ g (off + k * 19) ?_ fx _ ?_ Try.underlying31 rfl ?_ ?_
        · rfl
        · rfl
        · intro w hSw; exact (hxr.out w hSw)
        · exact (by rw [HLX.out]; exact fr_info)
        · rfl
      simp only [Act.put, List.setIfInBounds_toArray, List.set_cons_zero, List.set_cons_succ]
      refine tkq 22 (some 35) (v := ?_) rfl (Or.inl ⟨by rfl, ?_⟩) (by assumption) ?_
      rotate_left
      · intro w hSw; (try dsimp only at hSw); go_simp; first | done | (with_reducible rfl)
      simp only [Act.put, List.setIfInBounds_toArray, List.set_cons_zero, List.set_cons_succ]
      refine tkq 23 (some 36) (v := ?_) rfl (Or.inl ⟨by rfl, ?_⟩) (by assumption) ?_
      rotate_left
      · intro w hSw; (try dsimp only at hSw); go_simp; first | done | (with_reducible rfl)
      simp only [Act.put, List.setIfInBounds_toArray, List.set_cons_zero, List.set_cons_succ]
      refine tkq 24 (some 37) (v := ?_) rfl (Or.inl ⟨by rfl, ?_⟩) (by assumption) ?_
      rotate_left
      · intro w hSw; (try dsimp only at hSw); go_simp; first | done | (with_reducible rfl)
      simp only [Act.put, List.setIfInBounds_toArray, List.set_cons_zero, List.set_cons_succ]
      refine tkq 25 (some 38) (v := ?_) rfl (Or.inl ⟨by rfl, ?_⟩) (by assumption) ?_
      rotate_left
      · intro w hSw; (try dsimp only at hSw); go_simp; first | done | (with_reducible rfl)
      simp only [Act.put, List.setIfInBounds_toArray, List.set_cons_zero, List.set_cons_succ]
      refine tkq 26 (some 39) (v := ?_) rfl (Or.inl ⟨by rfl, ?_⟩) (by assumption) ?_
      rotate_left
      · intro w hSw; (try dsimp only at hSw); go_simp; first | done | (with_reducible rfl)
      simp only [Act.put, List.setIfInBounds_toArray, List.set_cons_zero, List.set_cons_succ]
      refine tkq 27 (some 40) (v := ?_) rfl (Or.inl ⟨by rfl, ?_⟩) (by assumption) ?_
      rotate_left
      · intro w hSw; (try dsimp only at hSw); go_simp; first | done | (with_reducible rfl)
      simp only [Act.put, List.setIfInBounds_toArray, List.set_cons_zero, List.set_cons_succ]
      refine tkq 28 (some 41) (v := ?_) rfl (Or.inl ⟨by rfl, ?_⟩) (by assumption) ?_
      rotate_left
      · intro w hSw; (try dsimp only at hSw); go_simp; first | done | (with_reducible rfl)
      simp only [Act.put, List.setIfInBounds_toArray, List.set_cons_zero, List.set_cons_succ]
      refine tkq 29 (some 42) (v := ?_) rfl ?_ (by assumption) ?_
      rotate_left
      · refine yl_any 31 (.tmp 41) ?_ g (off + j * 19) ?_ fy _ ?_ Try.underlying31 rfl ?_ ?_
        · rfl
        · rfl
        · intro w hSw; exact (hyr.out w hSw)
        · exact (by rw [HLY.out]; exact fr_info)
        · rfl
      simp only [Act.put, List.setIfInBounds_toArray, List.set_cons_zero, List.set_cons_succ]
      refine tkq 31 (some 44) (v := ?_) rfl (Or.inl ⟨by rfl, ?_⟩) (by assumption) ?_
      rotate_left
      · intro w hSw; (try dsimp only at hSw); go_simp; first | done | (with_reducible rfl)
      simp only [Act.put, List.setIfInBounds_toArray, List.set_cons_zero, List.set_cons_succ]
      refine tkq 32 (some 45) (v := ?_) rfl (Or.inl ⟨by rfl, ?_⟩) (by assumption) ?_
      rotate_left
      · intro w hSw; (try dsimp only at hSw); go_simp; first | done | (with_reducible rfl)
      simp only [Act.put, List.setIfInBounds_toArray, List.set_cons_zero, List.set_cons_succ]
      refine tkq 33 (some 46) (v := ?_) rfl (Or.inl ⟨by rfl, ?_⟩) (by assumption) ?_
      rotate_left
      · intro w hSw; (try dsimp only at hSw); go_simp; first | done | (with_reducible rfl)
      simp only [Act.put, List.setIfInBounds_toArray, List.set_cons_zero, List.set_cons_succ]
      refine tkq 34 (some 47) (v := ?_) rfl ?_ (by assumption) ?_
      rotate_left
      · refine yl_any 31 (.tmp 46) ?_ g (off + k * 19) ?_ fx _ ?_ Try.underlying31 rfl ?_ ?_
        · rfl
        · rfl
        · intro w hSw; exact (hxr.out w hSw)
        · exact (by rw [HLX.out]; exact fr_info)
        · rfl
      simp only [Act.put, List.setIfInBounds_toArray, List.set_cons_zero, List.set_cons_succ]
      refine tkq 35 (some 48) (v := ?_) rfl (Or.inl ⟨by rfl, ?_⟩) (by assumption) ?_
      rotate_left
      · intro w hSw; (try dsimp only at hSw); go_simp; first | done | (with_reducible rfl)
      simp only [Act.put, List.setIfInBounds_toArray, List.set_cons_zero, List.set_cons_succ]
      refine tkq 36 (some 49) (v := ?_) rfl (Or.inl ⟨by rfl, ?_⟩) (by assumption) ?_
      rotate_left
      · intro w hSw; (try dsimp only at hSw); go_simp; first | done | (with_reducible rfl)
      simp only [Act.put, List.setIfInBounds_toArray, List.set_cons_zero, List.set_cons_succ]
      refine tkq 37 (some 50) (v := ?_) rfl (Or.inl ⟨by rfl, ?_⟩) (by assumption) ?_
      rotate_left
      · intro w hSw; (try dsimp only at hSw); go_simp; first | done | (with_reducible rfl)
      simp only [Act.put, List.setIfInBounds_toArray, List.set_cons_zero, List.set_cons_succ]
      refine tkq 38 (some 51) (v := ?_) rfl (Or.inl ⟨by rfl, ?_⟩) (by assumption) ?_
      rotate_left
      · intro w hSw; (try dsimp only at hSw); go_simp; first | done | (with_reducible rfl)
      simp only [Act.put, List.setIfInBounds_toArray, List.set_cons_zero, List.set_cons_succ]
      refine tkq 39 (some 52) (v := ?_) rfl (Or.inl ⟨by rfl, ?_⟩) (by assumption) ?_
      rotate_left
      · intro w hSw; (try dsimp only at hSw); go_simp; first | done | (with_reducible rfl)
      simp only [Act.put, List.setIfInBounds_toArray, List.set_cons_zero, List.set_cons_succ]
      refine tkq 40 (some 53) (v := ?_) rfl (Or.inl ⟨by rfl, ?_⟩) (by assumption) ?_
      rotate_left
      · intro w hSw; (try dsimp only at hSw); go_simp; first | done | (with_reducible rfl)
      simp only [Act.put, List.setIfInBounds_toArray, List.set_cons_zero, List.set_cons_succ]
      refine tkq 41 (some 54) (v := ?_) rfl (Or.inl ⟨by rfl, ?_⟩) (by assumption) ?_
      rotate_left
      · intro w hSw; (try dsimp only at hSw); go_simp; first | done | (with_reducible rfl)
      simp only [Act.put, List.setIfInBounds_toArray, List.set_cons_zero, List.set_cons_succ]
      refine tkq 42 (some 55) (v := ?_) rfl ?_ (by assumption) ?_
      rotate_left
      · refine yl_any 31 (.tmp 54) ?_ g (off + j * 19) ?_ fy _ ?_ Try.underlying31 rfl ?_ ?_
        · rfl
        · rfl
        · intro w hSw; exact (hyr.out w hSw)
        · exact (by rw [HLY.out]; exact fr_info)
        · rfl
      simp only [Act.put, List.setIfInBounds_toArray, List.set_cons_zero, List.set_cons_succ]
      refine wpAnyH_ready (rs := [30]) (by kernel_rfl) (by simp) ?_
      refine AllReadyH.cons rfl (fun K hK => ?_) AllReadyH.nil
      go_simp
      go_wp2_with (go_at_call 9; refine (H30.out _ hS4).mono ?_; rintro e Y5 ⟨rfl, hb5⟩; have hS5 := hS4.below hb5)
      refine hK.out _ _ (hS5) (fun hHeld => ?_)
      clear hK K
      refine wpAnyH_ready (rs := [43]) (by kernel_rfl) (by simp) ?_
      refine AllReadyH.cons rfl (fun K hK => ?_) AllReadyH.nil
      go_simp
      go_wp2_with (go_at_call 10; refine (H43.out _ hS5).mono ?_; rintro e Y6 ⟨rfl, hb6⟩; have hS6 := hS5.below hb6)
      refine hK.out _ _ (hS6) (fun hHeld => ?_)
      clear hK K
      refine tkq 44 (some 57) (v := ?_) rfl (Or.inl ⟨by rfl, ?_⟩) (by assumption) ?_
      rotate_left
      · intro w hSw; (try dsimp only at hSw); go_simp; first | done | (with_reducible rfl)
      simp only [Act.put, List.setIfInBounds_toArray, List.set_cons_zero, List.set_cons_succ]
      refine tkq 45 (some 58) (v := ?_) rfl (Or.inl ⟨by rfl, ?_⟩) (by assumption) ?_
      rotate_left
      · intro w hSw; (try dsimp only at hSw); go_simp; first | done | (with_reducible rfl)
      simp only [Act.put, List.setIfInBounds_toArray, List.set_cons_zero, List.set_cons_succ]
      refine wpAnyH_done (by kernel_rfl) ?_ _
      have hS := hS6
      obtain ⟨Z, hZ⟩ : ∃ z, Y6 = z := ⟨_, rfl⟩
      rw [hZ] at hS ⊢
      clear hHeld hZ
      go_wp2_with (first | ((with_reducible refine at_ld ?_); refine ld_fr_o g (off + k * 19) fx (by rfl) (by rfl) (hxr.out _ hS) HLX.out ?_) | fail)
      refine (H63.out Z hS).mono ?_
      rintro e Z1 ⟨rfl, hb1⟩
      have hS1 := hS.below hb1
      clear hS hb1
      cases RB
      · have HN := Lib.hid hS1
        clear hS1
        go_wp2_with fail
        go_roundw
        case rel => exact ⟨k + 1, by omega, by go_num, HN⟩
        case measure => simp [intOf]; omega
      · have hle := hbd.out rfl
        have hpos := hps.out rfl
        go_wp2_with (first | ((with_reducible refine at_ld ?_); refine ld_fr_o g (off + k * 19) fx (by rfl) (by rfl) (hxr.out _ hS1) HLX.out ?_) | fail)
        refine (H69.out (by first | rfl | trivial) Z1 hS1).mono ?_
        rintro e Z2 ⟨Ab, nb, cb, rfl, hl, hob, hrb, hb2⟩
        have hS2 := hS1.below hb2
        obtain ⟨Ab', cb', e9, hc1, hc2, _⟩ := hob.open_n nb hl
        injection e9 with e9 _ e10
        subst e9; subst e10
        obtain ⟨gb, ob, rfl, _, _⟩ := hrb.2.2 (by omega)
        rw [hl] at hle hpos
        have hc3 := hc2
        unfold maxLen at hc3
        have HL := Lib.hid hl
        have HI := Lib.hid (And.intro hS2 hrb)
        clear hS1 hS2 hb2 hob hrb hl
        go_wp2_with fail
        go_loopw [4] (fun i wr => ∃ q : Nat, q ≤ 60 ∧ q ≤ nb + 1 ∧ i = .int .i64 q ∧ Hid (FnS w g off L wr ∧ Rd wr wr.heap.size (some ⟨gb, ob, none⟩) nb E1)) (fun i _ => 61 - (intOf i).toNat)
        case atStart => exact ⟨0, by omega, by omega, rfl, HI⟩
        case round =>
          obtain ⟨q, hq, hqn, rfl, hst⟩ := hrel
          obtain ⟨wo, rfl⟩ : ∃ wo : World, wo = wr := ⟨_, rfl⟩
          have hS := hst.out.1
          have hR := hst.out.2
          clear hst HI
          by_cases hin : q ≤ nb ∧ q < 60
          · obtain ⟨h1, h2⟩ := hin
            have h1I : (q : Int) ≤ (nb : Int) := by omega
            have h2I : (q : Int) < 60 := by omega
            have hqc : q ≤ cb := by omega
            have hqcI : (q : Int) ≤ (cb : Int) := by omega
            go_wp2_with fail
            have hS := hS.below (Below.refl _ _).drew
            have hR : Rd wo.drew wo.drew.heap.size _ _ _ := hR.drew
            obtain ⟨V, hV⟩ : ∃ x, wo.drew = x := ⟨_, rfl⟩
            rw [hV] at hS hR
            refine wp_region_held_drew (S := (fun _ => True)) (by kernel_rfl) (trivial) (fun hHeld => ?_)
            rw [hV]
            clear hV
            refine tkq 0 (some 80) (v := ?_) rfl (Or.inl ⟨by rfl, ?_⟩) (by assumption) ?_
            rotate_left
            · intro w hSw; (try dsimp only at hSw); go_simp; first | done | (with_reducible rfl)
            simp only [Act.put, List.setIfInBounds_toArray, List.set_cons_zero, List.set_cons_succ]
            refine tkq 1 (some 81) (v := ?_) rfl (Or.inl ⟨by rfl, ?_⟩) (by assumption) ?_
            rotate_left
            · intro w hSw; (try dsimp only at hSw); go_simp; first | done | (with_reducible rfl)
            simp only [Act.put, List.setIfInBounds_toArray, List.set_cons_zero, List.set_cons_succ]
            refine tkq 2 (some 82) (v := ?_) rfl (Or.inl ⟨by rfl, ?_⟩) (by assumption) ?_
            rotate_left
            · intro w hSw; (try dsimp only at hSw); go_simp; first | done | (with_reducible rfl)
            simp only [Act.put, List.setIfInBounds_toArray, List.set_cons_zero, List.set_cons_succ]
            refine wpAnyH_ready (rs := [3]) (by kernel_rfl) (by simp) ?_
            refine AllReadyH.cons rfl (fun K hK => ?_) AllReadyH.nil
            go_simp
            go_wp2_with (go_at_call 13; refine (HDEC.out (some ⟨gb, ob, none⟩) q cb (E1.take q) V (inRow_rd (hR.cutTo h1) hqc hc2) (by omega)).mono ?_; rintro e V1 ⟨rfl, hv1⟩; have hS1 := hS.below hv1; have hR1 := (hR.below hv1).more hv1.size)
            refine hK.out _ _ (trivial) (fun hHeld => ?_)
            clear hK K
            refine tkq 4 (some 84) (v := ?_) rfl (Or.inl ⟨by rfl, ?_⟩) (by assumption) ?_
            rotate_left
            · intro w hSw; (try dsimp only at hSw); go_simp; first | done | (with_reducible rfl)
            simp only [Act.put, List.setIfInBounds_toArray, List.set_cons_zero, List.set_cons_succ]
            refine tkq 5 (some 85) (v := ?_) rfl (Or.inl ⟨by rfl, ?_⟩) (by assumption) ?_
            rotate_left
            · intro w hSw; (try dsimp only at hSw); go_simp; first | done | (with_reducible rfl)
            simp only [Act.put, List.setIfInBounds_toArray, List.set_cons_zero, List.set_cons_succ]
            refine tkq 7 (some 87) (v := ?_) rfl (Or.inl ⟨by rfl, ?_⟩) (by assumption) ?_
            rotate_left
            · intro w hSw; (try dsimp only at hSw); go_simp; first | done | (with_reducible rfl)
            simp only [Act.put, List.setIfInBounds_toArray, List.set_cons_zero, List.set_cons_succ]
            refine tkq 9 (some 89) (v := ?_) rfl (Or.inl ⟨by rfl, ?_⟩) (by assumption) ?_
            rotate_left
            · intro w hSw; (try dsimp only at hSw); go_simp; first | done | (with_reducible rfl)
            simp only [Act.put, List.setIfInBounds_toArray, List.set_cons_zero, List.set_cons_succ]
            refine tkq 10 (some 90) (v := ?_) rfl (Or.inl ⟨by rfl, ?_⟩) (by assumption) ?_
            rotate_left
            · intro w hSw; (try dsimp only at hSw); go_simp; first | done | (with_reducible rfl)
            simp only [Act.put, List.setIfInBounds_toArray, List.set_cons_zero, List.set_cons_succ]
            refine tkq 11 (some 91) (v := ?_) rfl (Or.inl ⟨by rfl, ?_⟩) (by assumption) ?_
            rotate_left
            · intro w hSw; (try dsimp only at hSw); go_simp; first | done | (with_reducible rfl)
            simp only [Act.put, List.setIfInBounds_toArray, List.set_cons_zero, List.set_cons_succ]
            refine wpAnyH_ready (rs := [6]) (by kernel_rfl) (by simp) ?_
            refine AllReadyH.cons rfl (fun K hK => ?_) AllReadyH.nil
            go_simp
            go_wp2_with (fail)
            refine hK.out _ _ (trivial) (fun hHeld => ?_)
            clear hK K
            have hb2 : Below V1.heap.size V1 (V1.alloc (.cells #[] 5)) := (Below.refl _ _).alloc (Nat.le_refl _) _
            have ho2 : Own (V1.alloc (.cells #[] 5)) V1.heap.size 5 (.slice (some ⟨V1.heap.size, 0, none⟩) 0 0) [] := Own.of_block (n := 0) (cap := 0) Byt.nil rfl (heap_alloc_new V1 _) (Nat.le_refl _) (Nat.le_refl _) (Nat.zero_le _) rfl rfl
            obtain ⟨V2, hV2⟩ : ∃ z, V1.alloc (.cells #[] 5) = z := ⟨_, rfl⟩
            rw [hV2] at hb2 ho2
            rw [hV2]
            clear hV2
            refine wpAnyH_ready (rs := [8]) (by kernel_rfl) (by simp) ?_
            refine AllReadyH.cons rfl (fun K hK => ?_) AllReadyH.nil
            have hR2 := (hR1.below hb2).more hb2.size
            refine step_append_at2 (some 88) rfl (by rfl) (.tmp 86) (.tmp 87) 26 rfl V1.heap.size 5 i0 Try.underlying26 hi hz0 hz1 hz2 _ [] (by rfl) ho2 _ _ nb cb E1 (by rfl) hR2 (by simp; omega) hb2.size V1 hb2 ?_
            intro v3 V3 ho3 hb3
            refine hK.out _ _ (trivial) (fun hHeld => ?_)
            clear hK K
            simp only [Act.put, List.setIfInBounds_toArray, List.set_cons_zero, List.set_cons_succ]
            refine wpAnyH_ready (rs := [12]) (by kernel_rfl) (by simp) ?_
            refine AllReadyH.cons rfl (fun K hK => ?_) AllReadyH.nil
            have hR3 := (hR1.below hb3).more hb3.size
            refine step_append_at2 (some 92) rfl (by rfl) (.tmp 88) (.tmp 91) 26 rfl V1.heap.size 5 i0 Try.underlying26 hi hz0 hz1 hz2 _ ([] ++ E1) (by rfl) ho3 _ _ q cb (E1.take q) (by rfl) (hR3.cutTo h1) (by rw [List.nil_append, HL.out]; omega) hb3.size V1 hb3 ?_
            intro v4 V4 ho4 hb4
            obtain ⟨A4, c4, rfl, r1, r2, r3⟩ := ho4.open_n (nb + q) (by rw [List.nil_append, List.length_append, HL.out, List.length_take, HL.out]; omega)
            obtain ⟨g4, o4, rfl, _, _⟩ := r3.2.2 (by omega)
            refine hK.out _ _ (trivial) (fun hHeld => ?_)
            clear hK K
            simp only [Act.put, List.setIfInBounds_toArray, List.set_cons_zero, List.set_cons_succ]
            refine wpAnyH_ready (rs := [13]) (by kernel_rfl) (by simp) ?_
            refine AllReadyH.cons rfl (fun K hK => ?_) AllReadyH.nil
            go_simp
            go_wp2_with (go_at_call 13; refine (HDEC.out (some ⟨g4, o4, none⟩) (nb + q) c4 _ V4 (inRow_rd r3 r1 r2) (by omega)).mono ?_; rintro e V5 ⟨rfl, hv5⟩; have hS5 := (hS1.below hb4).below hv5; have hR5 := (((hR1.below hb4).more hb4.size).below hv5).more hv5.size)
            refine hK.out _ _ (trivial) (fun hHeld => ?_)
            clear hK K
            refine tkq 14 (some 94) (v := ?_) rfl (Or.inl ⟨by rfl, ?_⟩) (by assumption) ?_
            rotate_left
            · intro w hSw; (try dsimp only at hSw); go_simp; first | done | (with_reducible rfl)
            simp only [Act.put, List.setIfInBounds_toArray, List.set_cons_zero, List.set_cons_succ]
            refine tkq 15 (some 95) (v := ?_) rfl (Or.inl ⟨by rfl, ?_⟩) (by assumption) ?_
            rotate_left
            · intro w hSw; (try dsimp only at hSw); go_simp; first | done | (with_reducible rfl)
            simp only [Act.put, List.setIfInBounds_toArray, List.set_cons_zero, List.set_cons_succ]
            refine wpAnyH_done (by kernel_rfl) ?_ _
            have HN := Lib.hid (And.intro hS5 hR5)
            clear hS hR hS1 hR1 hb2 ho2 hR2 ho3 hb3 hR3 ho4 hb4 r3 hS5 hR5 hHeld
            go_wp2_with fail
            go_roundw
            case rel => exact ⟨q + 1, by omega, by omega, by go_num, HN⟩
            case measure => simp [intOf]; omega
          · have HN := Lib.hid hS
            clear hS hR
            by_cases h1 : q ≤ nb
            · have h1I : (q : Int) ≤ (nb : Int) := by omega
              have h2I : ¬ (q : Int) < 60 := by omega
              clear hin
              go_wp2_with fail
              go_roundw
              case rel => exact ⟨k + 1, by omega, by go_num, HN⟩
              case measure => simp [intOf]; omega
            · have h1I : ¬ (q : Int) ≤ (nb : Int) := by omega
              clear hin
              go_wp2_with fail
              go_roundw
              case rel => exact ⟨k + 1, by omega, by go_num, HN⟩
              case measure => simp [intOf]; omega
    · obtain rfl : k = 39 := by omega
      rw [show ((39 : Nat) : Int) = 39 from rfl]
      have HB := Lib.hid hS0.b
      clear hS0
      go_wp2_with fail
      go_loopw [5] (fun i wr => ∃ q : Nat, q ≤ 256 ∧ i = .int .i64 q ∧ Hid (Below w.heap.size w wr)) (fun i _ => 256 - (intOf i).toNat)
      case atStart => exact ⟨0, by omega, rfl, HB⟩
      case round =>
        obtain ⟨q, hq, rfl, hst⟩ := hrel
        obtain ⟨wo, rfl⟩ : ∃ wo : World, wo = wr := ⟨_, rfl⟩
        have hb0 := hst.out
        clear hst HB
        by_cases hlq : q < 256
        · have hqI : (q : Int) < 256 := by omega
          obtain ⟨X, hX⟩ : ∃ z, IntKind.u8.wrap (q : Int) = z := ⟨_, rfl⟩
          have hXb := u8_wrap_bd (q : Int)
          rw [hX] at hXb
          obtain ⟨Y0, hY⟩ : ∃ x, wo = x := ⟨_, rfl⟩
          rw [hY] at hb0 ⊢
          clear hY
          have hr1 : Rd (Y0.alloc (.cells #[.int .u8 X, .int .u8 1, .int .u8 2, .int .u8 3, .int .u8 0, .int .u8 8, .int .u8 1, .int .u8 2, .int .u8 3, .int .u8 4, .int .u8 5, .int .u8 6, .int .u8 7, .int .u8 8, .int .u8 9] 5)) (Y0.heap.size + 1) (some ⟨Y0.heap.size, 0, none⟩) 15 [X, 1, 2, 3, 0, 8, 1, 2, 3, 4, 5, 6, 7, 8, 9] := Rd.lit Y0 5 [X, 1, 2, 3, 0, 8, 1, 2, 3, 4, 5, 6, 7, 8, 9] (by intro z hz; simp only [List.mem_cons, List.not_mem_nil, or_false] at hz; omega) #[.int .u8 X, .int .u8 1, .int .u8 2, .int .u8 3, .int .u8 0, .int .u8 8, .int .u8 1, .int .u8 2, .int .u8 3, .int .u8 4, .int .u8 5, .int .u8 6, .int .u8 7, .int .u8 8, .int .u8 9] rfl
          have hr1 : Rd (Y0.alloc (.cells #[.int .u8 X, .int .u8 1, .int .u8 2, .int .u8 3, .int .u8 0, .int .u8 8, .int .u8 1, .int .u8 2, .int .u8 3, .int .u8 4, .int .u8 5, .int .u8 6, .int .u8 7, .int .u8 8, .int .u8 9] 5)) (Y0.alloc (.cells #[.int .u8 X, .int .u8 1, .int .u8 2, .int .u8 3, .int .u8 0, .int .u8 8, .int .u8 1, .int .u8 2, .int .u8 3, .int .u8 4, .int .u8 5, .int .u8 6, .int .u8 7, .int .u8 8, .int .u8 9] 5)).heap.size _ _ _ := hr1.more (by simp)
          have hb1 := hb0.alloc hb0.size (.cells #[.int .u8 X, .int .u8 1, .int .u8 2, .int .u8 3, .int .u8 0, .int .u8 8, .int .u8 1, .int .u8 2, .int .u8 3, .int .u8 4, .int .u8 5, .int .u8 6, .int .u8 7, .int .u8 8, .int .u8 9] 5)
          obtain ⟨Y1, hY1⟩ : ∃ z, Y0.alloc (.cells #[.int .u8 X, .int .u8 1, .int .u8 2, .int .u8 3, .int .u8 0, .int .u8 8, .int .u8 1, .int .u8 2, .int .u8 3, .int .u8 4, .int .u8 5, .int .u8 6, .int .u8 7, .int .u8 8, .int .u8 9] 5) = z := ⟨_, rfl⟩
          rw [hY1] at hr1 hb1
          go_wp2_with fail
          refine (HDEC.out _ 15 15 _ Y1 (inRow_rd hr1 (Nat.le_refl _) (by unfold maxLen; omega)) (by omega)).mono ?_
          rintro e Y2 ⟨rfl, hv2⟩
          have hb2 := hb1.trans (hv2.mono hb1.size)
          clear hY1 hr1
          have hr3 : Rd (Y2.alloc (.cells #[.int .u8 64, .int .u8 X, .int .u8 5, .int .u8 1, .int .u8 8, .int .u8 0] 5)) (Y2.heap.size + 1) (some ⟨Y2.heap.size, 0, none⟩) 6 [64, X, 5, 1, 8, 0] := Rd.lit Y2 5 [64, X, 5, 1, 8, 0] (by intro z hz; simp only [List.mem_cons, List.not_mem_nil, or_false] at hz; omega) #[.int .u8 64, .int .u8 X, .int .u8 5, .int .u8 1, .int .u8 8, .int .u8 0] rfl
          have hr3 : Rd (Y2.alloc (.cells #[.int .u8 64, .int .u8 X, .int .u8 5, .int .u8 1, .int .u8 8, .int .u8 0] 5)) (Y2.alloc (.cells #[.int .u8 64, .int .u8 X, .int .u8 5, .int .u8 1, .int .u8 8, .int .u8 0] 5)).heap.size _ _ _ := hr3.more (by simp)
          have hb3 := hb2.alloc hb2.size (.cells #[.int .u8 64, .int .u8 X, .int .u8 5, .int .u8 1, .int .u8 8, .int .u8 0] 5)
          obtain ⟨Y3, hY3⟩ : ∃ z, Y2.alloc (.cells #[.int .u8 64, .int .u8 X, .int .u8 5, .int .u8 1, .int .u8 8, .int .u8 0] 5) = z := ⟨_, rfl⟩
          rw [hY3] at hr3 hb3
          go_wp2_with fail
          refine (HDEC.out _ 6 6 _ Y3 (inRow_rd hr3 (Nat.le_refl _) (by unfold maxLen; omega)) (by omega)).mono ?_
          rintro e Y4 ⟨rfl, hv4⟩
          have hb4 := hb3.trans (hv4.mono hb3.size)
          clear hY3 hr3
          have hr5 : Rd (Y4.alloc (.cells #[.int .u8 X] 5)) (Y4.heap.size + 1) (some ⟨Y4.heap.size, 0, none⟩) 1 [X] := Rd.lit Y4 5 [X] (by intro z hz; simp only [List.mem_cons, List.not_mem_nil, or_false] at hz; omega) #[.int .u8 X] rfl
          have hr5 : Rd (Y4.alloc (.cells #[.int .u8 X] 5)) (Y4.alloc (.cells #[.int .u8 X] 5)).heap.size _ _ _ := hr5.more (by simp)
          have hb5 := hb4.alloc hb4.size (.cells #[.int .u8 X] 5)
          obtain ⟨Y5, hY5⟩ : ∃ z, Y4.alloc (.cells #[.int .u8 X] 5) = z := ⟨_, rfl⟩
          rw [hY5] at hr5 hb5
          go_wp2_with fail
          refine (HDEC.out _ 1 1 _ Y5 (inRow_rd hr5 (Nat.le_refl _) (by unfold maxLen; omega)) (by omega)).mono ?_
          rintro e Y6 ⟨rfl, hv6⟩
          have hb6 := hb5.trans (hv6.mono hb5.size)
          clear hY5 hr5
          have HN := Lib.hid hb6
          go_wp2_with fail
          go_roundw
          case rel => exact ⟨q + 1, by omega, by go_num, HN⟩
          case measure => simp [intOf]; omega
        · obtain rfl : q = 256 := by omega
          rw [show ((256 : Nat) : Int) = 256 from rfl]
          go_wp2_with fail
          refine (HENC.out none 0 0 [] wo ⟨rfl, fun h => absurd h (by omega), fun z hz => by cases hz⟩ (by omega) (by omega)).mono ?_
          rintro e w5 ⟨rfl, hb5⟩
          have hb5 := hb0.trans (hb5.mono hb0.size)
          go_wp2_with fail
          refine (HKN.out w5).mono ?_
          rintro e w6 ⟨rfl, hb6⟩
          go_wp2_with fail
          go_ret
          exact ⟨rfl, hb5.trans (hb6.mono hb5.size)⟩
end Go.Proofs.Ytkahndjflhgccaa
