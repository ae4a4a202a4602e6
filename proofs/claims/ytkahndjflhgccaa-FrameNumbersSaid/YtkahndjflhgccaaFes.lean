/-
  encodes: what the program writes of frames, whatever they are, the document's own does.
-/
import Derived.Test.YtkahndjflhgccaaFqe
import Derived.Test.YtkahndjflhgccaaCopy
import Derived.Test.YtkahndjflhgccaaFasks
import Derived.Test.YtkahndjflhgccaaLists
import Derived.Test.YtkahndjflhgccaaSteps
import Derived.Test.YtkahndjflhgccaaFback
namespace Go.Proofs.Ytkahndjflhgccaa
set_option linter.unusedVariables false
set_option linter.unusedSimpArgs false
open Go.RowKit
structure FesAt (w : World) (E : List Int) (A : Option Addr) (n : Nat) (wr : World) : Prop where
  rd : Rd wr wr.heap.size A n E
  bl : Below w.heap.size w wr
theorem FesAt.step {w wr w' : World} {E : List Int} {A : Option Addr} {n : Nat} (h : FesAt w E A n wr) (hb : Below wr.heap.size wr w') : FesAt w E A n w' := ⟨(h.rd.below hb).more hb.size, h.bl.trans (hb.mono h.bl.size)⟩
set_option maxRecDepth 100000 in
set_option maxHeartbeats 4000000 in
theorem fencs_any (P : Nat → Prop) (A : Option Addr) (n c : Nat) (L : List FR) (w : World) (hf : FrsP w P A n L) (hn : n ≤ 1000) (hnc : n ≤ c) :
    Calls Try.prog 8 #[.slice A n c] w (FrPost (.bool true) w) := by
  have hf0 := hf.mono (P' := fun b => b < w.heap.size) (fun b hb _ => hb)
  have HF := Lib.hid hf0
  have HLN := Lib.hid hf.1
  have hen := encode_any P A n c L w hf hn hnc
  have hene : ∀ e w', EncPost L w e w' → ∃ A1 n1 c1 E ec, e = .returned (.tuple #[.slice A1 n1 c1, .int .i64 ec]) ∧ Rd w' w'.heap.size A1 n1 E ∧ (L.all FR.right = true → ec = 0 ∧ E = encS L) ∧ (L.all FR.right = false → ec = 1 ∧ n1 = 0) ∧ Below w.heap.size w w' := by
    rintro e w' ⟨h1, h2, h3⟩
    cases ha : L.all FR.right with
    | true =>
      obtain ⟨v, rfl, hO⟩ := h1 ha
      obtain ⟨A1, c1, rfl, _, _, hR⟩ := hO.open_n _ rfl
      exact ⟨A1, _, c1, encS L, 0, rfl, hR, (fun _ => ⟨rfl, rfl⟩), (fun h => by cases h), h3⟩
    | false =>
      rw [h2 ha]
      exact ⟨none, 0, 0, [], 1, rfl, Rd.none_ _ _ _, (fun h => by cases h), (fun _ => ⟨rfl, rfl⟩), h3⟩
  have hre : L.all FR.right = true → ∀ W, Below w.heap.size w W → Calls Try.prog 16 #[.slice A n c] W (RowPost W.heap.size (encS L) W) := fun ha W hW => rencode_any _ A n c L W (hf0.below hW) hn hnc ha
  have HEN := Lib.hid hen
  have HENE := Lib.hid hene
  have HRE := Lib.hid hre
  clear hf hf0 hen hene hre
  go_enter Try.func8, Try.ntmps8
  go_wp2_with fail
  refine HEN.out.mono ?_
  intro e w1 hpo
  obtain ⟨A1, n1, c1, E, ec, rfl, hR1, hy1, hz1, hB1⟩ := HENE.out e w1 hpo
  have HI : Hid (FesAt w E A1 n1 w1) := Lib.hid ⟨hR1, hB1⟩
  have HY := Lib.hid hy1
  have HZ := Lib.hid hz1
  clear hpo hR1 hB1 hy1 hz1 HEN HENE
  go_wp2_with fail
  go_loopw [5, 6] (fun ok i wr => ∃ (k : Nat) (okb : Bool), k ≤ n ∧ i = .int .i64 k ∧ ok = .bool okb ∧ Hid (okb = (L.take k).all FR.right) ∧ Hid (FesAt w E A1 n1 wr)) (fun _ i _ => n - (intOf i).toNat)
  case atStart => exact ⟨0, true, by omega, rfl, rfl, Lib.hid (by simp), HI⟩
  case round =>
    clear HI
    obtain ⟨k, okb, hk, rfl, rfl, HOK, hat⟩ := hrel
    by_cases hlt : k < n
    · have hF := HF.out.below hat.out.bl
      obtain ⟨b, off, rfl, hb, hP, hc⟩ := hF.2.1 (by omega)
      obtain ⟨x, hx⟩ : ∃ x, L[k]? = some x := ⟨_, List.getElem?_eq_getElem (by rw [HLN.out]; exact hlt)⟩
      have hra := hc k x hx
      have hfx := hF.2.2 x (List.mem_of_getElem? hx)
      have HTS := Lib.hid (all_take_succ L k x hx)
      have hFW : ∀ W, Below wr.heap.size wr W → Fits W (fun _ => True) x.m x.d x.r x.ds x.rs := fun W hW => (hfx.below hW).mono (fun _ _ _ => trivial)
      have hrr : ∀ W, Below wr.heap.size wr W → Calls Try.prog 11 #[frV x.m x.d x.r] W (FrPost (.bool (rightB x.m x.ds x.rs)) W) := fun W hW => rright_any _ _ _ _ _ _ W (hFW W hW)
      have hrt : ∀ W, Below wr.heap.size wr W → Calls Try.prog 27 #[frV x.m x.d x.r] W (FrPost (.bool (rightB x.m x.ds x.rs)) W) := fun W hW => right_any _ _ _ _ _ _ W (hFW W hW)
      have has : ∀ W, Calls Try.prog 28 #[frV x.m x.d x.r] W (FrPost (.bool (asksB x.m.k)) W) := fun W => fasks_any _ _ _ W
      have hras : ∀ W, Calls Try.prog 29 #[frV x.m x.d x.r] W (FrPost (.bool (asksB x.m.k)) W) := fun W => rasks_any _ _ _ W
      have hsz : ∀ W, Below wr.heap.size wr W → Calls Try.prog 22 #[frV x.m x.d x.r] W (FrPost (.int .i64 (sizeF x.m x.ds x.rs)) W) := fun W hW => fsize_any _ _ _ _ _ _ W (hFW W hW)
      have hon : rightB x.m x.ds x.rs = true → ∀ W, Below wr.heap.size wr W → Calls Try.prog 12 #[frV x.m x.d x.r] W (VPost W.heap.size (oneS x.m x.ds x.rs) W) := fun hr W hW => rone_any _ _ _ _ _ _ W (hFW W hW) hr
      have hcp : rightB x.m x.ds x.rs = true → ∀ W, Below wr.heap.size wr W → Calls Try.prog 25 #[frV x.m x.d x.r] W (CopyPost2 (askN x.m) (askDs x.m.k x.ds) (askRs x.m.k x.rs) W) := fun hr W hW => by
        have hbd := right_bound x.m x.ds x.rs hr
        exact copy2_any _ _ _ _ _ _ W (hFW W hW) (by unfold askDs; split <;> first | exact Nat.zero_le _ | (have := hbd.2; omega)) (by unfold askRs; split <;> first | exact Nat.zero_le _ | (have := hbd.1; omega))
      have hsm : ∀ W d' r', Below wr.heap.size wr W → Fits W (fun _ => True) (askN x.m) d' r' (askDs x.m.k x.ds) (askRs x.m.k x.rs) → Calls Try.prog 10 #[frV (askN x.m) d' r', frV x.m x.d x.r] W (FrPost (.bool true) W) := fun W d' r' hW hf' => by
        have h := rsame_any (fun _ => True) (askN x.m) x.m d' x.d r' x.r _ x.ds _ x.rs W hf' (hFW W hW)
        rw [(sameB_ask x.m x.ds x.rs).1] at h
        exact h
      have hszv : ∀ xr, rightB x.m x.ds x.rs = xr → sizeF x.m x.ds x.rs = if xr = true then ((oneS x.m x.ds x.rs).length : Int) else 0 := fun xr h => by unfold sizeF; rw [h]
      obtain ⟨fl, hfl⟩ : ∃ fl, frL x.m x.d x.r = fl := ⟨_, rfl⟩
      have hLl : fl.length = 19 := by rw [← hfl]; rfl
      have hfv : frV x.m x.d x.r = .agg fl.toArray := by rw [← hfl]; rfl
      rw [hfl] at hra
      rw [hfv] at hrr hrt has hras hsz hon hcp hsm
      have hRW : ∀ W, Below wr.heap.size wr W → W.rangeAt b (off + k * 19) fl := fun W hW => rangeAt_kept hra (Kept.of_below hW (fun _ => False)) hb (fun h => h)
      obtain ⟨ab, hab⟩ : ∃ y, asksB x.m.k = y := ⟨_, rfl⟩
      rw [hab] at has hras
      obtain ⟨sz, hsz'⟩ : ∃ y, sizeF x.m x.ds x.rs = y := ⟨_, rfl⟩
      rw [hsz'] at hsz hszv
      obtain ⟨nO, hnO⟩ : ∃ y, (oneS x.m x.ds x.rs).length = y := ⟨_, rfl⟩
      rw [hnO] at hszv
      obtain ⟨one, hone⟩ : ∃ y, oneS x.m x.ds x.rs = y := ⟨_, rfl⟩
      rw [hone] at hon hnO
      obtain ⟨xr, hxr⟩ : ∃ y, rightB x.m x.ds x.rs = y := ⟨_, rfl⟩
      have HXR : Hid (x.right = xr) := Lib.hid hxr
      have hszw := hszv xr hxr
      rw [hxr] at hrr hrt hon hcp
      have HRR := Lib.hid hrr
      have HRT := Lib.hid hrt
      have HAS := Lib.hid has
      have HRAS := Lib.hid hras
      have HSZ := Lib.hid hsz
      have HON := Lib.hid hon
      have HCP := Lib.hid hcp
      have HSM := Lib.hid hsm
      have HRW := Lib.hid hRW
      have HLl := Lib.hid hLl
      have HNO := Lib.hid hnO
      have hnab : (ab != ab) = false := by simp
      have hnsz : ∀ z : Int, (z != z) = false := fun z => by simp
      have q0 : Below wr.heap.size wr wr := Below.refl _ _
      clear hrr hrt has hras hsz hon hcp hsm hRW hLl hnO hfl hfv hab hsz' hone hxr hszv hFW hfx hra hx hF hc
      have HOK2 : Hid ((okb && xr) = (L.take (k + 1)).all FR.right) := Lib.hid (by rw [HTS.out, ← HOK.out, HXR.out])
      cases xr with
      | true =>
        cases okb
        all_goals
          have hs2 : sz = (nO : Int) := hszw
          subst hs2
          have hz2 := hnsz (nO : Int)
          clear hszw HOK
          go_wp2_with (first | ((with_reducible refine at_ld ?_); refine ld_fr_o b (off + k * 19) fl (by rfl) (by rfl) (HRW.out _ q0) HLl.out ?_) | fail)
          refine (HRR.out _ q0).mono ?_
          rintro e w2 ⟨rfl, hb2⟩
          have q2 := q0.trans (hb2.mono (Nat.le_refl _))
          clear hb2
          go_wp2_with (first | ((with_reducible refine at_ld ?_); refine ld_fr_o b (off + k * 19) fl (by rfl) (by rfl) (HRW.out _ q2) HLl.out ?_) | fail)
          refine (HON.out (by trivial) _ q2).mono ?_
          rintro e w3 ⟨AO, nO', cO, rfl, hnO', _, _, hb3⟩
          obtain rfl : nO' = nO := hnO'.symm.trans HNO.out
          have q3 := q2.trans (hb3.mono q2.size)
          clear hb3 hnO'
          have hzo := hnsz (nO' : Int)
          go_wp2_with fail
          have q4 : Below wr.heap.size wr w3.drew := q3.trans (belowN (Below.refl _ _) 1)
          refine wp_region_held_drew (S := (fun W => Below wr.heap.size wr W)) (by kernel_rfl) (q4) (fun hHeld => ?_)
          refine tkp 0 (some 36) (v := ?_) rfl (Or.inl ⟨by rfl, ?_⟩) (by assumption) ?_
          rotate_left
          · intro w hSw; go_simp; first | done | (with_reducible rfl)
          simp only [Act.put, List.setIfInBounds_toArray, List.set_cons_zero, List.set_cons_succ]
          refine tkp 1 (some 37) (v := ?_) rfl (Or.inl ⟨by rfl, ?_⟩) (by assumption) ?_
          rotate_left
          · intro w hSw; go_simp; first | done | (with_reducible rfl)
          simp only [Act.put, List.setIfInBounds_toArray, List.set_cons_zero, List.set_cons_succ]
          refine tkp 2 (some 38) (v := ?_) rfl (Or.inl ⟨by rfl, ?_⟩) (by assumption) ?_
          rotate_left
          · intro w hSw; go_simp; first | done | (with_reducible rfl)
          simp only [Act.put, List.setIfInBounds_toArray, List.set_cons_zero, List.set_cons_succ]
          refine take_dst (i := 3) (dst := some 39) rfl rfl (by kernel_rfl) (by kernel_rfl) (by kernel_rfl) (fun _ _ _ h => h) (v := ?_) ?_ (by assumption) ?_
          rotate_left
          · refine yl_any 31 (.tmp 38) ?_ b (off + k * 19) ?_ fl _ ?_ Try.underlying31 rfl ?_ ?_
            · rfl
            · rfl
            · intro w hSw; exact HRW.out _ hSw
            · rw [HLl.out]; exact fr_info
            · rfl
          simp only [Act.put, List.setIfInBounds_toArray, List.set_cons_zero, List.set_cons_succ]
          refine tkp 5 (some 41) (v := ?_) rfl (Or.inl ⟨by rfl, ?_⟩) (by assumption) ?_
          rotate_left
          · intro w hSw; go_simp; first | done | (with_reducible rfl)
          simp only [Act.put, List.setIfInBounds_toArray, List.set_cons_zero, List.set_cons_succ]
          refine wpAnyH_ready (rs := [4]) (by kernel_rfl) (by simp) ?_
          refine AllReadyH.cons rfl (fun K hK => ?_) AllReadyH.nil
          go_simp
          go_wp2_with ((go_at_call 27; refine (HRT.out _ q4).mono ?_; rintro e w5 ⟨rfl, hb5⟩; have q5 := q4.trans (hb5.mono q4.size)))
          refine hK.out _ _ (q5) (fun hHeld => ?_)
          clear hK K
          refine tkp 6 (some 42) (v := ?_) rfl (Or.inl ⟨by rfl, ?_⟩) (by assumption) ?_
          rotate_left
          · intro w hSw; go_simp; first | done | (with_reducible rfl)
          simp only [Act.put, List.setIfInBounds_toArray, List.set_cons_zero, List.set_cons_succ]
          refine tkp 7 (some 43) (v := ?_) rfl (Or.inl ⟨by rfl, ?_⟩) (by assumption) ?_
          rotate_left
          · intro w hSw; go_simp; first | done | (with_reducible rfl)
          simp only [Act.put, List.setIfInBounds_toArray, List.set_cons_zero, List.set_cons_succ]
          refine tkp 8 (some 44) (v := ?_) rfl (Or.inl ⟨by rfl, ?_⟩) (by assumption) ?_
          rotate_left
          · intro w hSw; go_simp; first | done | (with_reducible rfl)
          simp only [Act.put, List.setIfInBounds_toArray, List.set_cons_zero, List.set_cons_succ]
          refine tkp 9 (some 45) (v := ?_) rfl (Or.inl ⟨by rfl, ?_⟩) (by assumption) ?_
          rotate_left
          · intro w hSw; go_simp; first | done | (with_reducible rfl)
          simp only [Act.put, List.setIfInBounds_toArray, List.set_cons_zero, List.set_cons_succ]
          refine tkp 10 (some 46) (v := ?_) rfl (Or.inl ⟨by rfl, ?_⟩) (by assumption) ?_
          rotate_left
          · intro w hSw; go_simp; first | done | (with_reducible rfl)
          simp only [Act.put, List.setIfInBounds_toArray, List.set_cons_zero, List.set_cons_succ]
          refine take_dst (i := 11) (dst := some 47) rfl rfl (by kernel_rfl) (by kernel_rfl) (by kernel_rfl) (fun _ _ _ h => h) (v := ?_) ?_ (by assumption) ?_
          rotate_left
          · refine yl_any 31 (.tmp 46) ?_ b (off + k * 19) ?_ fl _ ?_ Try.underlying31 rfl ?_ ?_
            · rfl
            · rfl
            · intro w hSw; exact HRW.out _ hSw
            · rw [HLl.out]; exact fr_info
            · rfl
          simp only [Act.put, List.setIfInBounds_toArray, List.set_cons_zero, List.set_cons_succ]
          refine tkp 13 (some 49) (v := ?_) rfl (Or.inl ⟨by rfl, ?_⟩) (by assumption) ?_
          rotate_left
          · intro w hSw; go_simp; first | done | (with_reducible rfl)
          simp only [Act.put, List.setIfInBounds_toArray, List.set_cons_zero, List.set_cons_succ]
          refine tkp 14 (some 50) (v := ?_) rfl (Or.inl ⟨by rfl, ?_⟩) (by assumption) ?_
          rotate_left
          · intro w hSw; go_simp; first | done | (with_reducible rfl)
          simp only [Act.put, List.setIfInBounds_toArray, List.set_cons_zero, List.set_cons_succ]
          refine tkp 15 (some 51) (v := ?_) rfl (Or.inl ⟨by rfl, ?_⟩) (by assumption) ?_
          rotate_left
          · intro w hSw; go_simp; first | done | (with_reducible rfl)
          simp only [Act.put, List.setIfInBounds_toArray, List.set_cons_zero, List.set_cons_succ]
          refine take_dst (i := 16) (dst := some 52) rfl rfl (by kernel_rfl) (by kernel_rfl) (by kernel_rfl) (fun _ _ _ h => h) (v := ?_) ?_ (by assumption) ?_
          rotate_left
          · refine yl_any 31 (.tmp 51) ?_ b (off + k * 19) ?_ fl _ ?_ Try.underlying31 rfl ?_ ?_
            · rfl
            · rfl
            · intro w hSw; exact HRW.out _ hSw
            · rw [HLl.out]; exact fr_info
            · rfl
          simp only [Act.put, List.setIfInBounds_toArray, List.set_cons_zero, List.set_cons_succ]
          refine wpAnyH_ready (rs := [12]) (by kernel_rfl) (by simp) ?_
          refine AllReadyH.cons rfl (fun K hK => ?_) AllReadyH.nil
          go_simp
          go_wp2_with ((go_at_call 28; refine (HAS.out _).mono ?_; rintro e w6 ⟨rfl, hb6⟩; have q6 := q5.trans (hb6.mono q5.size)))
          refine hK.out _ _ (q6) (fun hHeld => ?_)
          clear hK K
          refine wpAnyH_ready (rs := [17]) (by kernel_rfl) (by simp) ?_
          refine AllReadyH.cons rfl (fun K hK => ?_) AllReadyH.nil
          go_simp
          go_wp2_with ((go_at_call 29; refine (HRAS.out _).mono ?_; rintro e w7 ⟨rfl, hb7⟩; have q7 := q6.trans (hb7.mono q6.size)))
          refine hK.out _ _ (q7) (fun hHeld => ?_)
          clear hK K
          refine tkp 18 (some 54) (v := ?_) rfl (Or.inl ⟨by rfl, ?_⟩) (by assumption) ?_
          rotate_left
          · intro w hSw; go_simp; first | done | (with_reducible rfl)
          simp only [Act.put, List.setIfInBounds_toArray, List.set_cons_zero, List.set_cons_succ]
          refine tkp 19 (some 55) (v := ?_) rfl (Or.inl ⟨by rfl, ?_⟩) (by assumption) ?_
          rotate_left
          · intro w hSw; go_simp; first | done | (with_reducible rfl)
          simp only [Act.put, List.setIfInBounds_toArray, List.set_cons_zero, List.set_cons_succ]
          refine tkp 20 (some 56) (v := ?_) rfl (Or.inl ⟨by rfl, ?_⟩) (by assumption) ?_
          rotate_left
          · intro w hSw; go_simp; first | done | (with_reducible rfl)
          simp only [Act.put, List.setIfInBounds_toArray, List.set_cons_zero, List.set_cons_succ]
          refine tkp 21 (some 57) (v := ?_) rfl (Or.inl ⟨by rfl, ?_⟩) (by assumption) ?_
          rotate_left
          · intro w hSw; go_simp; first | done | (with_reducible rfl)
          simp only [Act.put, List.setIfInBounds_toArray, List.set_cons_zero, List.set_cons_succ]
          refine tkp 22 (some 58) (v := ?_) rfl (Or.inl ⟨by rfl, ?_⟩) (by assumption) ?_
          rotate_left
          · intro w hSw; go_simp; first | done | (with_reducible rfl)
          simp only [Act.put, List.setIfInBounds_toArray, List.set_cons_zero, List.set_cons_succ]
          refine tkp 23 (some 59) (v := ?_) rfl (Or.inl ⟨by rfl, ?_⟩) (by assumption) ?_
          rotate_left
          · intro w hSw; go_simp; first | done | (with_reducible rfl)
          simp only [Act.put, List.setIfInBounds_toArray, List.set_cons_zero, List.set_cons_succ]
          refine take_dst (i := 24) (dst := some 60) rfl rfl (by kernel_rfl) (by kernel_rfl) (by kernel_rfl) (fun _ _ _ h => h) (v := ?_) ?_ (by assumption) ?_
          rotate_left
          · refine yl_any 31 (.tmp 59) ?_ b (off + k * 19) ?_ fl _ ?_ Try.underlying31 rfl ?_ ?_
            · rfl
            · rfl
            · intro w hSw; exact HRW.out _ hSw
            · rw [HLl.out]; exact fr_info
            · rfl
          simp only [Act.put, List.setIfInBounds_toArray, List.set_cons_zero, List.set_cons_succ]
          refine tkp 26 (some 62) (v := ?_) rfl (Or.inl ⟨by rfl, ?_⟩) (by assumption) ?_
          rotate_left
          · intro w hSw; go_simp; first | done | (with_reducible rfl)
          simp only [Act.put, List.setIfInBounds_toArray, List.set_cons_zero, List.set_cons_succ]
          refine wpAnyH_ready (rs := [25]) (by kernel_rfl) (by simp) ?_
          refine AllReadyH.cons rfl (fun K hK => ?_) AllReadyH.nil
          go_simp
          go_wp2_with ((go_at_call 22; refine (HSZ.out _ q7).mono ?_; rintro e w8 ⟨rfl, hb8⟩; have q8 := q7.trans (hb8.mono q7.size)))
          refine hK.out _ _ (q8) (fun hHeld => ?_)
          clear hK K
          refine tkp 27 (some 63) (v := ?_) rfl (Or.inl ⟨by rfl, ?_⟩) (by assumption) ?_
          rotate_left
          · intro w hSw; go_simp; first | done | (with_reducible rfl)
          simp only [Act.put, List.setIfInBounds_toArray, List.set_cons_zero, List.set_cons_succ]
          refine tkp 28 (some 64) (v := ?_) rfl (Or.inl ⟨by rfl, ?_⟩) (by assumption) ?_
          rotate_left
          · intro w hSw; go_simp; first | done | (with_reducible rfl)
          simp only [Act.put, List.setIfInBounds_toArray, List.set_cons_zero, List.set_cons_succ]
          refine tkp 29 (some 65) (v := ?_) rfl (Or.inl ⟨by rfl, ?_⟩) (by assumption) ?_
          rotate_left
          · intro w hSw; go_simp; first | done | (with_reducible rfl)
          simp only [Act.put, List.setIfInBounds_toArray, List.set_cons_zero, List.set_cons_succ]
          refine tkp 30 (some 66) (v := ?_) rfl (Or.inl ⟨by rfl, ?_⟩) (by assumption) ?_
          rotate_left
          · intro w hSw; go_simp; first | done | (with_reducible rfl)
          simp only [Act.put, List.setIfInBounds_toArray, List.set_cons_zero, List.set_cons_succ]
          refine tkp 31 (some 67) (v := ?_) rfl (Or.inl ⟨by rfl, ?_⟩) (by assumption) ?_
          rotate_left
          · intro w hSw; go_simp; first | done | (with_reducible rfl)
          simp only [Act.put, List.setIfInBounds_toArray, List.set_cons_zero, List.set_cons_succ]
          refine tkp 32 (some 68) (v := ?_) rfl (Or.inl ⟨by rfl, ?_⟩) (by assumption) ?_
          rotate_left
          · intro w hSw; go_simp; first | done | (with_reducible rfl)
          simp only [Act.put, List.setIfInBounds_toArray, List.set_cons_zero, List.set_cons_succ]
          refine tkp 33 (some 69) (v := ?_) rfl (Or.inl ⟨by rfl, ?_⟩) (by assumption) ?_
          rotate_left
          · intro w hSw; go_simp; first | done | (with_reducible rfl)
          simp only [Act.put, List.setIfInBounds_toArray, List.set_cons_zero, List.set_cons_succ]
          refine tkp 34 (some 70) (v := ?_) rfl (Or.inl ⟨by rfl, ?_⟩) (by assumption) ?_
          rotate_left
          · intro w hSw; go_simp; first | done | (with_reducible rfl)
          simp only [Act.put, List.setIfInBounds_toArray, List.set_cons_zero, List.set_cons_succ]
          refine take_dst (i := 35) (dst := some 71) rfl rfl (by kernel_rfl) (by kernel_rfl) (by kernel_rfl) (fun _ _ _ h => h) (v := ?_) ?_ (by assumption) ?_
          rotate_left
          · refine yl_any 31 (.tmp 70) ?_ b (off + k * 19) ?_ fl _ ?_ Try.underlying31 rfl ?_ ?_
            · rfl
            · rfl
            · intro w hSw; exact HRW.out _ hSw
            · rw [HLl.out]; exact fr_info
            · rfl
          simp only [Act.put, List.setIfInBounds_toArray, List.set_cons_zero, List.set_cons_succ]
          refine tkp 37 (some 73) (v := ?_) rfl (Or.inl ⟨by rfl, ?_⟩) (by assumption) ?_
          rotate_left
          · intro w hSw; go_simp; first | done | (with_reducible rfl)
          simp only [Act.put, List.setIfInBounds_toArray, List.set_cons_zero, List.set_cons_succ]
          refine tkp 38 (some 74) (v := ?_) rfl (Or.inl ⟨by rfl, ?_⟩) (by assumption) ?_
          rotate_left
          · intro w hSw; go_simp; first | done | (with_reducible rfl)
          simp only [Act.put, List.setIfInBounds_toArray, List.set_cons_zero, List.set_cons_succ]
          refine tkp 39 (some 75) (v := ?_) rfl (Or.inl ⟨by rfl, ?_⟩) (by assumption) ?_
          rotate_left
          · intro w hSw; go_simp; first | done | (with_reducible rfl)
          simp only [Act.put, List.setIfInBounds_toArray, List.set_cons_zero, List.set_cons_succ]
          refine take_dst (i := 40) (dst := some 76) rfl rfl (by kernel_rfl) (by kernel_rfl) (by kernel_rfl) (fun _ _ _ h => h) (v := ?_) ?_ (by assumption) ?_
          rotate_left
          · refine yl_any 31 (.tmp 75) ?_ b (off + k * 19) ?_ fl _ ?_ Try.underlying31 rfl ?_ ?_
            · rfl
            · rfl
            · intro w hSw; exact HRW.out _ hSw
            · rw [HLl.out]; exact fr_info
            · rfl
          simp only [Act.put, List.setIfInBounds_toArray, List.set_cons_zero, List.set_cons_succ]
          refine wpAnyH_ready (rs := [36]) (by kernel_rfl) (by simp) ?_
          refine AllReadyH.cons rfl (fun K hK => ?_) AllReadyH.nil
          go_simp
          go_wp2_with ((go_at_call 25; refine (HCP.out (by trivial) _ q8).mono ?_; rintro e w9 ⟨d', r', rfl, hfc, hb9, _⟩; have q9 := q8.trans (hb9.mono q8.size)))
          refine hK.out _ _ (q9) (fun hHeld => ?_)
          clear hK K
          refine wpAnyH_ready (rs := [41]) (by kernel_rfl) (by simp) ?_
          refine AllReadyH.cons rfl (fun K hK => ?_) AllReadyH.nil
          go_simp
          go_wp2_with ((go_at_call 10; refine (HSM.out _ _ _ q9 (hfc.mono (fun _ _ _ => trivial))).mono ?_; rintro e wA ⟨rfl, hbA⟩; have qA := q9.trans (hbA.mono q9.size)))
          refine hK.out _ _ (qA) (fun hHeld => ?_)
          clear hK K
          refine tkp 42 (some 78) (v := ?_) rfl (Or.inl ⟨by rfl, ?_⟩) (by assumption) ?_
          rotate_left
          · intro w hSw; go_simp; first | done | (with_reducible rfl)
          simp only [Act.put, List.setIfInBounds_toArray, List.set_cons_zero, List.set_cons_succ]
          refine tkp 43 (some 79) (v := ?_) rfl (Or.inl ⟨by rfl, ?_⟩) (by assumption) ?_
          rotate_left
          · intro w hSw; go_simp; first | done | (with_reducible rfl)
          simp only [Act.put, List.setIfInBounds_toArray, List.set_cons_zero, List.set_cons_succ]
          refine tkp 44 (some 80) (v := ?_) rfl (Or.inl ⟨by rfl, ?_⟩) (by assumption) ?_
          rotate_left
          · intro w hSw; go_simp; first | done | (with_reducible rfl)
          simp only [Act.put, List.setIfInBounds_toArray, List.set_cons_zero, List.set_cons_succ]
          refine wpAnyH_done (by kernel_rfl) ?_ _
          have hI5 : Hid (FesAt w E A1 n1 _) := Lib.hid (hat.out.step qA)
          go_wp2_with fail
          go_roundw
          case rel => exact ⟨k + 1, _, by omega, by go_num, rfl, HOK2, hI5⟩
          case measure => simp [intOf] <;> omega
      | false =>
        cases okb
        all_goals
          have hs2 : sz = 0 := hszw
          subst hs2
          clear hszw HOK
          go_wp2_with (first | ((with_reducible refine at_ld ?_); refine ld_fr_o b (off + k * 19) fl (by rfl) (by rfl) (HRW.out _ q0) HLl.out ?_) | fail)
          refine (HRR.out _ q0).mono ?_
          rintro e w2 ⟨rfl, hb2⟩
          have q2 := q0.trans (hb2.mono (Nat.le_refl _))
          clear hb2
          go_wp2_with fail
          have q4 : Below wr.heap.size wr w2.drew := q2.trans (belowN (Below.refl _ _) 1)
          refine wp_region_held_drew (S := (fun W => Below wr.heap.size wr W)) (by kernel_rfl) (q4) (fun hHeld => ?_)
          refine tkp 0 (some 36) (v := ?_) rfl (Or.inl ⟨by rfl, ?_⟩) (by assumption) ?_
          rotate_left
          · intro w hSw; go_simp; first | done | (with_reducible rfl)
          simp only [Act.put, List.setIfInBounds_toArray, List.set_cons_zero, List.set_cons_succ]
          refine tkp 1 (some 37) (v := ?_) rfl (Or.inl ⟨by rfl, ?_⟩) (by assumption) ?_
          rotate_left
          · intro w hSw; go_simp; first | done | (with_reducible rfl)
          simp only [Act.put, List.setIfInBounds_toArray, List.set_cons_zero, List.set_cons_succ]
          refine tkp 2 (some 38) (v := ?_) rfl (Or.inl ⟨by rfl, ?_⟩) (by assumption) ?_
          rotate_left
          · intro w hSw; go_simp; first | done | (with_reducible rfl)
          simp only [Act.put, List.setIfInBounds_toArray, List.set_cons_zero, List.set_cons_succ]
          refine take_dst (i := 3) (dst := some 39) rfl rfl (by kernel_rfl) (by kernel_rfl) (by kernel_rfl) (fun _ _ _ h => h) (v := ?_) ?_ (by assumption) ?_
          rotate_left
          · refine yl_any 31 (.tmp 38) ?_ b (off + k * 19) ?_ fl _ ?_ Try.underlying31 rfl ?_ ?_
            · rfl
            · rfl
            · intro w hSw; exact HRW.out _ hSw
            · rw [HLl.out]; exact fr_info
            · rfl
          simp only [Act.put, List.setIfInBounds_toArray, List.set_cons_zero, List.set_cons_succ]
          refine tkp 5 (some 41) (v := ?_) rfl (Or.inl ⟨by rfl, ?_⟩) (by assumption) ?_
          rotate_left
          · intro w hSw; go_simp; first | done | (with_reducible rfl)
          simp only [Act.put, List.setIfInBounds_toArray, List.set_cons_zero, List.set_cons_succ]
          refine wpAnyH_ready (rs := [4]) (by kernel_rfl) (by simp) ?_
          refine AllReadyH.cons rfl (fun K hK => ?_) AllReadyH.nil
          go_simp
          go_wp2_with ((go_at_call 27; refine (HRT.out _ q4).mono ?_; rintro e w5 ⟨rfl, hb5⟩; have q5 := q4.trans (hb5.mono q4.size)))
          refine hK.out _ _ (q5) (fun hHeld => ?_)
          clear hK K
          refine tkp 6 (some 42) (v := ?_) rfl (Or.inl ⟨by rfl, ?_⟩) (by assumption) ?_
          rotate_left
          · intro w hSw; go_simp; first | done | (with_reducible rfl)
          simp only [Act.put, List.setIfInBounds_toArray, List.set_cons_zero, List.set_cons_succ]
          refine tkp 7 (some 43) (v := ?_) rfl (Or.inl ⟨by rfl, ?_⟩) (by assumption) ?_
          rotate_left
          · intro w hSw; go_simp; first | done | (with_reducible rfl)
          simp only [Act.put, List.setIfInBounds_toArray, List.set_cons_zero, List.set_cons_succ]
          refine tkp 8 (some 44) (v := ?_) rfl (Or.inl ⟨by rfl, ?_⟩) (by assumption) ?_
          rotate_left
          · intro w hSw; go_simp; first | done | (with_reducible rfl)
          simp only [Act.put, List.setIfInBounds_toArray, List.set_cons_zero, List.set_cons_succ]
          refine tkp 9 (some 45) (v := ?_) rfl (Or.inl ⟨by rfl, ?_⟩) (by assumption) ?_
          rotate_left
          · intro w hSw; go_simp; first | done | (with_reducible rfl)
          simp only [Act.put, List.setIfInBounds_toArray, List.set_cons_zero, List.set_cons_succ]
          refine tkp 10 (some 46) (v := ?_) rfl (Or.inl ⟨by rfl, ?_⟩) (by assumption) ?_
          rotate_left
          · intro w hSw; go_simp; first | done | (with_reducible rfl)
          simp only [Act.put, List.setIfInBounds_toArray, List.set_cons_zero, List.set_cons_succ]
          refine take_dst (i := 11) (dst := some 47) rfl rfl (by kernel_rfl) (by kernel_rfl) (by kernel_rfl) (fun _ _ _ h => h) (v := ?_) ?_ (by assumption) ?_
          rotate_left
          · refine yl_any 31 (.tmp 46) ?_ b (off + k * 19) ?_ fl _ ?_ Try.underlying31 rfl ?_ ?_
            · rfl
            · rfl
            · intro w hSw; exact HRW.out _ hSw
            · rw [HLl.out]; exact fr_info
            · rfl
          simp only [Act.put, List.setIfInBounds_toArray, List.set_cons_zero, List.set_cons_succ]
          refine tkp 13 (some 49) (v := ?_) rfl (Or.inl ⟨by rfl, ?_⟩) (by assumption) ?_
          rotate_left
          · intro w hSw; go_simp; first | done | (with_reducible rfl)
          simp only [Act.put, List.setIfInBounds_toArray, List.set_cons_zero, List.set_cons_succ]
          refine tkp 14 (some 50) (v := ?_) rfl (Or.inl ⟨by rfl, ?_⟩) (by assumption) ?_
          rotate_left
          · intro w hSw; go_simp; first | done | (with_reducible rfl)
          simp only [Act.put, List.setIfInBounds_toArray, List.set_cons_zero, List.set_cons_succ]
          refine tkp 15 (some 51) (v := ?_) rfl (Or.inl ⟨by rfl, ?_⟩) (by assumption) ?_
          rotate_left
          · intro w hSw; go_simp; first | done | (with_reducible rfl)
          simp only [Act.put, List.setIfInBounds_toArray, List.set_cons_zero, List.set_cons_succ]
          refine take_dst (i := 16) (dst := some 52) rfl rfl (by kernel_rfl) (by kernel_rfl) (by kernel_rfl) (fun _ _ _ h => h) (v := ?_) ?_ (by assumption) ?_
          rotate_left
          · refine yl_any 31 (.tmp 51) ?_ b (off + k * 19) ?_ fl _ ?_ Try.underlying31 rfl ?_ ?_
            · rfl
            · rfl
            · intro w hSw; exact HRW.out _ hSw
            · rw [HLl.out]; exact fr_info
            · rfl
          simp only [Act.put, List.setIfInBounds_toArray, List.set_cons_zero, List.set_cons_succ]
          refine wpAnyH_ready (rs := [12]) (by kernel_rfl) (by simp) ?_
          refine AllReadyH.cons rfl (fun K hK => ?_) AllReadyH.nil
          go_simp
          go_wp2_with ((go_at_call 28; refine (HAS.out _).mono ?_; rintro e w6 ⟨rfl, hb6⟩; have q6 := q5.trans (hb6.mono q5.size)))
          refine hK.out _ _ (q6) (fun hHeld => ?_)
          clear hK K
          refine wpAnyH_ready (rs := [17]) (by kernel_rfl) (by simp) ?_
          refine AllReadyH.cons rfl (fun K hK => ?_) AllReadyH.nil
          go_simp
          go_wp2_with ((go_at_call 29; refine (HRAS.out _).mono ?_; rintro e w7 ⟨rfl, hb7⟩; have q7 := q6.trans (hb7.mono q6.size)))
          refine hK.out _ _ (q7) (fun hHeld => ?_)
          clear hK K
          refine tkp 18 (some 54) (v := ?_) rfl (Or.inl ⟨by rfl, ?_⟩) (by assumption) ?_
          rotate_left
          · intro w hSw; go_simp; first | done | (with_reducible rfl)
          simp only [Act.put, List.setIfInBounds_toArray, List.set_cons_zero, List.set_cons_succ]
          refine tkp 19 (some 55) (v := ?_) rfl (Or.inl ⟨by rfl, ?_⟩) (by assumption) ?_
          rotate_left
          · intro w hSw; go_simp; first | done | (with_reducible rfl)
          simp only [Act.put, List.setIfInBounds_toArray, List.set_cons_zero, List.set_cons_succ]
          refine tkp 20 (some 56) (v := ?_) rfl (Or.inl ⟨by rfl, ?_⟩) (by assumption) ?_
          rotate_left
          · intro w hSw; go_simp; first | done | (with_reducible rfl)
          simp only [Act.put, List.setIfInBounds_toArray, List.set_cons_zero, List.set_cons_succ]
          refine tkp 21 (some 57) (v := ?_) rfl (Or.inl ⟨by rfl, ?_⟩) (by assumption) ?_
          rotate_left
          · intro w hSw; go_simp; first | done | (with_reducible rfl)
          simp only [Act.put, List.setIfInBounds_toArray, List.set_cons_zero, List.set_cons_succ]
          refine tkp 22 (some 58) (v := ?_) rfl (Or.inl ⟨by rfl, ?_⟩) (by assumption) ?_
          rotate_left
          · intro w hSw; go_simp; first | done | (with_reducible rfl)
          simp only [Act.put, List.setIfInBounds_toArray, List.set_cons_zero, List.set_cons_succ]
          refine tkp 23 (some 59) (v := ?_) rfl (Or.inl ⟨by rfl, ?_⟩) (by assumption) ?_
          rotate_left
          · intro w hSw; go_simp; first | done | (with_reducible rfl)
          simp only [Act.put, List.setIfInBounds_toArray, List.set_cons_zero, List.set_cons_succ]
          refine take_dst (i := 24) (dst := some 60) rfl rfl (by kernel_rfl) (by kernel_rfl) (by kernel_rfl) (fun _ _ _ h => h) (v := ?_) ?_ (by assumption) ?_
          rotate_left
          · refine yl_any 31 (.tmp 59) ?_ b (off + k * 19) ?_ fl _ ?_ Try.underlying31 rfl ?_ ?_
            · rfl
            · rfl
            · intro w hSw; exact HRW.out _ hSw
            · rw [HLl.out]; exact fr_info
            · rfl
          simp only [Act.put, List.setIfInBounds_toArray, List.set_cons_zero, List.set_cons_succ]
          refine tkp 26 (some 62) (v := ?_) rfl (Or.inl ⟨by rfl, ?_⟩) (by assumption) ?_
          rotate_left
          · intro w hSw; go_simp; first | done | (with_reducible rfl)
          simp only [Act.put, List.setIfInBounds_toArray, List.set_cons_zero, List.set_cons_succ]
          refine wpAnyH_ready (rs := [25]) (by kernel_rfl) (by simp) ?_
          refine AllReadyH.cons rfl (fun K hK => ?_) AllReadyH.nil
          go_simp
          go_wp2_with ((go_at_call 22; refine (HSZ.out _ q7).mono ?_; rintro e w8 ⟨rfl, hb8⟩; have q8 := q7.trans (hb8.mono q7.size)))
          refine hK.out _ _ (q8) (fun hHeld => ?_)
          clear hK K
          refine tkp 27 (some 63) (v := ?_) rfl (Or.inl ⟨by rfl, ?_⟩) (by assumption) ?_
          rotate_left
          · intro w hSw; go_simp; first | done | (with_reducible rfl)
          simp only [Act.put, List.setIfInBounds_toArray, List.set_cons_zero, List.set_cons_succ]
          refine tkp 28 (some 64) (v := ?_) rfl (Or.inl ⟨by rfl, ?_⟩) (by assumption) ?_
          rotate_left
          · intro w hSw; go_simp; first | done | (with_reducible rfl)
          simp only [Act.put, List.setIfInBounds_toArray, List.set_cons_zero, List.set_cons_succ]
          refine tkp 29 (some 65) (v := ?_) rfl (Or.inl ⟨by rfl, ?_⟩) (by assumption) ?_
          rotate_left
          · intro w hSw; go_simp; first | done | (with_reducible rfl)
          simp only [Act.put, List.setIfInBounds_toArray, List.set_cons_zero, List.set_cons_succ]
          refine tkp 30 (some 66) (v := ?_) rfl (Or.inl ⟨by rfl, ?_⟩) (by assumption) ?_
          rotate_left
          · intro w hSw; go_simp; first | done | (with_reducible rfl)
          simp only [Act.put, List.setIfInBounds_toArray, List.set_cons_zero, List.set_cons_succ]
          refine tkp 31 (some 67) (v := ?_) rfl (Or.inl ⟨by rfl, ?_⟩) (by assumption) ?_
          rotate_left
          · intro w hSw; go_simp; first | done | (with_reducible rfl)
          simp only [Act.put, List.setIfInBounds_toArray, List.set_cons_zero, List.set_cons_succ]
          refine tkp 32 (some 68) (v := undef) rfl (Or.inr ⟨by rfl, rfl⟩) (by assumption) ?_
          simp only [Act.put, List.setIfInBounds_toArray, List.set_cons_zero, List.set_cons_succ]
          refine tkp 33 (some 69) (v := undef) rfl (Or.inr ⟨by rfl, rfl⟩) (by assumption) ?_
          simp only [Act.put, List.setIfInBounds_toArray, List.set_cons_zero, List.set_cons_succ]
          refine tkp 34 (some 70) (v := undef) rfl (Or.inr ⟨by rfl, rfl⟩) (by assumption) ?_
          simp only [Act.put, List.setIfInBounds_toArray, List.set_cons_zero, List.set_cons_succ]
          refine tkp 35 (some 71) (v := undef) rfl (Or.inr ⟨by rfl, rfl⟩) (by assumption) ?_
          simp only [Act.put, List.setIfInBounds_toArray, List.set_cons_zero, List.set_cons_succ]
          refine tkp 36 (some 72) (v := undef) rfl (Or.inr ⟨by rfl, rfl⟩) (by assumption) ?_
          simp only [Act.put, List.setIfInBounds_toArray, List.set_cons_zero, List.set_cons_succ]
          refine tkp 37 (some 73) (v := undef) rfl (Or.inr ⟨by rfl, rfl⟩) (by assumption) ?_
          simp only [Act.put, List.setIfInBounds_toArray, List.set_cons_zero, List.set_cons_succ]
          refine tkp 38 (some 74) (v := undef) rfl (Or.inr ⟨by rfl, rfl⟩) (by assumption) ?_
          simp only [Act.put, List.setIfInBounds_toArray, List.set_cons_zero, List.set_cons_succ]
          refine tkp 39 (some 75) (v := undef) rfl (Or.inr ⟨by rfl, rfl⟩) (by assumption) ?_
          simp only [Act.put, List.setIfInBounds_toArray, List.set_cons_zero, List.set_cons_succ]
          refine tkp 40 (some 76) (v := undef) rfl (Or.inr ⟨by rfl, rfl⟩) (by assumption) ?_
          simp only [Act.put, List.setIfInBounds_toArray, List.set_cons_zero, List.set_cons_succ]
          refine tkp 41 (some 77) (v := undef) rfl (Or.inr ⟨by rfl, rfl⟩) (by assumption) ?_
          simp only [Act.put, List.setIfInBounds_toArray, List.set_cons_zero, List.set_cons_succ]
          refine tkp 42 (some 78) (v := undef) rfl (Or.inr ⟨by rfl, rfl⟩) (by assumption) ?_
          simp only [Act.put, List.setIfInBounds_toArray, List.set_cons_zero, List.set_cons_succ]
          refine tkp 43 (some 79) (v := ?_) rfl (Or.inl ⟨by rfl, ?_⟩) (by assumption) ?_
          rotate_left
          · intro w hSw; go_simp; first | done | (with_reducible rfl)
          simp only [Act.put, List.setIfInBounds_toArray, List.set_cons_zero, List.set_cons_succ]
          refine tkp 44 (some 80) (v := ?_) rfl (Or.inl ⟨by rfl, ?_⟩) (by assumption) ?_
          rotate_left
          · intro w hSw; go_simp; first | done | (with_reducible rfl)
          simp only [Act.put, List.setIfInBounds_toArray, List.set_cons_zero, List.set_cons_succ]
          refine wpAnyH_done (by kernel_rfl) ?_ _
          have hI5 : Hid (FesAt w E A1 n1 _) := Lib.hid (hat.out.step q8)
          go_wp2_with fail
          go_roundw
          case rel => exact ⟨k + 1, _, by omega, by go_num, rfl, HOK2, hI5⟩
          case measure => simp [intOf] <;> omega
    · obtain rfl : k = n := by omega
      have htk : L.take k = L := List.take_of_length_le (by rw [HLN.out]; exact Nat.le_refl _)
      have hok := HOK.out
      rw [htk] at hok
      have hrd := hat.out.rd
      have hbl := hat.out.bl
      clear htk HOK hat
      cases okb with
      | false =>
        obtain ⟨rfl, rfl⟩ := HZ.out hok.symm
        clear hok
        go_wp2_with fail
        go_ret
        exact ⟨rfl, hbl⟩
      | true =>
        obtain ⟨rfl, rfl⟩ := HY.out hok.symm
        have hrew := HRE.out hok.symm
        have HREW := Lib.hid hrew
        obtain ⟨E, hE⟩ : ∃ y, encS L = y := ⟨_, rfl⟩
        rw [hE] at hrd HREW
        obtain ⟨TX, hTX⟩ : ∃ x, strOfNums E = x := ⟨_, rfl⟩
        have HTX := Lib.hid hTX
        have hTT : (TX == TX) = true := bb_refl TX
        have hEn := hrd.1
        have HEN := Lib.hid hEn
        clear hrew hE hTX hok hEn HF HRE HY HZ
        go_wp2_with fail
        have q1 : Below w.heap.size w wr.drew := hbl.trans (belowN (Below.refl _ _) 1 |>.mono hbl.size)
        have t1 := run_text (P := Try.prog) (c := c1) hrd.drew 26 5 9 Try.underlying26 Try.underlying5 Try.underlying9
        rw [HTX.out] at t1
        refine wp_region_held_drew (S := (fun W => (convert 26 9 (.slice A1 n1 c1)).run Try.prog W = .ok (.string TX) W)) (by kernel_rfl) (t1) (fun hHeld => ?_)
        refine tkp 0 (some 90) (v := ?_) rfl (Or.inl ⟨by rfl, ?_⟩) (by assumption) ?_
        rotate_left
        · intro w hSw; go_simp; first | done | (with_reducible rfl)
        simp only [Act.put, List.setIfInBounds_toArray, List.set_cons_zero, List.set_cons_succ]
        refine tkp 1 (some 91) (v := ?_) rfl (Or.inl ⟨by rfl, ?_⟩) (by assumption) ?_
        rotate_left
        · intro w hSw; go_simp; first | done | (with_reducible rfl)
        simp only [Act.put, List.setIfInBounds_toArray, List.set_cons_zero, List.set_cons_succ]
        refine tkp 2 (some 92) (v := ?_) rfl (Or.inl ⟨by rfl, ?_⟩) (by assumption) ?_
        rotate_left
        · intro w hSw; go_simp; first | done | (with_reducible rfl)
        simp only [Act.put, List.setIfInBounds_toArray, List.set_cons_zero, List.set_cons_succ]
        refine tkp 3 (some 93) (v := ?_) rfl (Or.inl ⟨by rfl, ?_⟩) (by assumption) ?_
        rotate_left
        · intro w hSw; go_simp; first | done | (with_reducible rfl)
        simp only [Act.put, List.setIfInBounds_toArray, List.set_cons_zero, List.set_cons_succ]
        refine tkp 4 (some 94) (v := ?_) rfl (Or.inl ⟨by rfl, ?_⟩) (by assumption) ?_
        rotate_left
        · intro w hSw; go_simp; first | done | (with_reducible rfl)
        simp only [Act.put, List.setIfInBounds_toArray, List.set_cons_zero, List.set_cons_succ]
        refine tkp 5 (some 95) (v := ?_) rfl (Or.inl ⟨by rfl, ?_⟩) (by assumption) ?_
        rotate_left
        · intro w hSw; go_simp; first | done | (with_reducible rfl)
        simp only [Act.put, List.setIfInBounds_toArray, List.set_cons_zero, List.set_cons_succ]
        refine wpAnyH_ready (rs := [6]) (by kernel_rfl) (by simp) ?_
        refine AllReadyH.cons rfl (fun K hK => ?_) AllReadyH.nil
        go_simp
        go_wp2_with ((go_at_call 16; refine (HREW.out _ q1).mono ?_; rintro e w9 ⟨v9, rfl, hO9, hb9⟩; obtain ⟨A9, c9, rfl, _, _, hR9⟩ := hO9.open_n n1 HEN.out; have q9 := q1.trans (hb9.mono q1.size); have hrd9 := (hrd.drew.below hb9).more hb9.size; have t9 := run_text (P := Try.prog) (c := c1) hrd9 26 5 9 Try.underlying26 Try.underlying5 Try.underlying9; rw [HTX.out] at t9; have u9 := run_text (P := Try.prog) (c := c9) hR9 26 5 9 Try.underlying26 Try.underlying5 Try.underlying9; rw [HTX.out] at u9))
        refine hK.out _ _ (t9) (fun hHeld => ?_)
        clear hK K
        refine wpAnyH_ready (rs := [7]) (by kernel_rfl) (by simp) ?_
        refine AllReadyH.cons rfl (fun K hK => ?_) AllReadyH.nil
        go_simp
        refine hK.out _ _ t9 (fun hHeld => ?_)
        clear hK K
        refine tkp 8 (some 98) (v := ?_) rfl (Or.inl ⟨by rfl, ?_⟩) (by assumption) ?_
        rotate_left
        · intro w hSw; go_simp; first | done | (with_reducible rfl)
        simp only [Act.put, List.setIfInBounds_toArray, List.set_cons_zero, List.set_cons_succ]
        refine tkp 9 (some 99) (v := ?_) rfl (Or.inl ⟨by rfl, ?_⟩) (by assumption) ?_
        rotate_left
        · intro w hSw; go_simp; first | done | (with_reducible rfl)
        simp only [Act.put, List.setIfInBounds_toArray, List.set_cons_zero, List.set_cons_succ]
        refine tkp 10 (some 2) (v := ?_) rfl (Or.inl ⟨by rfl, ?_⟩) (by assumption) ?_
        rotate_left
        · intro w hSw; go_simp; first | done | (with_reducible rfl)
        simp only [Act.put, List.setIfInBounds_toArray, List.set_cons_zero, List.set_cons_succ]
        refine wpAnyH_done (by kernel_rfl) ?_ _
        go_wp2_with fail
        go_ret
        exact ⟨rfl, q9⟩
end Go.Proofs.Ytkahndjflhgccaa
