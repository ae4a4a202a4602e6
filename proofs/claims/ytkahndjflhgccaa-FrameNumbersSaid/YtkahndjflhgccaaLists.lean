/-
  The document's own Same, whole.
-/
import Derived.Test.YtkahndjflhgccaaSame2
import Derived.Test.YtkahndjflhgccaaMf
namespace Go.Proofs.Ytkahndjflhgccaa
set_option linter.unusedVariables false
open Go.RowKit
set_option linter.unusedSimpArgs false
theorem rsame_any (P : Nat → Prop) (m m' : FN) (d d' r r' : Sl) (ds ds' : List Int) (rs rs' : RS) (w : World) (hf : Fits w P m d r ds rs) (hf' : Fits w P m' d' r' ds' rs') :
    Calls Try.prog 10 #[frV m d r, frV m' d' r'] w (FrPost (.bool (sameB m m' ds ds' rs rs')) w) := by
  obtain ⟨k, s, o, fin, l, c, f, q, y, c0, c1, c2, c3, c4, c5, c6, c7⟩ := m
  obtain ⟨k', s', o', fin', l', c', f', q', y', c0', c1', c2', c3', c4', c5', c6', c7'⟩ := m'
  by_cases hk : k = k'
  · subst hk
    rcases kind_cases k with rfl | rfl | rfl | rfl | rfl | rfl | rfl | rfl | rfl | rfl | rfl | rfl | rfl | rfl | rfl | rfl | rfl | hx
    · exact rsame_0 (hf := hf) (hf' := hf')
    · exact rsame_1 (hf := hf) (hf' := hf')
    · exact rsame_30 (hf := hf) (hf' := hf')
    · exact rsame_2 (hf := hf) (hf' := hf')
    · exact rsame_4 (hf := hf) (hf' := hf')
    · exact rsame_5 (hf := hf) (hf' := hf')
    · exact rsame_6 (hf := hf) (hf' := hf')
    · exact rsame_8 (hf := hf) (hf' := hf')
    · exact rsame_16 (hf := hf) (hf' := hf')
    · exact rsame_18 (hf := hf) (hf' := hf')
    · exact rsame_20 (hf := hf) (hf' := hf')
    · exact rsame_17 (hf := hf) (hf' := hf')
    · exact rsame_24 (hf := hf) (hf' := hf')
    · exact rsame_25 (hf := hf) (hf' := hf')
    · exact rsame_26 (hf := hf) (hf' := hf')
    · exact rsame_27 (hf := hf) (hf' := hf')
    · exact rsame_28 (hf := hf) (hf' := hf')
    · exact rsame_x (hf := hf) (hf' := hf') (hk := hx)
  · exact rsame_ne (hf := hf) (hf' := hf') (hk := by simpa [bne] using hk)
theorem yl_fro {ops : Array Oper} {S : World → Prop} {op : Oper} {a : Act} (x : Operand) (ho : op.op = .load 31 x) (b o : Nat) (hx : a.eval x = .pointer (some ⟨b, o, none⟩)) (L : List Value) (hS : ∀ w, S w → w.rangeAt b o L) (hl : L.length = 19)
    (hw : Region.wanted op (yielded ops a.tmps) = true) : YieldsIf Try.prog ops S op (.agg L.toArray) a :=
  yieldsIf_load_mid hw _ x ho b o hx L _ hS Try.underlying31 rfl (by rw [hl]; exact fr_info)
def listsB : List FR → List FR → Bool
  | [], [] => true
  | x :: t, y :: u => sameB x.m y.m x.ds y.ds x.rs y.rs && listsB t u
  | _, _ => false
theorem listsB_len : ∀ L M : List FR, listsB L M = true → L.length = M.length
  | [], [], _ => rfl
  | [], _ :: _, h => by simp [listsB] at h
  | _ :: _, [], h => by simp [listsB] at h
  | x :: t, y :: u, h => by
    simp only [listsB, Bool.and_eq_true] at h
    simp [listsB_len t u h.2]
theorem listsB_drop (L M : List FR) (k : Nat) (x y : FR) (h : L[k]? = some x) (h' : M[k]? = some y) : listsB (L.drop k) (M.drop k) = (sameB x.m y.m x.ds y.ds x.rs y.rs && listsB (L.drop (k + 1)) (M.drop (k + 1))) := by
  obtain ⟨hk, e⟩ := List.getElem?_eq_some_iff.1 h
  obtain ⟨hk', e'⟩ := List.getElem?_eq_some_iff.1 h'
  rw [List.drop_eq_getElem_cons hk, List.drop_eq_getElem_cons hk', e, e']
  rfl
set_option maxRecDepth 100000 in
set_option maxHeartbeats 2000000 in
theorem lists_any (P P' : Nat → Prop) (A A' : Option Addr) (n n' c c' : Nat) (L M : List FR) (w : World) (hf : FrsP w P A n L) (hf' : FrsP w P' A' n' M) (hn : n ≤ 1000000000) :
    Calls Try.prog 21 #[.slice A n c, .slice A' n' c'] w (FrPost (.bool (listsB L M)) w) := by
  have HF := Lib.hid (hf.mono (P' := fun _ => True) (fun _ _ _ => trivial))
  have HG := Lib.hid (hf'.mono (P' := fun _ => True) (fun _ _ _ => trivial))
  have HL := Lib.hid hf.1
  have HM := Lib.hid hf'.1
  clear hf hf'
  by_cases e_n : n = n'
  · subst e_n
    go_enter Try.func21, Try.ntmps21
    go_wp2_with fail
    go_loopw [5] (fun i wr => ∃ k : Nat, k ≤ n ∧ i = .int .i64 k ∧ Hid (Below w.heap.size w wr) ∧ Hid (listsB L M = listsB (L.drop k) (M.drop k))) (fun i _ => n - (intOf i).toNat)
    case atStart => exact ⟨0, by omega, rfl, Lib.hid (Below.refl _ _), Lib.hid (by simp)⟩
    case round =>
      obtain ⟨k, hk, rfl, hbr, hst⟩ := hrel
      by_cases hlt : k < n
      · obtain ⟨x, hx⟩ : ∃ x, L[k]? = some x := ⟨_, List.getElem?_eq_getElem (by rw [HL.out]; exact hlt)⟩
        obtain ⟨y, hy⟩ : ∃ x, M[k]? = some x := ⟨_, List.getElem?_eq_getElem (by rw [HM.out]; exact hlt)⟩
        have hF := HF.out.below hbr.out
        have hG := HG.out.below hbr.out
        obtain ⟨b, off, rfl, hb, _, hc⟩ := hF.2.1 (by omega)
        obtain ⟨b', off', rfl, hb', _, hc'⟩ := hG.2.1 (by omega)
        have hra := hc k x hx
        have hra' := hc' k y hy
        have hfx := hF.2.2 x (List.mem_of_getElem? hx)
        have hfy := hG.2.2 y (List.mem_of_getElem? hy)
        obtain ⟨fl, hfl⟩ : ∃ fl, frL x.m x.d x.r = fl := ⟨_, rfl⟩
        obtain ⟨gl, hgl⟩ : ∃ fl, frL y.m y.d y.r = fl := ⟨_, rfl⟩
        have hLl : fl.length = 19 := by rw [← hfl]; rfl
        have hLl2 : gl.length = 19 := by rw [← hgl]; rfl
        have hfv : frV x.m x.d x.r = .agg fl.toArray := by rw [← hfl]; rfl
        have hgv : frV y.m y.d y.r = .agg gl.toArray := by rw [← hgl]; rfl
        have hst2 : listsB L M = (sameB x.m y.m x.ds y.ds x.rs y.rs && listsB (L.drop (k + 1)) (M.drop (k + 1))) := hst.out.trans (listsB_drop L M k x y hx hy)
        have hsm := fun W a1 a2 => rsame_any (fun _ => True) x.m y.m x.d y.d x.r y.r x.ds y.ds x.rs y.rs W a1 a2
        rw [hfl] at hra
        rw [hgl] at hra'
        rw [hfv, hgv] at hsm
        clear hfl hgl hfv hgv hx hy hc hc' hF hG hst
        have HLl := Lib.hid hLl
        have HLl2 := Lib.hid hLl2
        have HS := Lib.hid hst2
        have HSM := Lib.hid hsm
        have hfx := hfx.below (below_drew (Below.refl _ wr))
        have hfy := hfy.below (below_drew (Below.refl _ wr))
        have hBD := below_drew hbr.out
        have hra1 : wr.drew.rangeAt b (off + k * 19) fl := hra
        have hra2 : wr.drew.rangeAt b' (off' + k * 19) gl := hra'
        have hki : (k : Int) < (n : Int) := by omega
        have hk0 : (0 : Int) ≤ (k : Int) := by omega
        clear hLl hLl2 hst2 hsm hra hra'
        obtain ⟨sb, hsb⟩ : ∃ z, sameB x.m y.m x.ds y.ds x.rs y.rs = z := ⟨_, rfl⟩
        rw [hsb] at HS HSM
        clear hsb
        go_wp2_with fail
        refine wp_region_held_drew (S := (fun w' => w'.rangeAt b (off + k * 19) fl ∧ w'.rangeAt b' (off' + k * 19) gl)) (by kernel_rfl) (⟨hra1, hra2⟩) (fun hHeld => ?_)
        refine tkp 0 (some 17) (v := ?_) rfl (Or.inl ⟨by rfl, ?_⟩) (by assumption) ?_
        rotate_left
        · intro w hSw; (try dsimp only at hSw); go_simp; first | done | (with_reducible rfl)
        simp only [Act.put, List.setIfInBounds_toArray, List.set_cons_zero, List.set_cons_succ]
        refine tkp 1 (some 18) (v := ?_) rfl (Or.inl ⟨by rfl, ?_⟩) (by assumption) ?_
        rotate_left
        · intro w hSw; (try dsimp only at hSw); go_simp; first | done | (with_reducible rfl)
        simp only [Act.put, List.setIfInBounds_toArray, List.set_cons_zero, List.set_cons_succ]
        refine tkp 2 (some 19) (v := ?_) rfl (Or.inl ⟨by rfl, ?_⟩) (by assumption) ?_
        rotate_left
        · intro w hSw; (try dsimp only at hSw); go_simp; first | done | (with_reducible rfl)
        simp only [Act.put, List.setIfInBounds_toArray, List.set_cons_zero, List.set_cons_succ]
        refine take_dst (i := 3) (dst := some 20) rfl rfl (by kernel_rfl) (by kernel_rfl) (by kernel_rfl) (fun _ _ _ h => h) (v := ?_) ?_ (by assumption) ?_
        rotate_left
        · refine yl_fro ?ylx3 ?ylo3 ?ylb3 ?ylq3 ?ylp3 ?ylL3 ?ylS3 ?yll3 ?ylw3
          case ylo3 => rfl
          case ylp3 => rfl
          case ylS3 => intro w hSw; (try dsimp only at hSw); go_split_ands; assumption
          case yll3 => first | rfl | exact HLl.out | exact HLl2.out
          case ylw3 => rfl
        simp only [Act.put, List.setIfInBounds_toArray, List.set_cons_zero, List.set_cons_succ]
        refine tkp 4 (some 21) (v := ?_) rfl (Or.inl ⟨by rfl, ?_⟩) (by assumption) ?_
        rotate_left
        · intro w hSw; (try dsimp only at hSw); go_simp; first | done | (with_reducible rfl)
        simp only [Act.put, List.setIfInBounds_toArray, List.set_cons_zero, List.set_cons_succ]
        refine tkp 5 (some 22) (v := ?_) rfl (Or.inl ⟨by rfl, ?_⟩) (by assumption) ?_
        rotate_left
        · intro w hSw; (try dsimp only at hSw); go_simp; first | done | (with_reducible rfl)
        simp only [Act.put, List.setIfInBounds_toArray, List.set_cons_zero, List.set_cons_succ]
        refine tkp 6 (some 23) (v := ?_) rfl (Or.inl ⟨by rfl, ?_⟩) (by assumption) ?_
        rotate_left
        · intro w hSw; (try dsimp only at hSw); go_simp; first | done | (with_reducible rfl)
        simp only [Act.put, List.setIfInBounds_toArray, List.set_cons_zero, List.set_cons_succ]
        refine take_dst (i := 7) (dst := some 24) rfl rfl (by kernel_rfl) (by kernel_rfl) (by kernel_rfl) (fun _ _ _ h => h) (v := ?_) ?_ (by assumption) ?_
        rotate_left
        · refine yl_fro ?ylx7 ?ylo7 ?ylb7 ?ylq7 ?ylp7 ?ylL7 ?ylS7 ?yll7 ?ylw7
          case ylo7 => rfl
          case ylp7 => rfl
          case ylS7 => intro w hSw; (try dsimp only at hSw); go_split_ands; assumption
          case yll7 => first | rfl | exact HLl.out | exact HLl2.out
          case ylw7 => rfl
        simp only [Act.put, List.setIfInBounds_toArray, List.set_cons_zero, List.set_cons_succ]
        refine wpAnyH_ready (rs := [8]) (by kernel_rfl) (by simp) ?_
        refine AllReadyH.cons rfl (fun K hK => ?_) AllReadyH.nil
        go_simp
        go_wp2_with ((go_at_call 10; refine (HSM.out _ hfx hfy).mono ?_; rintro e w3 ⟨rfl, hb3⟩))
        refine hK.out _ _ (⟨rangeAt_kept hra1 (Kept.of_below hb3 (fun _ => False)) hb (fun h => h), rangeAt_kept hra2 (Kept.of_below hb3 (fun _ => False)) hb' (fun h => h)⟩) (fun hHeld => ?_)
        clear hK K
        refine tkp 9 (some 26) (v := ?_) rfl (Or.inl ⟨by rfl, ?_⟩) (by assumption) ?_
        rotate_left
        · intro w hSw; (try dsimp only at hSw); go_simp; first | done | (with_reducible rfl)
        simp only [Act.put, List.setIfInBounds_toArray, List.set_cons_zero, List.set_cons_succ]
        refine wpAnyH_done (by kernel_rfl) ?_ _
        have HB3 := Lib.hid (hBD.trans (hb3.mono (by have := hBD.size; omega)))
        cases sb with
        | true =>
          go_wp2_with fail
          go_roundw
          case rel => exact ⟨k + 1, by omega, by go_num, HB3, Lib.hid (by rw [HS.out, Bool.true_and])⟩
          case measure => simp [intOf]; omega
        | false =>
          go_wp2_with fail
          go_ret
          exact ⟨by rw [HS.out, Bool.false_and]; rfl, HB3.out⟩
      · obtain rfl : k = n := by omega
        have HT : Hid (listsB L M = true) := Lib.hid (by rw [hst.out, List.drop_eq_nil_of_le (by rw [HL.out]; exact Nat.le_refl _), List.drop_eq_nil_of_le (by rw [HM.out]; exact Nat.le_refl _)]; rfl)
        clear hst hlt
        go_wp2_with fail
        go_ret
        exact ⟨by rw [HT.out]; rfl, hbr.out⟩
  · have HT : Hid (listsB L M = false) := Lib.hid (by
      cases hb : listsB L M with
      | false => rfl
      | true => exact absurd (listsB_len L M hb) (by rw [HL.out, HM.out]; exact e_n))
    have en2 : ((n : Int) == (n' : Int)) = false := by simp; omega
    have en3 : ((n : Int) != (n' : Int)) = true := by simp; omega
    go_enter Try.func21, Try.ntmps21
    go_wp2_with fail
    go_ret
    exact ⟨by rw [HT.out]; rfl, Below.refl _ _⟩
end Go.Proofs.Ytkahndjflhgccaa
