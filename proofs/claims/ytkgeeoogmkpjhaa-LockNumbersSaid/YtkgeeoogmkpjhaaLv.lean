/-
  lock.Seal, Open, Mask.
-/
import Derived.Test.YtkgeeoogmkpjhaaLu
namespace Go.Proofs.Ytkgeeoogmkpjhaa
set_option linter.unusedVariables false
set_option linter.unusedSimpArgs false
open Go.RowKit Go.ChangeShapes Go.WideShapes Go.Deep
theorem yl_ne8 {ops : Array Oper} {S : World → Prop} {o : Oper} {a : Act} (x y : Operand) (ty : TypeId) (ho : o.op = .binOp .neq 28 x y ty) (m m' : N8) (b : Bool) (hb : n8B m m' = b) (hx : a.eval x = m.v) (hy : a.eval y = m'.v)
    (hw : Region.wanted o (yielded ops a.tmps) = true) : YieldsIf Try.prog ops S o (.bool (!b)) a := by
  subst hb
  refine .inl ⟨hw, fun w _ => ?_⟩
  have h1 := run_eqGuard_agg (P := Try.prog) w .neq 28 x y (m.l.map (Value.int .u8)).toArray (m'.l.map (Value.int .u8)).toArray (by kernel_rfl)
  have h2 := run_neq_struct (P := Try.prog) w 28 (m.l.map (Value.int .u8)).toArray (m'.l.map (Value.int .u8)).toArray
  have h3 := run_a8 w m m'
  rw [N8.v_l, N8.v_l] at h3
  rw [h3] at h2
  rw [N8.v_l] at hx hy
  unfold execOp
  simp only [ho, hx, hy, Sem.run_bind, h1, h2, Result.andThen_ok]
  rfl
set_option maxRecDepth 100000 in
set_option maxHeartbeats 2000000 in
theorem seal_any (key n : Int) (Ah : Option Addr) (nh ch : Nat) (head : List Int) (Ab : Option Addr) (nb cb : Nat) (body : List Int) (w : World) (hrh : Rd w w.heap.size Ah nh head) (hrb : Rd w w.heap.size Ab nb body) (hh1 : nh ≤ ch) (hh2 : ch ≤ maxLen) (hb1' : nb ≤ cb) (hb2' : cb ≤ maxLen) (hln : nh + nb ≤ 140737488354000) (k0 : 0 ≤ key) (k1 : key < 18446744073709551616) (n0 : 0 ≤ n) (n1 : n < 18446744073709551616) :
    Calls Try.prog 16 #[.int .u64 key, .int .u64 n, .slice Ah nh ch, .slice Ab nb cb] w fun e w' => ∃ v, e = .returned v ∧ Own w' w.heap.size 5 v (sealS key n head body) ∧ Below w.heap.size w w' := by
  obtain ⟨i0, hi, hz0, hz1, hz2⟩ := info_parts u8_info
  have HT := turned_any key n Ab nb cb body w hrb hb1' hb2' (by omega) k0 k1 n0 n1
  have hsl : (turnS key n body).length = nb := by rw [turnS_len]; exact hrb.1
  have hby9 := tagS_byt key n head (turnS key n body)
  have hfin : sealS key n head body = turnS key n body ++ (tagS key n head (turnS key n body)).l := rfl
  obtain ⟨hd, hhd⟩ : ∃ x, turnS key n body = x := ⟨_, rfl⟩
  rw [hhd] at HT hsl hby9 hfin
  have HG := Lib.hid (fun W A c (h : Rd W W.heap.size Ah nh head) (h' : Rd W W.heap.size A nb hd) (hc : nb ≤ c) (hm : c ≤ maxLen) => tag_any key n Ah nh ch head A nb c hd W h h' hh1 hh2 hc hm (by omega) k0 k1 n0 n1)
  obtain ⟨m9, hm9⟩ : ∃ x, tagS key n head hd = x := ⟨_, rfl⟩
  rw [hm9] at HG hby9 hfin
  rw [hfin]
  have HSL := Lib.hid hsl
  clear hhd hm9 hfin hsl
  go_enter Try.func16, Try.ntmps16
  go_wp2_with fail
  refine HT.mono ?_
  rintro e w1 ⟨v1, rfl, ho1, hb1⟩
  obtain ⟨A1, c1, rfl, s1, s2, s3⟩ := ho1.open_n nb HSL.out
  have hrh1 := (hrh.below hb1).more hb1.size
  go_wp2_with fail
  refine (HG.out w1 A1 c1 hrh1 s3 s1 s2).mono ?_
  rintro e w2 ⟨rfl, hb2⟩
  have ho2 := ho1.below hb2 (Nat.le_refl _)
  have hs12 := hb2.size
  have hb2 := hb1.trans (hb2.mono hb1.size)
  have hle2 := hb2.size
  have hA2 : At (w2.alloc (.cells #[.int .u8 0, .int .u8 0, .int .u8 0, .int .u8 0, .int .u8 0, .int .u8 0, .int .u8 0, .int .u8 0] 28)) w2.heap.size 28 z8L := At.new w2 28 z8L
  have ho2 := ho2.alloc (.cells #[.int .u8 0, .int .u8 0, .int .u8 0, .int .u8 0, .int .u8 0, .int .u8 0, .int .u8 0, .int .u8 0] 28)
  have hlt2 := ho2.block_lt
  have hb2 := hb2.alloc hb2.size (.cells #[.int .u8 0, .int .u8 0, .int .u8 0, .int .u8 0, .int .u8 0, .int .u8 0, .int .u8 0, .int .u8 0] 28)
  have hne : ∀ j, (Value.slice A1 nb c1).ownBlock = some j → ¬ j = w2.heap.size := by
    intro j hj
    have h1 := (ho1.block_lt j hj).2
    omega
  clear hlt2 hrh1 s3
  go_wp2_with (first | ((with_reducible refine at_st8 ?_); refine st_8 w2.heap.size 28 z8L m9 (by rfl) (by rfl) hA2 rfl ?_; intro w3 hA3 hk3; have ho3 := ho2.kept hk3 hne; have hb3 := hk3.below hb2 hb2.size (by intro j hj; subst hj; exact hle2); have hrt := hA3.rd8 hby9; clear hA2 ho2 hb2 hk3) | (at_builtin; refine wpList_append_rd (by rfl) (.tmp 20) (.tmp 21) 22 rfl w.heap.size 5 i0 Try.underlying22 hi hz0 hz1 hz2 _ hd rfl ho3 _ _ 8 8 m9.l rfl hrt (by rw [HSL.out]; omega) w hb3 hb3.size ?_; intro v4 w4 ho4 hb4 hg4) | fail)
  go_ret
  exact ⟨_, rfl, ho4, hb4⟩
def OpPost (w : World) (key n : Int) (head sealed : List Int) (e : Ending) (w' : World) : Prop := ∃ v, e = .returned (.tuple #[v, .bool (openB key n head sealed)]) ∧ Own w' w.heap.size 5 v (openS key n head sealed) ∧ Below w.heap.size w w'
theorem openB_short (key n : Int) (head s : List Int) (h : s.length < 8) : openB key n head s = false ∧ openS key n head s = [] := by
  have h1 : openB key n head s = false := by unfold openB; rw [decide_eq_false (by omega)]; rfl
  refine ⟨h1, ?_⟩
  unfold openS; rw [h1]; rfl
set_option maxRecDepth 100000 in
set_option maxHeartbeats 4000000 in
theorem open_any (key n : Int) (Ah : Option Addr) (nh ch : Nat) (head : List Int) (Ab : Option Addr) (nb cb : Nat) (sealed : List Int) (w : World) (hrh : Rd w w.heap.size Ah nh head) (hrb : Rd w w.heap.size Ab nb sealed) (hh1 : nh ≤ ch) (hh2 : ch ≤ maxLen) (hb1' : nb ≤ cb) (hb2' : cb ≤ maxLen) (hln : nh + nb ≤ 140737488354000) (k0 : 0 ≤ key) (k1 : key < 18446744073709551616) (n0 : 0 ≤ n) (n1 : n < 18446744073709551616) :
    Calls Try.prog 17 #[.int .u64 key, .int .u64 n, .slice Ah nh ch, .slice Ab nb cb] w (OpPost w key n head sealed) := by
  unfold OpPost
  have hh3 := hh2
  have hb3' := hb2'
  unfold maxLen at hh3 hb3'
  rcases Nat.lt_or_ge nb 8 with h8 | h8
  · obtain ⟨e1, e2⟩ := openB_short key n head sealed (by rw [hrb.1]; exact h8)
    rw [e1, e2]
    go_enter Try.func17, Try.ntmps17
    go_wp2_with fail
    refine bodyPost_ret (results_tmp2 rfl _ _ _) rfl ?_
    exact ⟨_, rfl, Own.none_ _ _ _, Below.refl _ _⟩
  · obtain ⟨d, rfl⟩ : ∃ d, nb = d + 8 := ⟨nb - 8, by omega⟩
    have hsl := hrb.1
    have hrt := hrb.cutTo (m := d) (by omega)
    have hrf := hrb.cutFrom (c := cb) (k := d) (by omega) hb1'
    obtain ⟨b, off, rfl, hbl, _⟩ := hrb.2.2 (by omega)
    have ecut : cutA (some ⟨b, off, none⟩) cb d = some ⟨b, off + d, none⟩ := by unfold cutA; rw [if_neg (by omega), Option.map_some, addr_add]
    rw [ecut, show d + 8 - d = 8 by omega] at hrf
    have hby : Byt (sealed.drop d) := hrf.2.1
    have hl8 : (sealed.drop d).length = 8 := hrf.1
    have hOB : openB key n head sealed = n8B (N8.of (sealed.drop d)) (tagS key n head (sealed.take d)) := by
      unfold openB; rw [hsl, Nat.add_sub_cancel, decide_eq_true (by omega)]; rfl
    have hOS : openS key n head sealed = if openB key n head sealed then turnS key n (sealed.take d) else [] := by unfold openS; rw [hsl, Nat.add_sub_cancel]
    rw [hOS]
    have hmb : Byt (N8.of (sealed.drop d)).l := by rw [N8.l_of _ hl8]; exact hby
    have hml : (N8.of (sealed.drop d)).l = sealed.drop d := N8.l_of _ hl8
    obtain ⟨m, hm⟩ : ∃ x, N8.of (sealed.drop d) = x := ⟨_, rfl⟩
    rw [hm] at hOB hmb hml
    rw [← hml] at hrf
    obtain ⟨hid, hhid⟩ : ∃ x, sealed.take d = x := ⟨_, rfl⟩
    rw [hhid] at hrt hOB
    rw [hhid]
    have HT := Lib.hid (fun W (h : Rd W W.heap.size (some ⟨b, off, none⟩) d hid) => turned_any key n (some ⟨b, off, none⟩) d cb hid W h (by omega) hb2' (by omega) k0 k1 n0 n1)
    have HG := Lib.hid (fun W (h : Rd W W.heap.size Ah nh head) (h' : Rd W W.heap.size (some ⟨b, off, none⟩) d hid) => tag_any key n Ah nh ch head (some ⟨b, off, none⟩) d cb hid W h h' hh1 hh2 (by omega) hb2' (by omega) k0 k1 n0 n1)
    obtain ⟨m9, hm9⟩ : ∃ x, tagS key n head hid = x := ⟨_, rfl⟩
    rw [hm9] at HG hOB
    obtain ⟨B, hB⟩ : ∃ x, openB key n head sealed = x := ⟨_, rfl⟩
    rw [hB] at hOB ⊢
    have HOB := Lib.hid hOB.symm
    have HRH := Lib.hid hrh
    have HRT := Lib.hid hrt
    have HRF := Lib.hid hrf
    have HLT := Lib.hid (show At (w.alloc (.cells #[.int .u8 0, .int .u8 0, .int .u8 0, .int .u8 0, .int .u8 0, .int .u8 0, .int .u8 0, .int .u8 0] 28)) w.heap.size 28 z8L from At.new w 28 z8L)
    have HBL := Lib.hid (show Below w.heap.size w (w.alloc (.cells #[.int .u8 0, .int .u8 0, .int .u8 0, .int .u8 0, .int .u8 0, .int .u8 0, .int .u8 0, .int .u8 0] 28)) from (Below.refl _ _).alloc (Nat.le_refl _) _)
    clear hm hhid hm9 hB hOB hOS hrh hrt hrf hrb hsl hby hl8 hml ecut
    go_enter Try.func17, Try.ntmps17
    go_wp2_with fail
    have hA1 := HLT.out.drew
    have hb1 := belowN HBL.out 1
    obtain ⟨Y, hY⟩ : ∃ x, (w.alloc (.cells #[.int .u8 0, .int .u8 0, .int .u8 0, .int .u8 0, .int .u8 0, .int .u8 0, .int .u8 0, .int .u8 0] 28)).drew = x := ⟨_, rfl⟩
    have hb1 : Below w.heap.size w (w.alloc (.cells #[.int .u8 0, .int .u8 0, .int .u8 0, .int .u8 0, .int .u8 0, .int .u8 0, .int .u8 0, .int .u8 0] 28)).drew := hb1
    rw [hY] at hA1 hb1
    have hrf1 := (HRF.out.below hb1).more hb1.size
    have hdc : d ≤ cb := by omega
    have hdi : (d : Int) ≤ (d : Int) + 8 := by omega
    have hcd : ¬ cb = d := by omega
    refine wp_region_held_drew (S := (fun _ => True)) (by kernel_rfl) (trivial) (fun hHeld => ?_)
    rw [hY]
    clear hY
    refine tkq 0 (some 21) (v := ?_) rfl (Or.inl ⟨by rfl, ?_⟩) (by assumption) ?_
    rotate_left
    · intro w hSw; (try dsimp only at hSw); go_simp; first | done | (with_reducible rfl)
    simp only [Act.put, List.setIfInBounds_toArray, List.set_cons_zero, List.set_cons_succ]
    refine tkq 1 (some 22) (v := ?_) rfl (Or.inl ⟨by rfl, ?_⟩) (by assumption) ?_
    rotate_left
    · intro w hSw; (try dsimp only at hSw); go_simp; first | done | (with_reducible rfl)
    simp only [Act.put, List.setIfInBounds_toArray, List.set_cons_zero, List.set_cons_succ]
    refine tkq 2 (some 23) (v := ?_) rfl (Or.inl ⟨by rfl, ?_⟩) (by assumption) ?_
    rotate_left
    · intro w hSw; (try dsimp only at hSw); go_simp; first | done | (with_reducible rfl)
    simp only [Act.put, List.setIfInBounds_toArray, List.set_cons_zero, List.set_cons_succ]
    refine tkq 3 (some 24) (v := ?_) rfl (Or.inl ⟨by rfl, ?_⟩) (by assumption) ?_
    rotate_left
    · intro w hSw; (try dsimp only at hSw); go_simp; first | done | (with_reducible rfl)
    simp only [Act.put, List.setIfInBounds_toArray, List.set_cons_zero, List.set_cons_succ]
    refine wpAnyH_ready (rs := [4]) (by kernel_rfl) (by simp) ?_
    refine AllReadyH.cons rfl (fun K hK => ?_) AllReadyH.nil
    refine step_copy_splice rfl (.tmp 21) (.tmp 24) 22 22 rfl 5 Try.underlying22 (by kernel_rfl) _ _ 8 8 8 (cb - d) (by rfl) (by rfl) w.heap.size 0 z8L 28 hA1 (m.l.map (Value.int .u8)) (by rfl) (fun _ => ⟨rfl, hrf1.cells (by omega)⟩) (by simp [z8L, N8.l]) (oneCell_u8 _) w.heap.size w hb1 (Nat.le_refl _) ?_
    intro W2 hA2 hb2
    have hA2 : At W2 w.heap.size 28 (m.l.map (Value.int .u8)) := hA2.out
    refine hK.out _ _ (trivial) (fun hHeld => ?_)
    clear hK K
    refine wpAnyH_done (by kernel_rfl) ?_ _
    clear hA1 hb1 hrf1
    go_wp2_with fail
    obtain ⟨W3, hW3⟩ : ∃ x, W2.drew = x := ⟨_, rfl⟩
    have hA3 := hA2.drew
    have hb3 : Below w.heap.size w W2.drew := belowN hb2 1
    rw [hW3] at hA3 hb3
    clear hA2 hb2
    refine wp_region_held_drew (S := (fun W => W.rangeAt w.heap.size 0 (m.l.map (Value.int .u8)))) (by kernel_rfl) (by rw [hW3]; exact hA3.rangeAt) (fun hHeld => ?_)
    rw [hW3] at hHeld ⊢
    clear hW3
    refine tkq 0 (some 26) (v := ?_) rfl ?_ (by assumption) ?_
    rotate_left
    · refine yl_any 28 (.tmp 12) ?_ w.heap.size 0 ?_ (m.l.map (Value.int .u8)) _ ?_ Try.underlying28 rfl ?_ ?_
      · rfl
      · rfl
      · intro w hSw; exact hSw
      · exact a8_info
      · rfl
    simp only [Act.put, List.setIfInBounds_toArray, List.set_cons_zero, List.set_cons_succ]
    refine tkq 1 (some 27) (v := ?_) rfl (Or.inl ⟨by rfl, ?_⟩) (by assumption) ?_
    rotate_left
    · intro w hSw; (try dsimp only at hSw); go_simp; first | done | (with_reducible rfl)
    simp only [Act.put, List.setIfInBounds_toArray, List.set_cons_zero, List.set_cons_succ]
    refine tkq 2 (some 28) (v := ?_) rfl (Or.inl ⟨by rfl, ?_⟩) (by assumption) ?_
    rotate_left
    · intro w hSw; (try dsimp only at hSw); go_simp; first | done | (with_reducible rfl)
    simp only [Act.put, List.setIfInBounds_toArray, List.set_cons_zero, List.set_cons_succ]
    refine tkq 3 (some 29) (v := ?_) rfl (Or.inl ⟨by rfl, ?_⟩) (by assumption) ?_
    rotate_left
    · intro w hSw; (try dsimp only at hSw); go_simp; first | done | (with_reducible rfl)
    simp only [Act.put, List.setIfInBounds_toArray, List.set_cons_zero, List.set_cons_succ]
    refine tkq 4 (some 30) (v := ?_) rfl (Or.inl ⟨by rfl, ?_⟩) (by assumption) ?_
    rotate_left
    · intro w hSw; (try dsimp only at hSw); go_simp; first | done | (with_reducible rfl)
    simp only [Act.put, List.setIfInBounds_toArray, List.set_cons_zero, List.set_cons_succ]
    refine wpAnyH_ready (rs := [5]) (by kernel_rfl) (by simp) ?_
    refine AllReadyH.cons rfl (fun K hK => ?_) AllReadyH.nil
    go_simp
    go_wp2_with (go_at_call 31; refine (HG.out _ ((HRH.out.below hb3).more hb3.size) ((HRT.out.below hb3).more hb3.size)).mono ?_; rintro e W4 ⟨rfl, hb4⟩)
    have hA4 := hA3.below hb4 hA3.lt
    have hb4 := hb3.trans (hb4.mono hb3.size)
    refine hK.out _ _ (hA4.rangeAt) (fun hHeld => ?_)
    clear hK K
    refine tkq 6 (some 32) (v := .bool (!B)) rfl ?_ (by assumption) ?_
    · exact yl_ne8 _ _ _ rfl m m9 B HOB.out (by rfl) (by rfl) (by rfl)
    simp only [Act.put, List.setIfInBounds_toArray, List.set_cons_zero, List.set_cons_succ]
    refine wpAnyH_done (by kernel_rfl) ?_ _
    cases B
    · go_wp2_with fail
      refine bodyPost_ret (results_tmp2 rfl _ _ _) rfl ?_
      exact ⟨_, rfl, Own.none_ _ _ _, hb4⟩
    · go_wp2_with fail
      refine (HT.out W4 ((HRT.out.below hb4).more hb4.size)).mono ?_
      rintro e W5 ⟨v5, rfl, ho5, hb5⟩
      have ho5 := ho5.base_ hb4.size
      have hb5 := hb4.trans (hb5.mono hb4.size)
      go_wp2_with fail
      refine bodyPost_ret (results_tmp2 rfl _ _ _) rfl ?_
      exact ⟨_, rfl, ho5, hb5⟩
end Go.Proofs.Ytkgeeoogmkpjhaa
