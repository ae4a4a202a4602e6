/-
  The document's own mask (narthexref9).
-/
import Derived.Test.YtehdilgnlhhjdaaMq16
import Derived.Test.YtehdilgnlhhjdaaHre
namespace Go.Proofs.Ytehdilgnlhhjdaa
set_option linter.unusedVariables false
set_option linter.unusedSimpArgs false
open Go.RowKit Go.ChangeShapes Go.WideShapes Go.Deep
def maskB (long : Bool) : Int := if long then 15 else 31
/-- How many bytes of a number are turned. -/
def maskW (mk : Int) (bs : List Int) (a : Nat) (k : Nat) (long : Bool) : Nat := if k = 0 then (xorB (bs.getD 0 0) (andB ((maskS mk (samS bs a)).getD 0 0) (maskB long)) % 4 + 1).toNat else k
theorem rkt_info : (Try.prog.info? 24).map (·.size) = some 2 := by kernel_rfl
theorem turnF_head (bs : List Int) (x : Int) (h : 0 < bs.length) : (turnF bs x).getD 0 0 = xorB (bs.getD 0 0) x := by
  unfold turnF
  rw [List.getD_eq_getElem?_getD, List.getElem?_set_self h]
  rfl
set_option maxRecDepth 100000 in
set_option maxHeartbeats 8000000 in
theorem rmask9_any (sk mk : Int) (A : Option Addr) (n c a k : Nat) (bs : List Int) (long : Bool) (w : World) (hr : Rd w w.heap.size A n bs) (hn : n ≤ 1000000) (hnc : n ≤ c) (hcm : c ≤ maxLen) (ha : 1 ≤ a) (ha2 : a + 12 ≤ n) (hk : k ≤ 4) (k0 : 0 ≤ mk) (k1 : mk < 18446744073709551616) :
    Calls Try.prog 24 #[.agg (kL sk mk).toArray, .slice A n c, .int .i64 a, .int .i64 k, .bool long] w (REPost w (turnB bs (maskS mk (samS bs a)) a (maskW mk bs a k long) (maskB long))) := by
  obtain ⟨i0, hi, hzA, hzB, hzC⟩ := info_parts u8_info
  have hc3 := hcm
  unfold maxLen at hc3
  have hrl := hr.1
  have hby := hr.2.1
  have hK0 : At (w.alloc (.cells (kL sk mk).toArray 24)) w.heap.size 24 (kL sk mk) := At.new w 24 _
  have hb0 : Below w.heap.size w (w.alloc (.cells (kL sk mk).toArray 24)) := (Below.refl _ _).alloc (Nat.le_refl _) _
  have hK01 : (kL sk mk)[1]? = some (.int .u64 mk) := rfl
  have hsl := samS_len bs a (by omega)
  have hss : samS bs a = (bs.drop (a + 4)).take 8 := rfl
  have hML : (maskS mk (samS bs a)).length = 5 := rfl
  have hMB : Byt (maskS mk (samS bs a)) := (b8_byt _).take 5
  obtain ⟨b, off, rfl, hbl, hcl⟩ := hr.2.2 (by omega)
  have hrc := (hr.cutTo (m := a + 12) (by omega)).cutFrom (c := c) (k := a + 4) (by omega) (by omega)
  obtain ⟨d, hd⟩ : ∃ d, a + 4 = d := ⟨_, rfl⟩
  obtain ⟨d2, hd2⟩ : ∃ d, a + 12 = d := ⟨_, rfl⟩
  have hdI : (a : Int) + 4 = (d : Int) := by omega
  have hd2I : (a : Int) + 12 = (d2 : Int) := by omega
  rw [hd] at hrc hss
  rw [hd2] at hrc
  have ecut : cutA (some ⟨b, off, none⟩) c d = some ⟨b, off + d, none⟩ := by unfold cutA; rw [if_neg (by omega), Option.map_some, addr_add]
  have edt : (bs.take d2).drop d = samS bs a := by rw [hss, List.drop_take, show d2 - d = 8 by omega]
  rw [ecut, edt, show d2 - d = 8 by omega] at hrc
  have HM := Lib.hid (fun W (h : Rd W W.heap.size (some ⟨b, off + d, none⟩) 8 (samS bs a)) => rmask_any mk (some ⟨b, off + d, none⟩) 8 (c - d) (samS bs a) W h (by omega) (by unfold maxLen; omega) k0 k1)
  obtain ⟨K, hK⟩ : ∃ K, kL sk mk = K := ⟨_, rfl⟩
  rw [hK] at hK0 hb0 hK01 ⊢
  have hc1 := hK0.cell 1
  rw [hK01] at hc1
  obtain ⟨w1, hw1⟩ : ∃ x, w.alloc (.cells K.toArray 24) = x := ⟨_, rfl⟩
  rw [hw1] at hK0 hb0 hc1
  have hr1 := (hr.below hb0).more hb0.size
  have hrc1 := (hrc.below hb0).more hb0.size
  unfold maskW
  obtain ⟨ms, hms⟩ : ∃ x, maskS mk (samS bs a) = x := ⟨_, rfl⟩
  rw [hms] at HM hML hMB ⊢
  obtain ⟨sam, hsam⟩ : ∃ x, samS bs a = x := ⟨_, rfl⟩
  rw [hsam] at HM hrc1
  obtain ⟨x0, hx0⟩ : ∃ x, bs.getD 0 0 = x := ⟨_, rfl⟩
  obtain ⟨z0, hz0⟩ : ∃ z, ms.getD 0 0 = z := ⟨_, rfl⟩
  have hx0b : 0 ≤ x0 ∧ x0 < 256 := by rw [← hx0]; exact hby.getD 0
  have hz0b : 0 ≤ z0 ∧ z0 < 256 := by rw [← hz0]; exact hMB.getD 0
  have hF : turnF bs (andB (ms.getD 0 0) (maskB long)) = bs.set 0 (bits BinOp.xor IntKind.u8 x0 (bits BinOp.and IntKind.u8 z0 (maskB long))) := by unfold turnF xorB andB; rw [hx0, hz0]
  have hFl : (turnF bs (andB (ms.getD 0 0) (maskB long))).length = n := by rw [turnF_len, hrl]
  have hfin : ∀ j, turnB bs ms a j (maskB long) = turnL (turnF bs (andB (ms.getD 0 0) (maskB long))) ms a j := fun j => rfl
  rw [hfin]
  have hFh : (turnF bs (andB (ms.getD 0 0) (maskB long))).getD 0 0 = xorB x0 (andB (ms.getD 0 0) (maskB long)) := by rw [turnF_head _ _ (by omega), hx0]
  rw [hx0, ← hFh]
  have hFb : Byt (turnF bs (andB (ms.getD 0 0) (maskB long))) := turnF_byt _ _ hby
  obtain ⟨F, hFF⟩ : ∃ x, turnF bs (andB (ms.getD 0 0) (maskB long)) = x := ⟨_, rfl⟩
  rw [hFF] at hF hFl hFb ⊢
  obtain ⟨f, hf⟩ : ∃ f, F.getD 0 0 = f := ⟨_, rfl⟩
  rw [hf]
  have hf256 : 0 ≤ f ∧ f < 256 := by rw [← hf]; exact hFb.getD 0
  have key : ∃ kk : Nat, kk ≤ 4 ∧ (if k = 0 then (f % 4 + 1).toNat else k) = kk ∧ (k = 0 → f % 4 + 1 = (kk : Int)) ∧ (k ≠ 0 → k = kk) := by
    by_cases h : k = 0
    · exact ⟨(f % 4 + 1).toNat, by omega, if_pos h, fun _ => by omega, fun h' => absurd h h'⟩
    · exact ⟨k, by omega, if_neg h, fun h' => absurd h' h, fun _ => rfl⟩
  obtain ⟨kk, hkk4, hkk, hkz, hkn⟩ := key
  rw [hkk]
  have HFH := Lib.hid hf
  have HKZ := Lib.hid hkz
  have HKN := Lib.hid hkn
  clear hf hkk hkz hkn
  have hx : bs[0]? = some x0 := by rw [← hx0, List.getElem?_eq_getElem (by omega), List.getD_eq_getElem?_getD, List.getElem?_eq_getElem (by omega)]; rfl
  have HX := Lib.hid hx
  have HL := Lib.hid hrl
  have HFL := Lib.hid hFl
  have HZ := Lib.hid hz0
  have hd2c : d2 ≤ c := by omega
  have hdd2 : d ≤ d2 := by omega
  have hdd2I : (d : Int) ≤ (d2 : Int) := by omega
  have hd2cI : (d2 : Int) ≤ (c : Int) := by omega
  have hcd : ¬ c = d := by omega
  have h8 : d2 - d = 8 := by omega
  have hp1 : IntKind.i64.wrap ((a : Int) + 4) = (d : Int) := by rw [hdI]; exact IntWalk.i64_in _ (by omega)
  have hp2 : IntKind.i64.wrap ((a : Int) + 12) = (d2 : Int) := by rw [hd2I]; exact IntWalk.i64_in _ (by omega)
  have hlt0 := hK0.lt
  clear hdI hd2I hcl hFh hx0 hz0 hms hsam hss hd hd2 hfin hFF ecut edt hr hrc hK hx hsl hK01
  cases long with
  | true =>
    have hmb : maskB true = 15 := rfl
    rw [hmb] at hF
    obtain ⟨V, hV⟩ : ∃ v, bits BinOp.xor IntKind.u8 x0 (bits BinOp.and IntKind.u8 z0 15) = v := ⟨_, rfl⟩
    have hVb : 0 ≤ V ∧ V < 256 := by rw [← hV]; exact u8_bits_bd _ _ _
    rw [hV] at hF
    have HV := Lib.hid hV
    have HF := Lib.hid hF
    clear hV hF hmb
    go_enter Try.func24, Try.ntmps24
    go_wp2_with fail
    have hc1d : w1.drew.cell? ⟨w.heap.size, 1, none⟩ = some (.int .u64 mk) := hc1
    obtain ⟨Y, hY⟩ : ∃ x, w1.drew = x := ⟨_, rfl⟩
    have hb0d : Below w.heap.size w w1.drew := belowN hb0 1
    have hr1d := hr1.drew
    have hrc1d := hrc1.drew
    have hsY : w1.drew.heap.size = w1.heap.size := rfl
    rw [hY] at hc1d hb0d hr1d hrc1d hsY
    rw [← hsY] at hr1d hrc1d
    have HR1 := Lib.hid hr1d
    have HRC := Lib.hid hrc1d
    clear hr1d hrc1d hsY
    refine wp_region_held_drew (S := (fun W => W.cell? ⟨w.heap.size, 1, none⟩ = some (.int .u64 mk))) (by kernel_rfl) (by rw [hY]; exact hc1d) (fun hHeld => ?_)
    rw [hY] at hHeld ⊢
    clear hY
    refine tkq 0 (some 14) (v := ?_) rfl (Or.inl ⟨by rfl, ?_⟩) (by assumption) ?_
    rotate_left
    · intro w hSw; (try dsimp only at hSw); go_simp; first | done | (with_reducible rfl)
    simp only [Act.put, List.setIfInBounds_toArray, List.set_cons_zero, List.set_cons_succ]
    refine tkq 1 (some 15) (v := ?_) rfl (Or.inl ⟨by rfl, ?_⟩) (by assumption) ?_
    rotate_left
    · intro w hSw; (try dsimp only at hSw); have hh1 := hSw; go_simp; first | done | (with_reducible rfl)
    simp only [Act.put, List.setIfInBounds_toArray, List.set_cons_zero, List.set_cons_succ]
    refine tkq 2 (some 16) (v := ?_) rfl (Or.inl ⟨by rfl, ?_⟩) (by assumption) ?_
    rotate_left
    · intro w hSw; (try dsimp only at hSw); go_simp; first | done | (with_reducible rfl)
    simp only [Act.put, List.setIfInBounds_toArray, List.set_cons_zero, List.set_cons_succ]
    refine tkq 3 (some 17) (v := ?_) rfl (Or.inl ⟨by rfl, ?_⟩) (by assumption) ?_
    rotate_left
    · intro w hSw; (try dsimp only at hSw); go_simp; first | done | (with_reducible rfl)
    simp only [Act.put, List.setIfInBounds_toArray, List.set_cons_zero, List.set_cons_succ]
    refine tkq 4 (some 18) (v := ?_) rfl (Or.inl ⟨by rfl, ?_⟩) (by assumption) ?_
    rotate_left
    · intro w hSw; (try dsimp only at hSw); go_simp; first | done | (with_reducible rfl)
    simp only [Act.put, List.setIfInBounds_toArray, List.set_cons_zero, List.set_cons_succ]
    refine tkq 5 (some 19) (v := ?_) rfl (Or.inl ⟨by rfl, ?_⟩) (by assumption) ?_
    rotate_left
    · intro w hSw; (try dsimp only at hSw); go_simp; first | done | (with_reducible rfl)
    simp only [Act.put, List.setIfInBounds_toArray, List.set_cons_zero, List.set_cons_succ]
    refine tkq 6 (some 20) (v := ?_) rfl (Or.inl ⟨by rfl, ?_⟩) (by assumption) ?_
    rotate_left
    · intro w hSw; (try dsimp only at hSw); go_simp; first | done | (with_reducible rfl)
    simp only [Act.put, List.setIfInBounds_toArray, List.set_cons_zero, List.set_cons_succ]
    refine tkq 7 (some 21) (v := ?_) rfl (Or.inl ⟨by rfl, ?_⟩) (by assumption) ?_
    rotate_left
    · intro w hSw; (try dsimp only at hSw); go_simp; first | done | (with_reducible rfl)
    simp only [Act.put, List.setIfInBounds_toArray, List.set_cons_zero, List.set_cons_succ]
    refine wpAnyH_ready (rs := [8]) (by kernel_rfl) (by simp) ?_
    refine AllReadyH.cons rfl (fun K hK => ?_) AllReadyH.nil
    go_simp
    go_wp2_with (go_at_call 48; refine (HM.out _ HRC.out).mono ?_; rintro e W2 ⟨A2, c2, rfl, e1, e2, e3, hb2⟩)
    refine hK.out _ _ (cell_below hc1d hb2) (fun hHeld => ?_)
    clear hK K
    refine tkq 9 (some 11) (v := ?_) rfl (Or.inl ⟨by rfl, ?_⟩) (by assumption) ?_
    rotate_left
    · intro w hSw; (try dsimp only at hSw); go_simp; first | done | (with_reducible rfl)
    simp only [Act.put, List.setIfInBounds_toArray, List.set_cons_zero, List.set_cons_succ]
    refine wpAnyH_done (by kernel_rfl) ?_ _
    have hr2 := (HR1.out.below hb2).more hb2.size
    have hb3 := hb0d.trans (hb2.mono hb0d.size)
    obtain ⟨bm, om, rfl, hbm, hcm2⟩ := e3.2.2 (by omega)
    have hs2 := hb3.size
    have hbE : Below W2.heap.size W2 (W2.alloc (.cells #[] 5 )) := (Below.refl _ _).alloc (Nat.le_refl _) _
    have hr3 := hr2.below hbE
    have HB3 := Lib.hid hb3
    clear hb0 hb0d hb2 HR1 HRC HM hc1 hc1d hr1 hrc1 hHeld e3 hr2
    go_wp2_with (first | (at_builtin; refine wpList_append_rd (by rfl) (.tmp 23) (.tmp 24) 28 rfl W2.heap.size 5 i0 Try.underlying28 hi hzA hzB hzC _ [] rfl (Own.of_block (n := 0) (cap := 0) Byt.nil rfl (heap_alloc_new W2 _) (Nat.le_refl _) (Nat.le_refl _) (Nat.zero_le _) rfl rfl) _ (some ⟨b, off, none⟩) n c bs rfl hr3 (by simp; omega) W2 hbE hbE.size ?_; intro v4 w4 ho4 hb4 hg4) | fail)
    have ho4 := ho4.cast (List.nil_append bs)
    obtain ⟨g, c4, _, rfl, _, _, _, hgb, x1, x2⟩ := ho4.place (by rw [HL.out]; omega)
    rw [HL.out] at ho4 x1 ⊢
    have hcz := (hcm2 0 (by omega))
    rw [Nat.add_zero, HZ.out] at hcz
    have hcz4 := (show w4.drew.cell? ⟨bm, om, none⟩ = some (.int .u8 z0) by show w4.cell? _ = _; rw [hb4.cell (p := ⟨bm, om, none⟩) hbm]; exact hcz)
    have hcb4 := (show w4.drew.cell? ⟨g, 0, none⟩ = some (.int .u8 x0) from (own_cell ho4 HL.out 0 x0 HX.out).1)
    have ho4 := ho4.drew
    have hb4 : Below W2.heap.size W2 w4.drew := belowN hb4 1
    obtain ⟨Y4, hY4⟩ : ∃ x, w4.drew = x := ⟨_, rfl⟩
    rw [hY4] at hcz4 hcb4 ho4 hb4
    clear hr3 hg4 hbE hcz
    refine wp_region_held_drew (S := (fun W => W.cell? ⟨bm, om, none⟩ = some (.int .u8 z0))) (by kernel_rfl) (by rw [hY4]; exact hcz4) (fun hHeld => ?_)
    rw [hY4] at hHeld ⊢
    clear hY4
    refine tkq 0 (some 27) (v := ?_) rfl (Or.inl ⟨by rfl, ?_⟩) (by assumption) ?_
    rotate_left
    · intro w hSw; (try dsimp only at hSw); go_simp; first | done | (with_reducible rfl)
    simp only [Act.put, List.setIfInBounds_toArray, List.set_cons_zero, List.set_cons_succ]
    refine tkq 1 (some 28) (v := ?_) rfl (Or.inl ⟨by rfl, ?_⟩) (by assumption) ?_
    rotate_left
    · intro w hSw; (try dsimp only at hSw); go_simp; first | done | (with_reducible rfl)
    simp only [Act.put, List.setIfInBounds_toArray, List.set_cons_zero, List.set_cons_succ]
    refine tkq 2 (some 29) (v := ?_) rfl (Or.inl ⟨by rfl, ?_⟩) (by assumption) ?_
    rotate_left
    · intro w hSw; (try dsimp only at hSw); have hnn' : 0 < n := (by omega); have h5' : 0 < c4 := (by omega); go_simp; first | done | (with_reducible rfl)
    simp only [Act.put, List.setIfInBounds_toArray, List.set_cons_zero, List.set_cons_succ]
    refine tkq 4 (some 31) (v := ?_) rfl (Or.inl ⟨by rfl, ?_⟩) (by assumption) ?_
    rotate_left
    · intro w hSw; (try dsimp only at hSw); go_simp; first | done | (with_reducible rfl)
    simp only [Act.put, List.setIfInBounds_toArray, List.set_cons_zero, List.set_cons_succ]
    refine tkq 5 (some 32) (v := ?_) rfl (Or.inl ⟨by rfl, ?_⟩) (by assumption) ?_
    rotate_left
    · intro w hSw; (try dsimp only at hSw); have hh1 := hSw; have h5' : 0 < c2 := (by omega); go_simp; first | done | (with_reducible rfl)
    simp only [Act.put, List.setIfInBounds_toArray, List.set_cons_zero, List.set_cons_succ]
    refine tkq 6 (some 33) (v := ?_) rfl (Or.inl ⟨by rfl, ?_⟩) (by assumption) ?_
    rotate_left
    · intro w hSw; (try dsimp only at hSw); have hh1 := hSw; have h5' : 0 < c2 := (by omega); go_simp; first | done | (with_reducible rfl)
    simp only [Act.put, List.setIfInBounds_toArray, List.set_cons_zero, List.set_cons_succ]
    refine tkq 7 (some 34) (v := ?_) rfl (Or.inl ⟨by rfl, ?_⟩) (by assumption) ?_
    rotate_left
    · intro w hSw; (try dsimp only at hSw); go_simp; first | done | (with_reducible rfl)
    simp only [Act.put, List.setIfInBounds_toArray, List.set_cons_zero, List.set_cons_succ]
    refine wpAnyH_ready (rs := [3]) (by kernel_rfl) (by simp) ?_
    refine AllReadyH.cons rfl (fun K hK => ?_) AllReadyH.nil
    have hnn' : 0 < n := (by omega)
    go_simp
    go_wp2_with (fail)
    refine hK.out _ _ (hcz4) (fun hHeld => ?_)
    clear hK K
    refine tkq 8 (some 35) (v := ?_) rfl (Or.inl ⟨by rfl, ?_⟩) (by assumption) ?_
    rotate_left
    · intro w hSw; (try dsimp only at hSw); go_simp; first | done | (with_reducible rfl)
    simp only [Act.put, List.setIfInBounds_toArray, List.set_cons_zero, List.set_cons_succ]
    refine tkq 9 (some 36) (v := ?_) rfl (Or.inl ⟨by rfl, ?_⟩) (by assumption) ?_
    rotate_left
    · intro w hSw; (try dsimp only at hSw); have hnn' : 0 < n := (by omega); have h5' : 0 < c4 := (by omega); go_simp; first | done | (with_reducible rfl)
    simp only [Act.put, List.setIfInBounds_toArray, List.set_cons_zero, List.set_cons_succ]
    refine wpAnyH_ready (rs := [10]) (by kernel_rfl) (by simp) ?_
    refine AllReadyH.cons rfl (fun K hK => ?_) AllReadyH.nil
    have HV2 := HV.out
    obtain ⟨_, hgl5, hbg5, hfz⟩ := own_cell ho4 HL.out 0 x0 HX.out
    have hO3 := (own_set ho4 HL.out (by omega) 0 V hVb).cast HF.out.symm
    have hB3 := hb4.setCell (p := ⟨g, 0, none⟩) hgb (.int .u8 V)
    have hz5 := (show (Y4.setCell ⟨g, 0, none⟩ (.int .u8 V)).cell? ⟨bm, om, none⟩ = some (.int .u8 z0) by rw [((Kept.refl (· = g) Y4).setAt 0 (.int .u8 V)).cell (p := ⟨bm, om, none⟩) (cell_lt hcz4) (by show ¬ bm = g; omega)]; exact hcz4)
    have HS := Lib.hid (And.intro hO3 hB3)
    have HS2 := Lib.hid hz5
    clear ho4 hb4 hO3 hB3 hz5
    go_simp
    go_wp2_with (fail)
    refine hK.out _ _ (HS2.out) (fun hHeld => ?_)
    clear hK K
    refine wpAnyH_done (by kernel_rfl) ?_ _
    obtain ⟨W6, hW6⟩ : ∃ x, Y4.setCell ⟨g, 0, none⟩ (.int .u8 V) = x := ⟨_, rfl⟩
    have HS1 := HS.out
    rw [hW6] at HS1 ⊢
    have hmr := HS2.out
    clear HS HS2 hW6 hHeld hmr
    have hf0 : W6.cell? ⟨g, 0, none⟩ = some (.int .u8 (F.getD 0 0)) := (own_cell HS1.1 HFL.out 0 _ (by rw [List.getD_eq_getElem?_getD, List.getElem?_eq_getElem (by have := HFL.out; omega)]; rfl)).1
    have hfb := hFb.getD 0
    have hMC : ∀ j, j < 5 → ∀ W, Below W2.heap.size W2 W → W.cell? ⟨bm, om + j, none⟩ = some (.int .u8 (ms.getD j 0)) := fun j hj W hW => by rw [hW.cell (p := ⟨bm, om + j, none⟩) hbm]; exact hcm2 j hj
    have HMC := Lib.hid hMC
    have hI : Hid (Own W6 W2.heap.size 5 (.slice (some ⟨g, 0, none⟩) n c4) (turnL F ms a 0) ∧ Below W2.heap.size W2 W6) := Lib.hid ⟨HS1.1.cast (turnL_zero F ms a).symm, HS1.2⟩
    clear HS1 hMC hcm2
    rw [HFH.out] at hf0 hfb
    have hand3 := b_and3 f hfb.1 hfb.2
    by_cases hk0 : k = 0
    · subst hk0
      have hkf := HKZ.out rfl
      have hkW : IntKind.i64.wrap (f % 4 + 1) = (kk : Int) := by rw [hkf]; exact IntWalk.i64_in _ (by omega)
      clear hkf
      go_wp2_with fail
      go_loopw [13] (fun i wr => ∃ q : Nat, q ≤ kk ∧ i = .int .i64 q ∧ Hid (Own wr W2.heap.size 5 (.slice (some ⟨g, 0, none⟩) n c4) (turnL F ms a q) ∧ Below W2.heap.size W2 wr)) (fun i _ => kk - (intOf i).toNat)
      case atStart => exact ⟨0, Nat.zero_le _, rfl, hI⟩
      case round =>
        obtain ⟨q, hq, rfl, hst⟩ := hrel
        obtain ⟨wo, rfl⟩ : ∃ wo : World, wo = wr := ⟨_, rfl⟩
        have hO := hst.out.1
        have hBq := hst.out.2
        clear hst hI
        by_cases hlt : q < kk
        · have hTl : (turnL F ms a q).length = n := by rw [turnL_len, HFL.out]
          obtain ⟨y, hy⟩ : ∃ y, F.getD (a + q) 0 = y := ⟨_, rfl⟩
          have hnx := turnL_next F ms a q (by rw [HFL.out]; omega)
          rw [hy] at hnx
          obtain ⟨z, hz⟩ : ∃ z, ms.getD (1 + q) 0 = z := ⟨_, rfl⟩
          have hcz := HMC.out (1 + q) (by omega) wo hBq
          have hset := turnL_set F ms a q (bits BinOp.xor IntKind.u8 y z) (by rw [HFL.out]; omega) (by rw [hy, hz]; rfl)
          rw [hz] at hcz
          obtain ⟨Uv, hU⟩ : ∃ u, bits BinOp.xor IntKind.u8 y z = u := ⟨_, rfl⟩
          have hUb := (show 0 ≤ Uv ∧ Uv < 256 by rw [← hU]; exact u8_bits_bd _ _ _)
          rw [hU] at hset
          have HUV := Lib.hid hU
          have HNX := Lib.hid hnx
          have HST := Lib.hid hset
          have HNL := Lib.hid hTl
          obtain ⟨r, hr⟩ : ∃ r, a + q = r := ⟨_, rfl⟩
          have hr1 := (show r < n by omega)
          have hr1I := (show (r : Int) < (n : Int) by omega)
          obtain ⟨t, ht⟩ : ∃ t, 1 + q = t := ⟨_, rfl⟩
          have ht1 := (show t < 5 by omega)
          have ht1I := (show (t : Int) < 5 by omega)
          have htc := (show t < c2 by omega)
          have hrc4 := (show r < c4 by omega)
          rw [hr] at HNX HST
          rw [ht] at hcz
          have hp5 : IntKind.i64.wrap ((a : Int) + (q : Int)) = (r : Int) := by rw [show (a : Int) + (q : Int) = (r : Int) by omega]; exact IntWalk.i64_in _ (by omega)
          have hp6 : IntKind.i64.wrap (1 + (q : Int)) = (t : Int) := by rw [show 1 + (q : Int) = (t : Int) by omega]; exact IntWalk.i64_in _ (by omega)
          clear hy hz hset hnx hTl hU hr ht
          go_wp2_with fail
          obtain ⟨Y5, hY5⟩ : ∃ x, wo.drew = x := ⟨_, rfl⟩
          have hO := hO.drew
          have hBq : Below W2.heap.size W2 wo.drew := belowN hBq 1
          have hcz := (show wo.drew.cell? ⟨bm, om + t, none⟩ = some (.int .u8 z) from hcz)
          rw [hY5] at hO hBq hcz
          obtain ⟨hcr, hgl7, hbg7, hfz7⟩ := own_cell hO HNL.out r y HNX.out
          refine wp_region_held_drew (S := (fun W => W.cell? ⟨bm, om + t, none⟩ = some (.int .u8 z))) (by kernel_rfl) (by rw [hY5]; exact hcz) (fun hHeld => ?_)
          rw [hY5] at hHeld ⊢
          clear hY5
          refine tkq 0 (some 60) (v := ?_) rfl (Or.inl ⟨by rfl, ?_⟩) (by assumption) ?_
          rotate_left
          · intro w hSw; (try dsimp only at hSw); go_simp; first | done | (with_reducible rfl)
          simp only [Act.put, List.setIfInBounds_toArray, List.set_cons_zero, List.set_cons_succ]
          refine tkq 1 (some 61) (v := ?_) rfl (Or.inl ⟨by rfl, ?_⟩) (by assumption) ?_
          rotate_left
          · intro w hSw; (try dsimp only at hSw); go_simp; first | done | (with_reducible rfl)
          simp only [Act.put, List.setIfInBounds_toArray, List.set_cons_zero, List.set_cons_succ]
          refine tkq 2 (some 62) (v := ?_) rfl (Or.inl ⟨by rfl, ?_⟩) (by assumption) ?_
          rotate_left
          · intro w hSw; (try dsimp only at hSw); go_simp; first | done | (with_reducible rfl)
          simp only [Act.put, List.setIfInBounds_toArray, List.set_cons_zero, List.set_cons_succ]
          refine tkq 3 (some 63) (v := ?_) rfl (Or.inl ⟨by rfl, ?_⟩) (by assumption) ?_
          rotate_left
          · intro w hSw; (try dsimp only at hSw); go_simp; first | done | (with_reducible rfl)
          simp only [Act.put, List.setIfInBounds_toArray, List.set_cons_zero, List.set_cons_succ]
          refine tkq 4 (some 64) (v := ?_) rfl (Or.inl ⟨by rfl, ?_⟩) (by assumption) ?_
          rotate_left
          · intro w hSw; (try dsimp only at hSw); go_simp; first | done | (with_reducible rfl)
          simp only [Act.put, List.setIfInBounds_toArray, List.set_cons_zero, List.set_cons_succ]
          refine tkq 5 (some 65) (v := ?_) rfl (Or.inl ⟨by rfl, ?_⟩) (by assumption) ?_
          rotate_left
          · intro w hSw; (try dsimp only at hSw); go_simp; first | done | (with_reducible rfl)
          simp only [Act.put, List.setIfInBounds_toArray, List.set_cons_zero, List.set_cons_succ]
          refine tkq 6 (some 66) (v := ?_) rfl (Or.inl ⟨by rfl, ?_⟩) (by assumption) ?_
          rotate_left
          · intro w hSw; (try dsimp only at hSw); go_simp; first | done | (with_reducible rfl)
          simp only [Act.put, List.setIfInBounds_toArray, List.set_cons_zero, List.set_cons_succ]
          refine tkq 7 (some 67) (v := ?_) rfl (Or.inl ⟨by rfl, ?_⟩) (by assumption) ?_
          rotate_left
          · intro w hSw; (try dsimp only at hSw); go_simp; first | done | (with_reducible rfl)
          simp only [Act.put, List.setIfInBounds_toArray, List.set_cons_zero, List.set_cons_succ]
          refine tkq 8 (some 68) (v := ?_) rfl (Or.inl ⟨by rfl, ?_⟩) (by assumption) ?_
          rotate_left
          · intro w hSw; (try dsimp only at hSw); go_simp; first | done | (with_reducible rfl)
          simp only [Act.put, List.setIfInBounds_toArray, List.set_cons_zero, List.set_cons_succ]
          refine tkq 10 (some 70) (v := ?_) rfl (Or.inl ⟨by rfl, ?_⟩) (by assumption) ?_
          rotate_left
          · intro w hSw; (try dsimp only at hSw); go_simp; first | done | (with_reducible rfl)
          simp only [Act.put, List.setIfInBounds_toArray, List.set_cons_zero, List.set_cons_succ]
          refine tkq 11 (some 71) (v := ?_) rfl (Or.inl ⟨by rfl, ?_⟩) (by assumption) ?_
          rotate_left
          · intro w hSw; (try dsimp only at hSw); go_simp; first | done | (with_reducible rfl)
          simp only [Act.put, List.setIfInBounds_toArray, List.set_cons_zero, List.set_cons_succ]
          refine tkq 12 (some 72) (v := ?_) rfl (Or.inl ⟨by rfl, ?_⟩) (by assumption) ?_
          rotate_left
          · intro w hSw; (try dsimp only at hSw); go_simp; first | done | (with_reducible rfl)
          simp only [Act.put, List.setIfInBounds_toArray, List.set_cons_zero, List.set_cons_succ]
          refine tkq 13 (some 73) (v := ?_) rfl (Or.inl ⟨by rfl, ?_⟩) (by assumption) ?_
          rotate_left
          · intro w hSw; (try dsimp only at hSw); have hh1 := hSw; go_simp; first | done | (with_reducible rfl)
          simp only [Act.put, List.setIfInBounds_toArray, List.set_cons_zero, List.set_cons_succ]
          refine tkq 14 (some 74) (v := ?_) rfl (Or.inl ⟨by rfl, ?_⟩) (by assumption) ?_
          rotate_left
          · intro w hSw; (try dsimp only at hSw); have hh1 := hSw; go_simp; first | done | (with_reducible rfl)
          simp only [Act.put, List.setIfInBounds_toArray, List.set_cons_zero, List.set_cons_succ]
          refine wpAnyH_ready (rs := [9]) (by kernel_rfl) (by simp) ?_
          refine AllReadyH.cons rfl (fun K hK => ?_) AllReadyH.nil
          go_simp
          go_wp2_with (fail)
          refine hK.out _ _ (hcz) (fun hHeld => ?_)
          clear hK K
          refine tkq 15 (some 75) (v := ?_) rfl (Or.inl ⟨by rfl, ?_⟩) (by assumption) ?_
          rotate_left
          · intro w hSw; (try dsimp only at hSw); go_simp; first | done | (with_reducible rfl)
          simp only [Act.put, List.setIfInBounds_toArray, List.set_cons_zero, List.set_cons_succ]
          refine tkq 16 (some 76) (v := ?_) rfl (Or.inl ⟨by rfl, ?_⟩) (by assumption) ?_
          rotate_left
          · intro w hSw; (try dsimp only at hSw); go_simp; first | done | (with_reducible rfl)
          simp only [Act.put, List.setIfInBounds_toArray, List.set_cons_zero, List.set_cons_succ]
          refine wpAnyH_ready (rs := [17]) (by kernel_rfl) (by simp) ?_
          refine AllReadyH.cons rfl (fun K hK => ?_) AllReadyH.nil
          have HV2 := HUV.out
          have hO3 := (own_set hO HNL.out (by omega) r Uv hUb).cast HST.out
          have hB3 := hBq.setCell (p := ⟨g, r, none⟩) hbg7 (.int .u8 Uv)
          have hz5 := (show (Y5.setCell ⟨g, r, none⟩ (.int .u8 Uv)).cell? ⟨bm, om + t, none⟩ = some (.int .u8 z) by rw [((Kept.refl (· = g) Y5).setAt r (.int .u8 Uv)).cell (p := ⟨bm, om + t, none⟩) (cell_lt hcz) (by show ¬ bm = g; omega)]; exact hcz)
          have HS := Lib.hid (And.intro hO3 hB3)
          have HS2 := Lib.hid hz5
          clear hO hBq hO3 hB3 hz5
          go_simp
          go_wp2_with (fail)
          refine hK.out _ _ (HS2.out) (fun hHeld => ?_)
          clear hK K
          refine wpAnyH_done (by kernel_rfl) ?_ _
          go_wp2_with fail
          go_roundw
          case rel => exact ⟨q + 1, by omega, by go_num, HS⟩
          case measure => simp [intOf]; omega
        · obtain rfl : q = kk := by omega
          go_wp2_with fail
          go_ret
          exact ⟨_, rfl, hO.base_ (by have := HB3.out.size; omega), HB3.out.trans (hBq.mono HB3.out.size)⟩
    · obtain rfl := HKN.out hk0
      have hkd : decide ((k : Int) = 0) = false := by simp; omega
      go_wp2_with fail
      go_loopw [13] (fun i wr => ∃ q : Nat, q ≤ k ∧ i = .int .i64 q ∧ Hid (Own wr W2.heap.size 5 (.slice (some ⟨g, 0, none⟩) n c4) (turnL F ms a q) ∧ Below W2.heap.size W2 wr)) (fun i _ => k - (intOf i).toNat)
      case atStart => exact ⟨0, Nat.zero_le _, rfl, hI⟩
      case round =>
        obtain ⟨q, hq, rfl, hst⟩ := hrel
        obtain ⟨wo, rfl⟩ : ∃ wo : World, wo = wr := ⟨_, rfl⟩
        have hO := hst.out.1
        have hBq := hst.out.2
        clear hst hI
        by_cases hlt : q < k
        · have hTl : (turnL F ms a q).length = n := by rw [turnL_len, HFL.out]
          obtain ⟨y, hy⟩ : ∃ y, F.getD (a + q) 0 = y := ⟨_, rfl⟩
          have hnx := turnL_next F ms a q (by rw [HFL.out]; omega)
          rw [hy] at hnx
          obtain ⟨z, hz⟩ : ∃ z, ms.getD (1 + q) 0 = z := ⟨_, rfl⟩
          have hcz := HMC.out (1 + q) (by omega) wo hBq
          have hset := turnL_set F ms a q (bits BinOp.xor IntKind.u8 y z) (by rw [HFL.out]; omega) (by rw [hy, hz]; rfl)
          rw [hz] at hcz
          obtain ⟨Uv, hU⟩ : ∃ u, bits BinOp.xor IntKind.u8 y z = u := ⟨_, rfl⟩
          have hUb := (show 0 ≤ Uv ∧ Uv < 256 by rw [← hU]; exact u8_bits_bd _ _ _)
          rw [hU] at hset
          have HUV := Lib.hid hU
          have HNX := Lib.hid hnx
          have HST := Lib.hid hset
          have HNL := Lib.hid hTl
          obtain ⟨r, hr⟩ : ∃ r, a + q = r := ⟨_, rfl⟩
          have hr1 := (show r < n by omega)
          have hr1I := (show (r : Int) < (n : Int) by omega)
          obtain ⟨t, ht⟩ : ∃ t, 1 + q = t := ⟨_, rfl⟩
          have ht1 := (show t < 5 by omega)
          have ht1I := (show (t : Int) < 5 by omega)
          have htc := (show t < c2 by omega)
          have hrc4 := (show r < c4 by omega)
          rw [hr] at HNX HST
          rw [ht] at hcz
          have hp5 : IntKind.i64.wrap ((a : Int) + (q : Int)) = (r : Int) := by rw [show (a : Int) + (q : Int) = (r : Int) by omega]; exact IntWalk.i64_in _ (by omega)
          have hp6 : IntKind.i64.wrap (1 + (q : Int)) = (t : Int) := by rw [show 1 + (q : Int) = (t : Int) by omega]; exact IntWalk.i64_in _ (by omega)
          clear hy hz hset hnx hTl hU hr ht
          go_wp2_with fail
          obtain ⟨Y5, hY5⟩ : ∃ x, wo.drew = x := ⟨_, rfl⟩
          have hO := hO.drew
          have hBq : Below W2.heap.size W2 wo.drew := belowN hBq 1
          have hcz := (show wo.drew.cell? ⟨bm, om + t, none⟩ = some (.int .u8 z) from hcz)
          rw [hY5] at hO hBq hcz
          obtain ⟨hcr, hgl7, hbg7, hfz7⟩ := own_cell hO HNL.out r y HNX.out
          refine wp_region_held_drew (S := (fun W => W.cell? ⟨bm, om + t, none⟩ = some (.int .u8 z))) (by kernel_rfl) (by rw [hY5]; exact hcz) (fun hHeld => ?_)
          rw [hY5] at hHeld ⊢
          clear hY5
          refine tkq 0 (some 60) (v := ?_) rfl (Or.inl ⟨by rfl, ?_⟩) (by assumption) ?_
          rotate_left
          · intro w hSw; (try dsimp only at hSw); go_simp; first | done | (with_reducible rfl)
          simp only [Act.put, List.setIfInBounds_toArray, List.set_cons_zero, List.set_cons_succ]
          refine tkq 1 (some 61) (v := ?_) rfl (Or.inl ⟨by rfl, ?_⟩) (by assumption) ?_
          rotate_left
          · intro w hSw; (try dsimp only at hSw); go_simp; first | done | (with_reducible rfl)
          simp only [Act.put, List.setIfInBounds_toArray, List.set_cons_zero, List.set_cons_succ]
          refine tkq 2 (some 62) (v := ?_) rfl (Or.inl ⟨by rfl, ?_⟩) (by assumption) ?_
          rotate_left
          · intro w hSw; (try dsimp only at hSw); go_simp; first | done | (with_reducible rfl)
          simp only [Act.put, List.setIfInBounds_toArray, List.set_cons_zero, List.set_cons_succ]
          refine tkq 3 (some 63) (v := ?_) rfl (Or.inl ⟨by rfl, ?_⟩) (by assumption) ?_
          rotate_left
          · intro w hSw; (try dsimp only at hSw); go_simp; first | done | (with_reducible rfl)
          simp only [Act.put, List.setIfInBounds_toArray, List.set_cons_zero, List.set_cons_succ]
          refine tkq 4 (some 64) (v := ?_) rfl (Or.inl ⟨by rfl, ?_⟩) (by assumption) ?_
          rotate_left
          · intro w hSw; (try dsimp only at hSw); go_simp; first | done | (with_reducible rfl)
          simp only [Act.put, List.setIfInBounds_toArray, List.set_cons_zero, List.set_cons_succ]
          refine tkq 5 (some 65) (v := ?_) rfl (Or.inl ⟨by rfl, ?_⟩) (by assumption) ?_
          rotate_left
          · intro w hSw; (try dsimp only at hSw); go_simp; first | done | (with_reducible rfl)
          simp only [Act.put, List.setIfInBounds_toArray, List.set_cons_zero, List.set_cons_succ]
          refine tkq 6 (some 66) (v := ?_) rfl (Or.inl ⟨by rfl, ?_⟩) (by assumption) ?_
          rotate_left
          · intro w hSw; (try dsimp only at hSw); go_simp; first | done | (with_reducible rfl)
          simp only [Act.put, List.setIfInBounds_toArray, List.set_cons_zero, List.set_cons_succ]
          refine tkq 7 (some 67) (v := ?_) rfl (Or.inl ⟨by rfl, ?_⟩) (by assumption) ?_
          rotate_left
          · intro w hSw; (try dsimp only at hSw); go_simp; first | done | (with_reducible rfl)
          simp only [Act.put, List.setIfInBounds_toArray, List.set_cons_zero, List.set_cons_succ]
          refine tkq 8 (some 68) (v := ?_) rfl (Or.inl ⟨by rfl, ?_⟩) (by assumption) ?_
          rotate_left
          · intro w hSw; (try dsimp only at hSw); go_simp; first | done | (with_reducible rfl)
          simp only [Act.put, List.setIfInBounds_toArray, List.set_cons_zero, List.set_cons_succ]
          refine tkq 10 (some 70) (v := ?_) rfl (Or.inl ⟨by rfl, ?_⟩) (by assumption) ?_
          rotate_left
          · intro w hSw; (try dsimp only at hSw); go_simp; first | done | (with_reducible rfl)
          simp only [Act.put, List.setIfInBounds_toArray, List.set_cons_zero, List.set_cons_succ]
          refine tkq 11 (some 71) (v := ?_) rfl (Or.inl ⟨by rfl, ?_⟩) (by assumption) ?_
          rotate_left
          · intro w hSw; (try dsimp only at hSw); go_simp; first | done | (with_reducible rfl)
          simp only [Act.put, List.setIfInBounds_toArray, List.set_cons_zero, List.set_cons_succ]
          refine tkq 12 (some 72) (v := ?_) rfl (Or.inl ⟨by rfl, ?_⟩) (by assumption) ?_
          rotate_left
          · intro w hSw; (try dsimp only at hSw); go_simp; first | done | (with_reducible rfl)
          simp only [Act.put, List.setIfInBounds_toArray, List.set_cons_zero, List.set_cons_succ]
          refine tkq 13 (some 73) (v := ?_) rfl (Or.inl ⟨by rfl, ?_⟩) (by assumption) ?_
          rotate_left
          · intro w hSw; (try dsimp only at hSw); have hh1 := hSw; go_simp; first | done | (with_reducible rfl)
          simp only [Act.put, List.setIfInBounds_toArray, List.set_cons_zero, List.set_cons_succ]
          refine tkq 14 (some 74) (v := ?_) rfl (Or.inl ⟨by rfl, ?_⟩) (by assumption) ?_
          rotate_left
          · intro w hSw; (try dsimp only at hSw); have hh1 := hSw; go_simp; first | done | (with_reducible rfl)
          simp only [Act.put, List.setIfInBounds_toArray, List.set_cons_zero, List.set_cons_succ]
          refine wpAnyH_ready (rs := [9]) (by kernel_rfl) (by simp) ?_
          refine AllReadyH.cons rfl (fun K hK => ?_) AllReadyH.nil
          go_simp
          go_wp2_with (fail)
          refine hK.out _ _ (hcz) (fun hHeld => ?_)
          clear hK K
          refine tkq 15 (some 75) (v := ?_) rfl (Or.inl ⟨by rfl, ?_⟩) (by assumption) ?_
          rotate_left
          · intro w hSw; (try dsimp only at hSw); go_simp; first | done | (with_reducible rfl)
          simp only [Act.put, List.setIfInBounds_toArray, List.set_cons_zero, List.set_cons_succ]
          refine tkq 16 (some 76) (v := ?_) rfl (Or.inl ⟨by rfl, ?_⟩) (by assumption) ?_
          rotate_left
          · intro w hSw; (try dsimp only at hSw); go_simp; first | done | (with_reducible rfl)
          simp only [Act.put, List.setIfInBounds_toArray, List.set_cons_zero, List.set_cons_succ]
          refine wpAnyH_ready (rs := [17]) (by kernel_rfl) (by simp) ?_
          refine AllReadyH.cons rfl (fun K hK => ?_) AllReadyH.nil
          have HV2 := HUV.out
          have hO3 := (own_set hO HNL.out (by omega) r Uv hUb).cast HST.out
          have hB3 := hBq.setCell (p := ⟨g, r, none⟩) hbg7 (.int .u8 Uv)
          have hz5 := (show (Y5.setCell ⟨g, r, none⟩ (.int .u8 Uv)).cell? ⟨bm, om + t, none⟩ = some (.int .u8 z) by rw [((Kept.refl (· = g) Y5).setAt r (.int .u8 Uv)).cell (p := ⟨bm, om + t, none⟩) (cell_lt hcz) (by show ¬ bm = g; omega)]; exact hcz)
          have HS := Lib.hid (And.intro hO3 hB3)
          have HS2 := Lib.hid hz5
          clear hO hBq hO3 hB3 hz5
          go_simp
          go_wp2_with (fail)
          refine hK.out _ _ (HS2.out) (fun hHeld => ?_)
          clear hK K
          refine wpAnyH_done (by kernel_rfl) ?_ _
          go_wp2_with fail
          go_roundw
          case rel => exact ⟨q + 1, by omega, by go_num, HS⟩
          case measure => simp [intOf]; omega
        · obtain rfl : q = k := by omega
          go_wp2_with fail
          go_ret
          exact ⟨_, rfl, hO.base_ (by have := HB3.out.size; omega), HB3.out.trans (hBq.mono HB3.out.size)⟩
  | false =>
    have hmb : maskB false = 31 := rfl
    rw [hmb] at hF
    obtain ⟨V, hV⟩ : ∃ v, bits BinOp.xor IntKind.u8 x0 (bits BinOp.and IntKind.u8 z0 31) = v := ⟨_, rfl⟩
    have hVb : 0 ≤ V ∧ V < 256 := by rw [← hV]; exact u8_bits_bd _ _ _
    rw [hV] at hF
    have HV := Lib.hid hV
    have HF := Lib.hid hF
    clear hV hF hmb
    go_enter Try.func24, Try.ntmps24
    go_wp2_with fail
    have hc1d : w1.drew.cell? ⟨w.heap.size, 1, none⟩ = some (.int .u64 mk) := hc1
    obtain ⟨Y, hY⟩ : ∃ x, w1.drew = x := ⟨_, rfl⟩
    have hb0d : Below w.heap.size w w1.drew := belowN hb0 1
    have hr1d := hr1.drew
    have hrc1d := hrc1.drew
    have hsY : w1.drew.heap.size = w1.heap.size := rfl
    rw [hY] at hc1d hb0d hr1d hrc1d hsY
    rw [← hsY] at hr1d hrc1d
    have HR1 := Lib.hid hr1d
    have HRC := Lib.hid hrc1d
    clear hr1d hrc1d hsY
    refine wp_region_held_drew (S := (fun W => W.cell? ⟨w.heap.size, 1, none⟩ = some (.int .u64 mk))) (by kernel_rfl) (by rw [hY]; exact hc1d) (fun hHeld => ?_)
    rw [hY] at hHeld ⊢
    clear hY
    refine tkq 0 (some 14) (v := ?_) rfl (Or.inl ⟨by rfl, ?_⟩) (by assumption) ?_
    rotate_left
    · intro w hSw; (try dsimp only at hSw); go_simp; first | done | (with_reducible rfl)
    simp only [Act.put, List.setIfInBounds_toArray, List.set_cons_zero, List.set_cons_succ]
    refine tkq 1 (some 15) (v := ?_) rfl (Or.inl ⟨by rfl, ?_⟩) (by assumption) ?_
    rotate_left
    · intro w hSw; (try dsimp only at hSw); have hh1 := hSw; go_simp; first | done | (with_reducible rfl)
    simp only [Act.put, List.setIfInBounds_toArray, List.set_cons_zero, List.set_cons_succ]
    refine tkq 2 (some 16) (v := ?_) rfl (Or.inl ⟨by rfl, ?_⟩) (by assumption) ?_
    rotate_left
    · intro w hSw; (try dsimp only at hSw); go_simp; first | done | (with_reducible rfl)
    simp only [Act.put, List.setIfInBounds_toArray, List.set_cons_zero, List.set_cons_succ]
    refine tkq 3 (some 17) (v := ?_) rfl (Or.inl ⟨by rfl, ?_⟩) (by assumption) ?_
    rotate_left
    · intro w hSw; (try dsimp only at hSw); go_simp; first | done | (with_reducible rfl)
    simp only [Act.put, List.setIfInBounds_toArray, List.set_cons_zero, List.set_cons_succ]
    refine tkq 4 (some 18) (v := ?_) rfl (Or.inl ⟨by rfl, ?_⟩) (by assumption) ?_
    rotate_left
    · intro w hSw; (try dsimp only at hSw); go_simp; first | done | (with_reducible rfl)
    simp only [Act.put, List.setIfInBounds_toArray, List.set_cons_zero, List.set_cons_succ]
    refine tkq 5 (some 19) (v := ?_) rfl (Or.inl ⟨by rfl, ?_⟩) (by assumption) ?_
    rotate_left
    · intro w hSw; (try dsimp only at hSw); go_simp; first | done | (with_reducible rfl)
    simp only [Act.put, List.setIfInBounds_toArray, List.set_cons_zero, List.set_cons_succ]
    refine tkq 6 (some 20) (v := ?_) rfl (Or.inl ⟨by rfl, ?_⟩) (by assumption) ?_
    rotate_left
    · intro w hSw; (try dsimp only at hSw); go_simp; first | done | (with_reducible rfl)
    simp only [Act.put, List.setIfInBounds_toArray, List.set_cons_zero, List.set_cons_succ]
    refine tkq 7 (some 21) (v := ?_) rfl (Or.inl ⟨by rfl, ?_⟩) (by assumption) ?_
    rotate_left
    · intro w hSw; (try dsimp only at hSw); go_simp; first | done | (with_reducible rfl)
    simp only [Act.put, List.setIfInBounds_toArray, List.set_cons_zero, List.set_cons_succ]
    refine wpAnyH_ready (rs := [8]) (by kernel_rfl) (by simp) ?_
    refine AllReadyH.cons rfl (fun K hK => ?_) AllReadyH.nil
    go_simp
    go_wp2_with (go_at_call 48; refine (HM.out _ HRC.out).mono ?_; rintro e W2 ⟨A2, c2, rfl, e1, e2, e3, hb2⟩)
    refine hK.out _ _ (cell_below hc1d hb2) (fun hHeld => ?_)
    clear hK K
    refine tkq 9 (some 11) (v := ?_) rfl (Or.inl ⟨by rfl, ?_⟩) (by assumption) ?_
    rotate_left
    · intro w hSw; (try dsimp only at hSw); go_simp; first | done | (with_reducible rfl)
    simp only [Act.put, List.setIfInBounds_toArray, List.set_cons_zero, List.set_cons_succ]
    refine wpAnyH_done (by kernel_rfl) ?_ _
    have hr2 := (HR1.out.below hb2).more hb2.size
    have hb3 := hb0d.trans (hb2.mono hb0d.size)
    obtain ⟨bm, om, rfl, hbm, hcm2⟩ := e3.2.2 (by omega)
    have hs2 := hb3.size
    have hbE : Below W2.heap.size W2 (W2.alloc (.cells #[] 5 )) := (Below.refl _ _).alloc (Nat.le_refl _) _
    have hr3 := hr2.below hbE
    have HB3 := Lib.hid hb3
    clear hb0 hb0d hb2 HR1 HRC HM hc1 hc1d hr1 hrc1 hHeld e3 hr2
    go_wp2_with (first | (at_builtin; refine wpList_append_rd (by rfl) (.tmp 23) (.tmp 24) 28 rfl W2.heap.size 5 i0 Try.underlying28 hi hzA hzB hzC _ [] rfl (Own.of_block (n := 0) (cap := 0) Byt.nil rfl (heap_alloc_new W2 _) (Nat.le_refl _) (Nat.le_refl _) (Nat.zero_le _) rfl rfl) _ (some ⟨b, off, none⟩) n c bs rfl hr3 (by simp; omega) W2 hbE hbE.size ?_; intro v4 w4 ho4 hb4 hg4) | fail)
    have ho4 := ho4.cast (List.nil_append bs)
    obtain ⟨g, c4, _, rfl, _, _, _, hgb, x1, x2⟩ := ho4.place (by rw [HL.out]; omega)
    rw [HL.out] at ho4 x1 ⊢
    have hcz := (hcm2 0 (by omega))
    rw [Nat.add_zero, HZ.out] at hcz
    have hcz4 := (show w4.drew.cell? ⟨bm, om, none⟩ = some (.int .u8 z0) by show w4.cell? _ = _; rw [hb4.cell (p := ⟨bm, om, none⟩) hbm]; exact hcz)
    have hcb4 := (show w4.drew.cell? ⟨g, 0, none⟩ = some (.int .u8 x0) from (own_cell ho4 HL.out 0 x0 HX.out).1)
    have ho4 := ho4.drew
    have hb4 : Below W2.heap.size W2 w4.drew := belowN hb4 1
    obtain ⟨Y4, hY4⟩ : ∃ x, w4.drew = x := ⟨_, rfl⟩
    rw [hY4] at hcz4 hcb4 ho4 hb4
    clear hr3 hg4 hbE hcz
    refine wp_region_held_drew (S := (fun W => W.cell? ⟨bm, om, none⟩ = some (.int .u8 z0))) (by kernel_rfl) (by rw [hY4]; exact hcz4) (fun hHeld => ?_)
    rw [hY4] at hHeld ⊢
    clear hY4
    refine tkq 0 (some 37) (v := ?_) rfl (Or.inl ⟨by rfl, ?_⟩) (by assumption) ?_
    rotate_left
    · intro w hSw; (try dsimp only at hSw); go_simp; first | done | (with_reducible rfl)
    simp only [Act.put, List.setIfInBounds_toArray, List.set_cons_zero, List.set_cons_succ]
    refine tkq 1 (some 38) (v := ?_) rfl (Or.inl ⟨by rfl, ?_⟩) (by assumption) ?_
    rotate_left
    · intro w hSw; (try dsimp only at hSw); go_simp; first | done | (with_reducible rfl)
    simp only [Act.put, List.setIfInBounds_toArray, List.set_cons_zero, List.set_cons_succ]
    refine tkq 2 (some 39) (v := ?_) rfl (Or.inl ⟨by rfl, ?_⟩) (by assumption) ?_
    rotate_left
    · intro w hSw; (try dsimp only at hSw); have hnn' : 0 < n := (by omega); have h5' : 0 < c4 := (by omega); go_simp; first | done | (with_reducible rfl)
    simp only [Act.put, List.setIfInBounds_toArray, List.set_cons_zero, List.set_cons_succ]
    refine tkq 4 (some 41) (v := ?_) rfl (Or.inl ⟨by rfl, ?_⟩) (by assumption) ?_
    rotate_left
    · intro w hSw; (try dsimp only at hSw); go_simp; first | done | (with_reducible rfl)
    simp only [Act.put, List.setIfInBounds_toArray, List.set_cons_zero, List.set_cons_succ]
    refine tkq 5 (some 42) (v := ?_) rfl (Or.inl ⟨by rfl, ?_⟩) (by assumption) ?_
    rotate_left
    · intro w hSw; (try dsimp only at hSw); have hh1 := hSw; have h5' : 0 < c2 := (by omega); go_simp; first | done | (with_reducible rfl)
    simp only [Act.put, List.setIfInBounds_toArray, List.set_cons_zero, List.set_cons_succ]
    refine tkq 6 (some 43) (v := ?_) rfl (Or.inl ⟨by rfl, ?_⟩) (by assumption) ?_
    rotate_left
    · intro w hSw; (try dsimp only at hSw); have hh1 := hSw; have h5' : 0 < c2 := (by omega); go_simp; first | done | (with_reducible rfl)
    simp only [Act.put, List.setIfInBounds_toArray, List.set_cons_zero, List.set_cons_succ]
    refine tkq 7 (some 44) (v := ?_) rfl (Or.inl ⟨by rfl, ?_⟩) (by assumption) ?_
    rotate_left
    · intro w hSw; (try dsimp only at hSw); go_simp; first | done | (with_reducible rfl)
    simp only [Act.put, List.setIfInBounds_toArray, List.set_cons_zero, List.set_cons_succ]
    refine wpAnyH_ready (rs := [3]) (by kernel_rfl) (by simp) ?_
    refine AllReadyH.cons rfl (fun K hK => ?_) AllReadyH.nil
    have hnn' : 0 < n := (by omega)
    go_simp
    go_wp2_with (fail)
    refine hK.out _ _ (hcz4) (fun hHeld => ?_)
    clear hK K
    refine tkq 8 (some 45) (v := ?_) rfl (Or.inl ⟨by rfl, ?_⟩) (by assumption) ?_
    rotate_left
    · intro w hSw; (try dsimp only at hSw); go_simp; first | done | (with_reducible rfl)
    simp only [Act.put, List.setIfInBounds_toArray, List.set_cons_zero, List.set_cons_succ]
    refine tkq 9 (some 46) (v := ?_) rfl (Or.inl ⟨by rfl, ?_⟩) (by assumption) ?_
    rotate_left
    · intro w hSw; (try dsimp only at hSw); have hnn' : 0 < n := (by omega); have h5' : 0 < c4 := (by omega); go_simp; first | done | (with_reducible rfl)
    simp only [Act.put, List.setIfInBounds_toArray, List.set_cons_zero, List.set_cons_succ]
    refine wpAnyH_ready (rs := [10]) (by kernel_rfl) (by simp) ?_
    refine AllReadyH.cons rfl (fun K hK => ?_) AllReadyH.nil
    have HV2 := HV.out
    obtain ⟨_, hgl5, hbg5, hfz⟩ := own_cell ho4 HL.out 0 x0 HX.out
    have hO3 := (own_set ho4 HL.out (by omega) 0 V hVb).cast HF.out.symm
    have hB3 := hb4.setCell (p := ⟨g, 0, none⟩) hgb (.int .u8 V)
    have hz5 := (show (Y4.setCell ⟨g, 0, none⟩ (.int .u8 V)).cell? ⟨bm, om, none⟩ = some (.int .u8 z0) by rw [((Kept.refl (· = g) Y4).setAt 0 (.int .u8 V)).cell (p := ⟨bm, om, none⟩) (cell_lt hcz4) (by show ¬ bm = g; omega)]; exact hcz4)
    have HS := Lib.hid (And.intro hO3 hB3)
    have HS2 := Lib.hid hz5
    clear ho4 hb4 hO3 hB3 hz5
    go_simp
    go_wp2_with (fail)
    refine hK.out _ _ (HS2.out) (fun hHeld => ?_)
    clear hK K
    refine wpAnyH_done (by kernel_rfl) ?_ _
    obtain ⟨W6, hW6⟩ : ∃ x, Y4.setCell ⟨g, 0, none⟩ (.int .u8 V) = x := ⟨_, rfl⟩
    have HS1 := HS.out
    rw [hW6] at HS1 ⊢
    have hmr := HS2.out
    clear HS HS2 hW6 hHeld hmr
    have hf0 : W6.cell? ⟨g, 0, none⟩ = some (.int .u8 (F.getD 0 0)) := (own_cell HS1.1 HFL.out 0 _ (by rw [List.getD_eq_getElem?_getD, List.getElem?_eq_getElem (by have := HFL.out; omega)]; rfl)).1
    have hfb := hFb.getD 0
    have hMC : ∀ j, j < 5 → ∀ W, Below W2.heap.size W2 W → W.cell? ⟨bm, om + j, none⟩ = some (.int .u8 (ms.getD j 0)) := fun j hj W hW => by rw [hW.cell (p := ⟨bm, om + j, none⟩) hbm]; exact hcm2 j hj
    have HMC := Lib.hid hMC
    have hI : Hid (Own W6 W2.heap.size 5 (.slice (some ⟨g, 0, none⟩) n c4) (turnL F ms a 0) ∧ Below W2.heap.size W2 W6) := Lib.hid ⟨HS1.1.cast (turnL_zero F ms a).symm, HS1.2⟩
    clear HS1 hMC hcm2
    rw [HFH.out] at hf0 hfb
    have hand3 := b_and3 f hfb.1 hfb.2
    by_cases hk0 : k = 0
    · subst hk0
      have hkf := HKZ.out rfl
      have hkW : IntKind.i64.wrap (f % 4 + 1) = (kk : Int) := by rw [hkf]; exact IntWalk.i64_in _ (by omega)
      clear hkf
      go_wp2_with fail
      go_loopw [13] (fun i wr => ∃ q : Nat, q ≤ kk ∧ i = .int .i64 q ∧ Hid (Own wr W2.heap.size 5 (.slice (some ⟨g, 0, none⟩) n c4) (turnL F ms a q) ∧ Below W2.heap.size W2 wr)) (fun i _ => kk - (intOf i).toNat)
      case atStart => exact ⟨0, Nat.zero_le _, rfl, hI⟩
      case round =>
        obtain ⟨q, hq, rfl, hst⟩ := hrel
        obtain ⟨wo, rfl⟩ : ∃ wo : World, wo = wr := ⟨_, rfl⟩
        have hO := hst.out.1
        have hBq := hst.out.2
        clear hst hI
        by_cases hlt : q < kk
        · have hTl : (turnL F ms a q).length = n := by rw [turnL_len, HFL.out]
          obtain ⟨y, hy⟩ : ∃ y, F.getD (a + q) 0 = y := ⟨_, rfl⟩
          have hnx := turnL_next F ms a q (by rw [HFL.out]; omega)
          rw [hy] at hnx
          obtain ⟨z, hz⟩ : ∃ z, ms.getD (1 + q) 0 = z := ⟨_, rfl⟩
          have hcz := HMC.out (1 + q) (by omega) wo hBq
          have hset := turnL_set F ms a q (bits BinOp.xor IntKind.u8 y z) (by rw [HFL.out]; omega) (by rw [hy, hz]; rfl)
          rw [hz] at hcz
          obtain ⟨Uv, hU⟩ : ∃ u, bits BinOp.xor IntKind.u8 y z = u := ⟨_, rfl⟩
          have hUb := (show 0 ≤ Uv ∧ Uv < 256 by rw [← hU]; exact u8_bits_bd _ _ _)
          rw [hU] at hset
          have HUV := Lib.hid hU
          have HNX := Lib.hid hnx
          have HST := Lib.hid hset
          have HNL := Lib.hid hTl
          obtain ⟨r, hr⟩ : ∃ r, a + q = r := ⟨_, rfl⟩
          have hr1 := (show r < n by omega)
          have hr1I := (show (r : Int) < (n : Int) by omega)
          obtain ⟨t, ht⟩ : ∃ t, 1 + q = t := ⟨_, rfl⟩
          have ht1 := (show t < 5 by omega)
          have ht1I := (show (t : Int) < 5 by omega)
          have htc := (show t < c2 by omega)
          have hrc4 := (show r < c4 by omega)
          rw [hr] at HNX HST
          rw [ht] at hcz
          have hp5 : IntKind.i64.wrap ((a : Int) + (q : Int)) = (r : Int) := by rw [show (a : Int) + (q : Int) = (r : Int) by omega]; exact IntWalk.i64_in _ (by omega)
          have hp6 : IntKind.i64.wrap (1 + (q : Int)) = (t : Int) := by rw [show 1 + (q : Int) = (t : Int) by omega]; exact IntWalk.i64_in _ (by omega)
          clear hy hz hset hnx hTl hU hr ht
          go_wp2_with fail
          obtain ⟨Y5, hY5⟩ : ∃ x, wo.drew = x := ⟨_, rfl⟩
          have hO := hO.drew
          have hBq : Below W2.heap.size W2 wo.drew := belowN hBq 1
          have hcz := (show wo.drew.cell? ⟨bm, om + t, none⟩ = some (.int .u8 z) from hcz)
          rw [hY5] at hO hBq hcz
          obtain ⟨hcr, hgl7, hbg7, hfz7⟩ := own_cell hO HNL.out r y HNX.out
          refine wp_region_held_drew (S := (fun W => W.cell? ⟨bm, om + t, none⟩ = some (.int .u8 z))) (by kernel_rfl) (by rw [hY5]; exact hcz) (fun hHeld => ?_)
          rw [hY5] at hHeld ⊢
          clear hY5
          refine tkq 0 (some 60) (v := ?_) rfl (Or.inl ⟨by rfl, ?_⟩) (by assumption) ?_
          rotate_left
          · intro w hSw; (try dsimp only at hSw); go_simp; first | done | (with_reducible rfl)
          simp only [Act.put, List.setIfInBounds_toArray, List.set_cons_zero, List.set_cons_succ]
          refine tkq 1 (some 61) (v := ?_) rfl (Or.inl ⟨by rfl, ?_⟩) (by assumption) ?_
          rotate_left
          · intro w hSw; (try dsimp only at hSw); go_simp; first | done | (with_reducible rfl)
          simp only [Act.put, List.setIfInBounds_toArray, List.set_cons_zero, List.set_cons_succ]
          refine tkq 2 (some 62) (v := ?_) rfl (Or.inl ⟨by rfl, ?_⟩) (by assumption) ?_
          rotate_left
          · intro w hSw; (try dsimp only at hSw); go_simp; first | done | (with_reducible rfl)
          simp only [Act.put, List.setIfInBounds_toArray, List.set_cons_zero, List.set_cons_succ]
          refine tkq 3 (some 63) (v := ?_) rfl (Or.inl ⟨by rfl, ?_⟩) (by assumption) ?_
          rotate_left
          · intro w hSw; (try dsimp only at hSw); go_simp; first | done | (with_reducible rfl)
          simp only [Act.put, List.setIfInBounds_toArray, List.set_cons_zero, List.set_cons_succ]
          refine tkq 4 (some 64) (v := ?_) rfl (Or.inl ⟨by rfl, ?_⟩) (by assumption) ?_
          rotate_left
          · intro w hSw; (try dsimp only at hSw); go_simp; first | done | (with_reducible rfl)
          simp only [Act.put, List.setIfInBounds_toArray, List.set_cons_zero, List.set_cons_succ]
          refine tkq 5 (some 65) (v := ?_) rfl (Or.inl ⟨by rfl, ?_⟩) (by assumption) ?_
          rotate_left
          · intro w hSw; (try dsimp only at hSw); go_simp; first | done | (with_reducible rfl)
          simp only [Act.put, List.setIfInBounds_toArray, List.set_cons_zero, List.set_cons_succ]
          refine tkq 6 (some 66) (v := ?_) rfl (Or.inl ⟨by rfl, ?_⟩) (by assumption) ?_
          rotate_left
          · intro w hSw; (try dsimp only at hSw); go_simp; first | done | (with_reducible rfl)
          simp only [Act.put, List.setIfInBounds_toArray, List.set_cons_zero, List.set_cons_succ]
          refine tkq 7 (some 67) (v := ?_) rfl (Or.inl ⟨by rfl, ?_⟩) (by assumption) ?_
          rotate_left
          · intro w hSw; (try dsimp only at hSw); go_simp; first | done | (with_reducible rfl)
          simp only [Act.put, List.setIfInBounds_toArray, List.set_cons_zero, List.set_cons_succ]
          refine tkq 8 (some 68) (v := ?_) rfl (Or.inl ⟨by rfl, ?_⟩) (by assumption) ?_
          rotate_left
          · intro w hSw; (try dsimp only at hSw); go_simp; first | done | (with_reducible rfl)
          simp only [Act.put, List.setIfInBounds_toArray, List.set_cons_zero, List.set_cons_succ]
          refine tkq 10 (some 70) (v := ?_) rfl (Or.inl ⟨by rfl, ?_⟩) (by assumption) ?_
          rotate_left
          · intro w hSw; (try dsimp only at hSw); go_simp; first | done | (with_reducible rfl)
          simp only [Act.put, List.setIfInBounds_toArray, List.set_cons_zero, List.set_cons_succ]
          refine tkq 11 (some 71) (v := ?_) rfl (Or.inl ⟨by rfl, ?_⟩) (by assumption) ?_
          rotate_left
          · intro w hSw; (try dsimp only at hSw); go_simp; first | done | (with_reducible rfl)
          simp only [Act.put, List.setIfInBounds_toArray, List.set_cons_zero, List.set_cons_succ]
          refine tkq 12 (some 72) (v := ?_) rfl (Or.inl ⟨by rfl, ?_⟩) (by assumption) ?_
          rotate_left
          · intro w hSw; (try dsimp only at hSw); go_simp; first | done | (with_reducible rfl)
          simp only [Act.put, List.setIfInBounds_toArray, List.set_cons_zero, List.set_cons_succ]
          refine tkq 13 (some 73) (v := ?_) rfl (Or.inl ⟨by rfl, ?_⟩) (by assumption) ?_
          rotate_left
          · intro w hSw; (try dsimp only at hSw); have hh1 := hSw; go_simp; first | done | (with_reducible rfl)
          simp only [Act.put, List.setIfInBounds_toArray, List.set_cons_zero, List.set_cons_succ]
          refine tkq 14 (some 74) (v := ?_) rfl (Or.inl ⟨by rfl, ?_⟩) (by assumption) ?_
          rotate_left
          · intro w hSw; (try dsimp only at hSw); have hh1 := hSw; go_simp; first | done | (with_reducible rfl)
          simp only [Act.put, List.setIfInBounds_toArray, List.set_cons_zero, List.set_cons_succ]
          refine wpAnyH_ready (rs := [9]) (by kernel_rfl) (by simp) ?_
          refine AllReadyH.cons rfl (fun K hK => ?_) AllReadyH.nil
          go_simp
          go_wp2_with (fail)
          refine hK.out _ _ (hcz) (fun hHeld => ?_)
          clear hK K
          refine tkq 15 (some 75) (v := ?_) rfl (Or.inl ⟨by rfl, ?_⟩) (by assumption) ?_
          rotate_left
          · intro w hSw; (try dsimp only at hSw); go_simp; first | done | (with_reducible rfl)
          simp only [Act.put, List.setIfInBounds_toArray, List.set_cons_zero, List.set_cons_succ]
          refine tkq 16 (some 76) (v := ?_) rfl (Or.inl ⟨by rfl, ?_⟩) (by assumption) ?_
          rotate_left
          · intro w hSw; (try dsimp only at hSw); go_simp; first | done | (with_reducible rfl)
          simp only [Act.put, List.setIfInBounds_toArray, List.set_cons_zero, List.set_cons_succ]
          refine wpAnyH_ready (rs := [17]) (by kernel_rfl) (by simp) ?_
          refine AllReadyH.cons rfl (fun K hK => ?_) AllReadyH.nil
          have HV2 := HUV.out
          have hO3 := (own_set hO HNL.out (by omega) r Uv hUb).cast HST.out
          have hB3 := hBq.setCell (p := ⟨g, r, none⟩) hbg7 (.int .u8 Uv)
          have hz5 := (show (Y5.setCell ⟨g, r, none⟩ (.int .u8 Uv)).cell? ⟨bm, om + t, none⟩ = some (.int .u8 z) by rw [((Kept.refl (· = g) Y5).setAt r (.int .u8 Uv)).cell (p := ⟨bm, om + t, none⟩) (cell_lt hcz) (by show ¬ bm = g; omega)]; exact hcz)
          have HS := Lib.hid (And.intro hO3 hB3)
          have HS2 := Lib.hid hz5
          clear hO hBq hO3 hB3 hz5
          go_simp
          go_wp2_with (fail)
          refine hK.out _ _ (HS2.out) (fun hHeld => ?_)
          clear hK K
          refine wpAnyH_done (by kernel_rfl) ?_ _
          go_wp2_with fail
          go_roundw
          case rel => exact ⟨q + 1, by omega, by go_num, HS⟩
          case measure => simp [intOf]; omega
        · obtain rfl : q = kk := by omega
          go_wp2_with fail
          go_ret
          exact ⟨_, rfl, hO.base_ (by have := HB3.out.size; omega), HB3.out.trans (hBq.mono HB3.out.size)⟩
    · obtain rfl := HKN.out hk0
      have hkd : decide ((k : Int) = 0) = false := by simp; omega
      go_wp2_with fail
      go_loopw [13] (fun i wr => ∃ q : Nat, q ≤ k ∧ i = .int .i64 q ∧ Hid (Own wr W2.heap.size 5 (.slice (some ⟨g, 0, none⟩) n c4) (turnL F ms a q) ∧ Below W2.heap.size W2 wr)) (fun i _ => k - (intOf i).toNat)
      case atStart => exact ⟨0, Nat.zero_le _, rfl, hI⟩
      case round =>
        obtain ⟨q, hq, rfl, hst⟩ := hrel
        obtain ⟨wo, rfl⟩ : ∃ wo : World, wo = wr := ⟨_, rfl⟩
        have hO := hst.out.1
        have hBq := hst.out.2
        clear hst hI
        by_cases hlt : q < k
        · have hTl : (turnL F ms a q).length = n := by rw [turnL_len, HFL.out]
          obtain ⟨y, hy⟩ : ∃ y, F.getD (a + q) 0 = y := ⟨_, rfl⟩
          have hnx := turnL_next F ms a q (by rw [HFL.out]; omega)
          rw [hy] at hnx
          obtain ⟨z, hz⟩ : ∃ z, ms.getD (1 + q) 0 = z := ⟨_, rfl⟩
          have hcz := HMC.out (1 + q) (by omega) wo hBq
          have hset := turnL_set F ms a q (bits BinOp.xor IntKind.u8 y z) (by rw [HFL.out]; omega) (by rw [hy, hz]; rfl)
          rw [hz] at hcz
          obtain ⟨Uv, hU⟩ : ∃ u, bits BinOp.xor IntKind.u8 y z = u := ⟨_, rfl⟩
          have hUb := (show 0 ≤ Uv ∧ Uv < 256 by rw [← hU]; exact u8_bits_bd _ _ _)
          rw [hU] at hset
          have HUV := Lib.hid hU
          have HNX := Lib.hid hnx
          have HST := Lib.hid hset
          have HNL := Lib.hid hTl
          obtain ⟨r, hr⟩ : ∃ r, a + q = r := ⟨_, rfl⟩
          have hr1 := (show r < n by omega)
          have hr1I := (show (r : Int) < (n : Int) by omega)
          obtain ⟨t, ht⟩ : ∃ t, 1 + q = t := ⟨_, rfl⟩
          have ht1 := (show t < 5 by omega)
          have ht1I := (show (t : Int) < 5 by omega)
          have htc := (show t < c2 by omega)
          have hrc4 := (show r < c4 by omega)
          rw [hr] at HNX HST
          rw [ht] at hcz
          have hp5 : IntKind.i64.wrap ((a : Int) + (q : Int)) = (r : Int) := by rw [show (a : Int) + (q : Int) = (r : Int) by omega]; exact IntWalk.i64_in _ (by omega)
          have hp6 : IntKind.i64.wrap (1 + (q : Int)) = (t : Int) := by rw [show 1 + (q : Int) = (t : Int) by omega]; exact IntWalk.i64_in _ (by omega)
          clear hy hz hset hnx hTl hU hr ht
          go_wp2_with fail
          obtain ⟨Y5, hY5⟩ : ∃ x, wo.drew = x := ⟨_, rfl⟩
          have hO := hO.drew
          have hBq : Below W2.heap.size W2 wo.drew := belowN hBq 1
          have hcz := (show wo.drew.cell? ⟨bm, om + t, none⟩ = some (.int .u8 z) from hcz)
          rw [hY5] at hO hBq hcz
          obtain ⟨hcr, hgl7, hbg7, hfz7⟩ := own_cell hO HNL.out r y HNX.out
          refine wp_region_held_drew (S := (fun W => W.cell? ⟨bm, om + t, none⟩ = some (.int .u8 z))) (by kernel_rfl) (by rw [hY5]; exact hcz) (fun hHeld => ?_)
          rw [hY5] at hHeld ⊢
          clear hY5
          refine tkq 0 (some 60) (v := ?_) rfl (Or.inl ⟨by rfl, ?_⟩) (by assumption) ?_
          rotate_left
          · intro w hSw; (try dsimp only at hSw); go_simp; first | done | (with_reducible rfl)
          simp only [Act.put, List.setIfInBounds_toArray, List.set_cons_zero, List.set_cons_succ]
          refine tkq 1 (some 61) (v := ?_) rfl (Or.inl ⟨by rfl, ?_⟩) (by assumption) ?_
          rotate_left
          · intro w hSw; (try dsimp only at hSw); go_simp; first | done | (with_reducible rfl)
          simp only [Act.put, List.setIfInBounds_toArray, List.set_cons_zero, List.set_cons_succ]
          refine tkq 2 (some 62) (v := ?_) rfl (Or.inl ⟨by rfl, ?_⟩) (by assumption) ?_
          rotate_left
          · intro w hSw; (try dsimp only at hSw); go_simp; first | done | (with_reducible rfl)
          simp only [Act.put, List.setIfInBounds_toArray, List.set_cons_zero, List.set_cons_succ]
          refine tkq 3 (some 63) (v := ?_) rfl (Or.inl ⟨by rfl, ?_⟩) (by assumption) ?_
          rotate_left
          · intro w hSw; (try dsimp only at hSw); go_simp; first | done | (with_reducible rfl)
          simp only [Act.put, List.setIfInBounds_toArray, List.set_cons_zero, List.set_cons_succ]
          refine tkq 4 (some 64) (v := ?_) rfl (Or.inl ⟨by rfl, ?_⟩) (by assumption) ?_
          rotate_left
          · intro w hSw; (try dsimp only at hSw); go_simp; first | done | (with_reducible rfl)
          simp only [Act.put, List.setIfInBounds_toArray, List.set_cons_zero, List.set_cons_succ]
          refine tkq 5 (some 65) (v := ?_) rfl (Or.inl ⟨by rfl, ?_⟩) (by assumption) ?_
          rotate_left
          · intro w hSw; (try dsimp only at hSw); go_simp; first | done | (with_reducible rfl)
          simp only [Act.put, List.setIfInBounds_toArray, List.set_cons_zero, List.set_cons_succ]
          refine tkq 6 (some 66) (v := ?_) rfl (Or.inl ⟨by rfl, ?_⟩) (by assumption) ?_
          rotate_left
          · intro w hSw; (try dsimp only at hSw); go_simp; first | done | (with_reducible rfl)
          simp only [Act.put, List.setIfInBounds_toArray, List.set_cons_zero, List.set_cons_succ]
          refine tkq 7 (some 67) (v := ?_) rfl (Or.inl ⟨by rfl, ?_⟩) (by assumption) ?_
          rotate_left
          · intro w hSw; (try dsimp only at hSw); go_simp; first | done | (with_reducible rfl)
          simp only [Act.put, List.setIfInBounds_toArray, List.set_cons_zero, List.set_cons_succ]
          refine tkq 8 (some 68) (v := ?_) rfl (Or.inl ⟨by rfl, ?_⟩) (by assumption) ?_
          rotate_left
          · intro w hSw; (try dsimp only at hSw); go_simp; first | done | (with_reducible rfl)
          simp only [Act.put, List.setIfInBounds_toArray, List.set_cons_zero, List.set_cons_succ]
          refine tkq 10 (some 70) (v := ?_) rfl (Or.inl ⟨by rfl, ?_⟩) (by assumption) ?_
          rotate_left
          · intro w hSw; (try dsimp only at hSw); go_simp; first | done | (with_reducible rfl)
          simp only [Act.put, List.setIfInBounds_toArray, List.set_cons_zero, List.set_cons_succ]
          refine tkq 11 (some 71) (v := ?_) rfl (Or.inl ⟨by rfl, ?_⟩) (by assumption) ?_
          rotate_left
          · intro w hSw; (try dsimp only at hSw); go_simp; first | done | (with_reducible rfl)
          simp only [Act.put, List.setIfInBounds_toArray, List.set_cons_zero, List.set_cons_succ]
          refine tkq 12 (some 72) (v := ?_) rfl (Or.inl ⟨by rfl, ?_⟩) (by assumption) ?_
          rotate_left
          · intro w hSw; (try dsimp only at hSw); go_simp; first | done | (with_reducible rfl)
          simp only [Act.put, List.setIfInBounds_toArray, List.set_cons_zero, List.set_cons_succ]
          refine tkq 13 (some 73) (v := ?_) rfl (Or.inl ⟨by rfl, ?_⟩) (by assumption) ?_
          rotate_left
          · intro w hSw; (try dsimp only at hSw); have hh1 := hSw; go_simp; first | done | (with_reducible rfl)
          simp only [Act.put, List.setIfInBounds_toArray, List.set_cons_zero, List.set_cons_succ]
          refine tkq 14 (some 74) (v := ?_) rfl (Or.inl ⟨by rfl, ?_⟩) (by assumption) ?_
          rotate_left
          · intro w hSw; (try dsimp only at hSw); have hh1 := hSw; go_simp; first | done | (with_reducible rfl)
          simp only [Act.put, List.setIfInBounds_toArray, List.set_cons_zero, List.set_cons_succ]
          refine wpAnyH_ready (rs := [9]) (by kernel_rfl) (by simp) ?_
          refine AllReadyH.cons rfl (fun K hK => ?_) AllReadyH.nil
          go_simp
          go_wp2_with (fail)
          refine hK.out _ _ (hcz) (fun hHeld => ?_)
          clear hK K
          refine tkq 15 (some 75) (v := ?_) rfl (Or.inl ⟨by rfl, ?_⟩) (by assumption) ?_
          rotate_left
          · intro w hSw; (try dsimp only at hSw); go_simp; first | done | (with_reducible rfl)
          simp only [Act.put, List.setIfInBounds_toArray, List.set_cons_zero, List.set_cons_succ]
          refine tkq 16 (some 76) (v := ?_) rfl (Or.inl ⟨by rfl, ?_⟩) (by assumption) ?_
          rotate_left
          · intro w hSw; (try dsimp only at hSw); go_simp; first | done | (with_reducible rfl)
          simp only [Act.put, List.setIfInBounds_toArray, List.set_cons_zero, List.set_cons_succ]
          refine wpAnyH_ready (rs := [17]) (by kernel_rfl) (by simp) ?_
          refine AllReadyH.cons rfl (fun K hK => ?_) AllReadyH.nil
          have HV2 := HUV.out
          have hO3 := (own_set hO HNL.out (by omega) r Uv hUb).cast HST.out
          have hB3 := hBq.setCell (p := ⟨g, r, none⟩) hbg7 (.int .u8 Uv)
          have hz5 := (show (Y5.setCell ⟨g, r, none⟩ (.int .u8 Uv)).cell? ⟨bm, om + t, none⟩ = some (.int .u8 z) by rw [((Kept.refl (· = g) Y5).setAt r (.int .u8 Uv)).cell (p := ⟨bm, om + t, none⟩) (cell_lt hcz) (by show ¬ bm = g; omega)]; exact hcz)
          have HS := Lib.hid (And.intro hO3 hB3)
          have HS2 := Lib.hid hz5
          clear hO hBq hO3 hB3 hz5
          go_simp
          go_wp2_with (fail)
          refine hK.out _ _ (HS2.out) (fun hHeld => ?_)
          clear hK K
          refine wpAnyH_done (by kernel_rfl) ?_ _
          go_wp2_with fail
          go_roundw
          case rel => exact ⟨q + 1, by omega, by go_num, HS⟩
          case measure => simp [intOf]; omega
        · obtain rfl : q = k := by omega
          go_wp2_with fail
          go_ret
          exact ⟨_, rfl, hO.base_ (by have := HB3.out.size; omega), HB3.out.trans (hBq.mono HB3.out.size)⟩
end Go.Proofs.Ytehdilgnlhhjdaa
