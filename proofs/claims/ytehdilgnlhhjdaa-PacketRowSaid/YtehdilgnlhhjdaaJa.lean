/-
  packet.masked, packet.kept, packet.turn.
-/
import Derived.Test.YtehdilgnlhhjdaaMq14
namespace Go.Proofs.Ytehdilgnlhhjdaa
set_option linter.unusedVariables false
set_option linter.unusedSimpArgs false
open Go.RowKit Go.ChangeShapes Go.WideShapes Go.Deep
set_option maxRecDepth 100000 in
theorem masked_any (m : HN) (d : Sl) (w : World) (hm : m.wf) :
    Calls Try.prog 65 #[hdV m d] w fun e w' => e = .returned (.int .u8 (mbits m.s)) ∧ Below w.heap.size w w' := by
  have hb0 : Below w.heap.size w (w.alloc (.cells (hdL m d).toArray 30)) := (Below.refl _ _).alloc (Nat.le_refl _) _
  have hc : (w.alloc (.cells (hdL m d).toArray 30)).cell? ⟨w.heap.size, 0, none⟩ = some (.int .i64 m.s) := by rw [(At.new w 30 (hdL m d)).cell 0]; rfl
  have hs0 := hm.s0
  have hs1 := hm.s1
  unfold hdV mbits
  obtain ⟨L, hL⟩ : ∃ L, hdL m d = L := ⟨_, rfl⟩
  rw [hL] at hb0 hc ⊢
  obtain ⟨s, hs⟩ : ∃ s, m.s = s := ⟨_, rfl⟩
  rw [hs] at hc hs0 hs1 ⊢
  clear hL hs
  rcases Int.lt_trichotomy s 2 with h | rfl | h
  · rw [if_neg (by omega)]
    have hd : decide (s = 2) = false := by simp; omega
    go_enter Try.func65, Try.ntmps65
    go_wp2_with fail
    go_ret
    exact ⟨rfl, hb0⟩
  · rw [if_pos rfl]
    go_enter Try.func65, Try.ntmps65
    go_wp2_with fail
    go_ret
    exact ⟨rfl, hb0⟩
  · rw [if_neg (by omega)]
    have hd : decide (s = 2) = false := by simp; omega
    go_enter Try.func65, Try.ntmps65
    go_wp2_with fail
    go_ret
    exact ⟨rfl, hb0⟩
set_option maxRecDepth 100000 in
theorem pkept_any (m : HN) (d : Sl) (w : World) (hm : m.wf) :
    Calls Try.prog 41 #[hdV m d] w fun e w' => e = .returned (.int .u8 (if m.s = 2 then 24 else 12)) ∧ Below w.heap.size w w' := by
  have hb0 : Below w.heap.size w (w.alloc (.cells (hdL m d).toArray 30)) := (Below.refl _ _).alloc (Nat.le_refl _) _
  have hc : (w.alloc (.cells (hdL m d).toArray 30)).cell? ⟨w.heap.size, 0, none⟩ = some (.int .i64 m.s) := by rw [(At.new w 30 (hdL m d)).cell 0]; rfl
  have hs0 := hm.s0
  have hs1 := hm.s1
  unfold hdV
  obtain ⟨L, hL⟩ : ∃ L, hdL m d = L := ⟨_, rfl⟩
  rw [hL] at hb0 hc ⊢
  obtain ⟨s, hs⟩ : ∃ s, m.s = s := ⟨_, rfl⟩
  rw [hs] at hc hs0 hs1 ⊢
  clear hL hs
  rcases Int.lt_trichotomy s 2 with h | rfl | h
  · rw [if_neg (by omega)]
    have hd : decide (s = 2) = false := by simp; omega
    go_enter Try.func41, Try.ntmps41
    go_wp2_with fail
    go_ret
    exact ⟨rfl, hb0⟩
  · rw [if_pos rfl]
    go_enter Try.func41, Try.ntmps41
    go_wp2_with fail
    go_ret
    exact ⟨rfl, hb0⟩
  · rw [if_neg (by omega)]
    have hd : decide (s = 2) = false := by simp; omega
    go_enter Try.func41, Try.ntmps41
    go_wp2_with fail
    go_ret
    exact ⟨rfl, hb0⟩
/-- What stays while a byte is turned: head and mask. -/
structure TnS (g gh : Nat) (L : List Value) (gm : Nat) (M : List Value) (j : Nat) (z : Int) (w0 w : World) : Prop where
  h : At w gh 30 L
  m : At w gm 77 M
  cm : w.cell? ⟨gm, j, none⟩ = some (.int .u8 z)
  k : Kept (· = g) w0 w
theorem cell_below {w w' : World} {b off : Nat} {v : Value} (h : w.cell? ⟨b, off, none⟩ = some v) (k : Below w.heap.size w w') : w'.cell? ⟨b, off, none⟩ = some v := by rw [k.cell (p := ⟨b, off, none⟩) (cell_lt h)]; exact h
theorem TnS.kept {g gh : Nat} {L : List Value} {gm : Nat} {M : List Value} {j : Nat} {z : Int} {w0 w w' : World} (h : TnS g gh L gm M j z w0 w) (h1 : gh ≠ g) (h2 : gm ≠ g) (k : Kept (· = g) w w') : TnS g gh L gm M j z w0 w' :=
  ⟨h.h.kept k h1, h.m.kept k h2, by rw [k.cell (p := ⟨gm, j, none⟩) (cell_lt h.cm) h2]; exact h.cm, h.k.trans k⟩
theorem TnS.below {g gh : Nat} {L : List Value} {gm : Nat} {M : List Value} {j : Nat} {z : Int} {w0 w w' : World} (h : TnS g gh L gm M j z w0 w) (k : Below w.heap.size w w') : TnS g gh L gm M j z w0 w' :=
  ⟨h.h.below k h.h.lt, h.m.below k h.m.lt, cell_below h.cm k, h.k.trans (Kept.of_below k _)⟩
set_option maxRecDepth 100000 in
set_option maxHeartbeats 4000000 in
theorem turn_any (base g nn c a : Nat) (bs ms : List Int) (m : HN) (d : Sl) (w : World) (ho : Own w base 5 (.slice (some ⟨g, 0, none⟩) nn c) bs) (hl : bs.length = nn) (ha : 1 ≤ a) (hn : a + m.w.toNat ≤ nn) (hnm : nn ≤ 1000000) (hms : ms.length = 5) (hmb : Byt ms) (hm : m.wf) (w0 : 0 ≤ m.w) (w4 : m.w ≤ 4) (hcn : nn ≤ c) (hcm : c ≤ maxLen) :
    Calls Try.prog 36 #[.slice (some ⟨g, 0, none⟩) nn c, .int .i64 a, hdV m d, .agg (ms.map (Value.int .u8)).toArray] w fun e w' => e = .returned (.tuple #[]) ∧ Own w' base 5 (.slice (some ⟨g, 0, none⟩) nn c) (turnB bs ms a m.w.toNat (mbits m.s)) ∧ Kept (· = g) w w' := by
  have hc3 := hcm
  unfold maxLen at hc3
  have HK := Lib.hid (fun W => masked_any m d W hm)
  obtain ⟨k, hk⟩ : ∃ k : Nat, m.w = k := ⟨m.w.toNat, by omega⟩
  have hk2 : m.w.toNat = k := by omega
  have hk4 : k ≤ 4 := by omega
  rw [hk2] at hn ⊢
  have hgl : g < w.heap.size := (ho.block_lt g rfl).2
  have hbg : base ≤ g := (ho.block_lt g rfl).1
  obtain ⟨x0, hx0⟩ : ∃ x, bs.getD 0 0 = x := ⟨_, rfl⟩
  have hx : bs[0]? = some x0 := by rw [← hx0, List.getElem?_eq_getElem (by omega), List.getD_eq_getElem?_getD, List.getElem?_eq_getElem (by omega)]; rfl
  have hcx := (own_cell ho hl 0 x0 hx).1
  have hh0 : At (w.alloc (.cells (hdL m d).toArray 30)) w.heap.size 30 (hdL m d) := At.new w 30 _
  have ho1 : Own (w.alloc (.cells (hdL m d).toArray 30)) base 5 (.slice (some ⟨g, 0, none⟩) nn c) bs := ho.alloc _
  have hk0 : Kept (· = g) w (w.alloc (.cells (hdL m d).toArray 30)) := (Kept.refl _ _).alloc _
  have hbs := Byt.getD ho.byt 0
  rw [hx0] at hbs
  have hz0 := hmb.getD 0
  have hfin : turnB bs ms a k (mbits m.s) = turnL (turnF bs (andB (ms.getD 0 0) (mbits m.s))) ms a k := rfl
  have hF : turnF bs (andB (ms.getD 0 0) (mbits m.s)) = bs.set 0 (bits BinOp.xor IntKind.u8 x0 (bits BinOp.and IntKind.u8 (ms.getD 0 0) (mbits m.s))) := by unfold turnF xorB andB; rw [hx0]
  have hFl : (turnF bs (andB (ms.getD 0 0) (mbits m.s))).length = nn := by rw [turnF_len, hl]
  rw [hfin]
  obtain ⟨F, hFF⟩ : ∃ x, turnF bs (andB (ms.getD 0 0) (mbits m.s)) = x := ⟨_, rfl⟩
  rw [hFF] at hF hFl ⊢
  obtain ⟨L, hL⟩ : ∃ L, hdL m d = L := ⟨_, rfl⟩
  have hLl : L.length = 20 := by rw [← hL]; rfl
  have hL18 : L[18]? = some (.int .i64 (k : Int)) := by rw [← hL, ← hk]; rfl
  have hvv : hdV m d = .agg L.toArray := by rw [← hL]; rfl
  rw [hL] at hh0 ho1 hk0
  rw [hvv] at HK ⊢
  obtain ⟨w1, hw1⟩ : ∃ x, w.alloc (.cells L.toArray 30) = x := ⟨_, rfl⟩
  rw [hw1] at hh0 ho1 hk0
  have hm1 : At (w1.alloc (.cells (ms.map (Value.int .u8)).toArray 77)) w1.heap.size 77 (ms.map (Value.int .u8)) := At.new w1 77 _
  have hh1 := hh0.alloc (.cells (ms.map (Value.int .u8)).toArray 77)
  have ho2 := ho1.alloc (.cells (ms.map (Value.int .u8)).toArray 77)
  have hk1 := hk0.alloc (.cells (ms.map (Value.int .u8)).toArray 77)
  have hgh : w.heap.size < w1.heap.size := hh0.lt
  obtain ⟨z0, hz⟩ : ∃ z, ms.getD 0 0 = z := ⟨_, rfl⟩
  rw [hz] at hz0 hF
  have hmi : ∀ j, j < 5 → (ms.map (Value.int .u8))[j]? = some (.int .u8 (ms.getD j 0)) := fun j hj => by rw [List.getElem?_map, List.getElem?_eq_getElem (by omega), List.getD_eq_getElem?_getD, List.getElem?_eq_getElem (by omega)]; rfl
  obtain ⟨M, hM⟩ : ∃ M, ms.map (Value.int .u8) = M := ⟨_, rfl⟩
  rw [hM] at hm1 hh1 ho2 hk1 hmi ⊢
  obtain ⟨w2, hw2⟩ : ∃ x, w1.alloc (.cells M.toArray 77) = x := ⟨_, rfl⟩
  rw [hw2] at hm1 hh1 ho2 hk1
  have hgm : w1.heap.size < w2.heap.size := hm1.lt
  have hS : TnS g w.heap.size L w1.heap.size M 0 z0 w w2 := ⟨hh1, hm1, by rw [hm1.cell 0, hmi 0 (by omega), hz], hk1⟩
  have hcb := (own_cell ho2 hl 0 x0 hx).1
  have hgh' : w.heap.size ≠ g := by omega
  have hgm' : w1.heap.size ≠ g := by omega
  obtain ⟨B, hB⟩ : ∃ b, mbits m.s = b := ⟨_, rfl⟩
  rw [hB] at HK hF
  have hBb : 0 ≤ B ∧ B < 256 := by rw [← hB]; unfold mbits; split <;> omega
  obtain ⟨V, hV⟩ : ∃ v, bits BinOp.xor IntKind.u8 x0 (bits BinOp.and IntKind.u8 z0 B) = v := ⟨_, rfl⟩
  have hVb : 0 ≤ V ∧ V < 256 := by rw [← hV]; exact u8_bits_bd _ _ _
  rw [hV] at hF
  have HV := Lib.hid hV
  have HF := Lib.hid hF
  have HM := Lib.hid hmi
  have HX := Lib.hid hx
  have HL := Lib.hid hl
  have HL18 := Lib.hid hL18
  have HFL := Lib.hid hFl
  have HLL := Lib.hid hLl
  have HO2 := Lib.hid ho2
  clear hfin hFF hvv hL hL18 hM hz hV hx0 hh0 ho1 hk0 hcx hx hm1 hh1 ho2 hk1 ho hF hmi hk hk2 hB hmb hl hFl hms
  go_enter Try.func36, Try.ntmps36
  go_wp2_with fail
  have hS := hS.below (Below.refl _ _).drew
  have ho2 := HO2.out.drew
  have hcb : w2.drew.cell? ⟨g, 0, none⟩ = some (.int .u8 x0) := hcb
  clear HO2
  obtain ⟨Y, hY⟩ : ∃ x, w2.drew = x := ⟨_, rfl⟩
  rw [hY] at hS ho2 hcb
  refine wp_region_held_drew (S := (TnS g w.heap.size L w1.heap.size M 0 z0 w)) (by kernel_rfl) (by rw [hY]; exact hS) (fun hHeld => ?_)
  rw [hY] at hHeld ⊢
  clear hY
  refine tkq 0 (some 9) (v := ?_) rfl (Or.inl ⟨by rfl, ?_⟩) (by assumption) ?_
  rotate_left
  · intro w hSw; (try dsimp only at hSw); go_simp; first | done | (with_reducible rfl)
  simp only [Act.put, List.setIfInBounds_toArray, List.set_cons_zero, List.set_cons_succ]
  refine tkq 1 (some 10) (v := ?_) rfl (Or.inl ⟨by rfl, ?_⟩) (by assumption) ?_
  rotate_left
  · intro w hSw; (try dsimp only at hSw); have hnn' : 0 < nn := (by omega); go_simp; first | done | (with_reducible rfl)
  simp only [Act.put, List.setIfInBounds_toArray, List.set_cons_zero, List.set_cons_succ]
  refine tkq 3 (some 12) (v := ?_) rfl (Or.inl ⟨by rfl, ?_⟩) (by assumption) ?_
  rotate_left
  · intro w hSw; (try dsimp only at hSw); go_simp; first | done | (with_reducible rfl)
  simp only [Act.put, List.setIfInBounds_toArray, List.set_cons_zero, List.set_cons_succ]
  refine tkq 4 (some 13) (v := ?_) rfl (Or.inl ⟨by rfl, ?_⟩) (by assumption) ?_
  rotate_left
  · intro w hSw; (try dsimp only at hSw); have ht := hSw.cm; go_simp; first | done | (with_reducible rfl)
  simp only [Act.put, List.setIfInBounds_toArray, List.set_cons_zero, List.set_cons_succ]
  refine tkq 5 (some 14) (v := ?_) rfl ?_ (by assumption) ?_
  rotate_left
  · refine yl_any 30 (.tmp 6) ?_ w.heap.size 0 ?_ L _ ?_ Try.underlying30 rfl ?_ ?_
    · rfl
    · rfl
    · intro w hSw; exact hSw.h.rangeAt
    · rw [HLL.out]; exact hd_info
    · rfl
  simp only [Act.put, List.setIfInBounds_toArray, List.set_cons_zero, List.set_cons_succ]
  refine wpAnyH_ready (rs := [2, 6]) (by kernel_rfl) (by simp) ?_
  refine AllReadyH.cons rfl (fun K hK => ?_) (AllReadyH.cons rfl (fun K hK => ?_) (AllReadyH.nil))
  · have hnn' : 0 < nn := (by omega)
    go_simp
    go_wp2_with (fail)
    refine hK.out _ _ (hS) (fun hHeld => ?_)
    clear hK K
    refine wpAnyH_ready (rs := [6]) (by kernel_rfl) (by simp) ?_
    refine AllReadyH.cons rfl (fun K hK => ?_) AllReadyH.nil
    go_simp
    go_wp2_with (go_at_call 65; refine (HK.out _).mono ?_; rintro e W5 ⟨rfl, hb5⟩; have hS := hS.below hb5; have ho2 := ho2.below hb5 (Nat.le_refl _); have hcb := cell_below hcb hb5)
    refine hK.out _ _ (hS) (fun hHeld => ?_)
    clear hK K
    refine tkq 7 (some 16) (v := ?_) rfl (Or.inl ⟨by rfl, ?_⟩) (by assumption) ?_
    rotate_left
    · intro w hSw; (try dsimp only at hSw); go_simp; first | done | (with_reducible rfl)
    simp only [Act.put, List.setIfInBounds_toArray, List.set_cons_zero, List.set_cons_succ]
    refine tkq 8 (some 17) (v := ?_) rfl (Or.inl ⟨by rfl, ?_⟩) (by assumption) ?_
    rotate_left
    · intro w hSw; (try dsimp only at hSw); go_simp; first | done | (with_reducible rfl)
    simp only [Act.put, List.setIfInBounds_toArray, List.set_cons_zero, List.set_cons_succ]
    refine tkq 9 (some 18) (v := ?_) rfl (Or.inl ⟨by rfl, ?_⟩) (by assumption) ?_
    rotate_left
    · intro w hSw; (try dsimp only at hSw); have hnn' : 0 < nn := (by omega); go_simp; first | done | (with_reducible rfl)
    simp only [Act.put, List.setIfInBounds_toArray, List.set_cons_zero, List.set_cons_succ]
    refine wpAnyH_ready (rs := [10]) (by kernel_rfl) (by simp) ?_
    refine AllReadyH.cons rfl (fun K hK => ?_) AllReadyH.nil
    have HV2 := HV.out
    obtain ⟨_, hgl5, hbg5, hfz⟩ := own_cell ho2 HL.out 0 x0 HX.out
    have hO3 := (own_set ho2 HL.out (by omega) 0 V hVb).cast HF.out.symm
    have hS3 := hS.kept hgh' hgm' ((Kept.refl (· = g) W5).setAt 0 (.int .u8 V))
    have HS := Lib.hid (And.intro hO3 hS3)
    clear ho2 hS hO3 hS3
    go_simp
    go_wp2_with (fail)
    refine hK.out _ _ (HS.out.2) (fun hHeld => ?_)
    clear hK K
    refine wpAnyH_done (by kernel_rfl) ?_ _
    obtain ⟨W6, hW6⟩ : ∃ x, W5.setCell ⟨g, 0, none⟩ (.int .u8 V) = x := ⟨_, rfl⟩
    have HS1 := HS.out
    rw [hW6] at HS1 ⊢
    clear HS hW6
    have hcw := (show W6.cell? ⟨w.heap.size, 18, none⟩ = some (.int .i64 (k : Int)) by rw [HS1.2.h.cell 18]; exact HL18.out)
    have HI := Lib.hid (And.intro (HS1.1.cast (turnL_zero F ms a).symm) (And.intro HS1.2.m HS1.2.k))
    clear HS1
    go_wp2_with fail
    go_loopw [21] (fun i wr => ∃ q : Nat, q ≤ k ∧ i = .int .i64 q ∧ Hid (Own wr base 5 (.slice (some ⟨g, 0, none⟩) nn c) (turnL F ms a q) ∧ At wr w1.heap.size 77 M ∧ Kept (· = g) w wr)) (fun i _ => k - (intOf i).toNat)
    case atStart => exact ⟨0, Nat.zero_le _, rfl, HI⟩
    case round =>
      obtain ⟨q, hq, rfl, hst⟩ := hrel
      obtain ⟨wo, rfl⟩ : ∃ wo : World, wo = wr := ⟨_, rfl⟩
      have hO := hst.out.1
      have hM := hst.out.2.1
      have hKT := hst.out.2.2
      clear hst HI
      by_cases hlt : q < k
      · have hTl : (turnL F ms a q).length = nn := by rw [turnL_len, HFL.out]
        obtain ⟨y, hy⟩ : ∃ y, F.getD (a + q) 0 = y := ⟨_, rfl⟩
        have hnx := turnL_next F ms a q (by rw [HFL.out]; omega)
        rw [hy] at hnx
        obtain ⟨z, hz⟩ : ∃ z, ms.getD (1 + q) 0 = z := ⟨_, rfl⟩
        have hcz := (show wo.cell? ⟨w1.heap.size, 1 + q, none⟩ = some (.int .u8 z) by rw [hM.cell, HM.out _ (by omega), hz])
        have hset := turnL_set F ms a q (bits BinOp.xor IntKind.u8 y z) (by rw [HFL.out]; omega) (by rw [hy, hz]; rfl)
        obtain ⟨U, hU⟩ : ∃ u, bits BinOp.xor IntKind.u8 y z = u := ⟨_, rfl⟩
        have hUb := (show 0 ≤ U ∧ U < 256 by rw [← hU]; exact u8_bits_bd _ _ _)
        rw [hU] at hset
        have HU := Lib.hid hU
        have HNX := Lib.hid hnx
        have HST := Lib.hid hset
        have HNL := Lib.hid hTl
        obtain ⟨r, hr⟩ : ∃ r, a + q = r := ⟨_, rfl⟩
        have hrI := (show (a : Int) + (q : Int) = (r : Int) by omega)
        have hr1 := (show r < nn by omega)
        have hr1I := (show (r : Int) < (nn : Int) by omega)
        obtain ⟨t, ht⟩ : ∃ t, 1 + q = t := ⟨_, rfl⟩
        have htI := (show 1 + (q : Int) = (t : Int) by omega)
        have ht1 := (show t < 5 by omega)
        have ht1I := (show (t : Int) < 5 by omega)
        rw [hr] at HNX HST
        rw [ht] at hcz
        have hp1 := (show IntKind.i64.wrap (r : Int) = (r : Int) from IntWalk.i64_in _ (by omega))
        have hp2 := (show IntKind.i64.wrap (t : Int) = (t : Int) from IntWalk.i64_in _ (by omega))
        clear hy hz hset hnx hTl hU hr ht
        go_wp2_with fail
        obtain ⟨Y, hY⟩ : ∃ x, wo.drew = x := ⟨_, rfl⟩
        have hO := hO.drew
        have hM := hM.drew
        have hKT := hKT.drew
        have hcz := (show wo.drew.cell? ⟨w1.heap.size, t, none⟩ = some (.int .u8 z) from hcz)
        rw [hY] at hO hM hKT hcz
        obtain ⟨hcr, hgl7, hbg7, hfz7⟩ := own_cell hO HNL.out r y HNX.out
        refine wp_region_held_drew (S := (fun W => At W w1.heap.size 77 M ∧ W.cell? ⟨w1.heap.size, t, none⟩ = some (.int .u8 z))) (by kernel_rfl) (by rw [hY]; exact ⟨hM, hcz⟩) (fun hHeld => ?_)
        rw [hY] at hHeld ⊢
        clear hY
        refine tkq 0 (some 24) (v := ?_) rfl (Or.inl ⟨by rfl, ?_⟩) (by assumption) ?_
        rotate_left
        · intro w hSw; (try dsimp only at hSw); go_simp; first | done | (with_reducible rfl)
        simp only [Act.put, List.setIfInBounds_toArray, List.set_cons_zero, List.set_cons_succ]
        refine tkq 1 (some 25) (v := ?_) rfl (Or.inl ⟨by rfl, ?_⟩) (by assumption) ?_
        rotate_left
        · intro w hSw; (try dsimp only at hSw); go_simp; first | done | (with_reducible rfl)
        simp only [Act.put, List.setIfInBounds_toArray, List.set_cons_zero, List.set_cons_succ]
        refine tkq 2 (some 26) (v := ?_) rfl (Or.inl ⟨by rfl, ?_⟩) (by assumption) ?_
        rotate_left
        · intro w hSw; (try dsimp only at hSw); go_simp; first | done | (with_reducible rfl)
        simp only [Act.put, List.setIfInBounds_toArray, List.set_cons_zero, List.set_cons_succ]
        refine tkq 3 (some 27) (v := ?_) rfl (Or.inl ⟨by rfl, ?_⟩) (by assumption) ?_
        rotate_left
        · intro w hSw; (try dsimp only at hSw); go_simp; first | done | (with_reducible rfl)
        simp only [Act.put, List.setIfInBounds_toArray, List.set_cons_zero, List.set_cons_succ]
        refine tkq 4 (some 28) (v := ?_) rfl (Or.inl ⟨by rfl, ?_⟩) (by assumption) ?_
        rotate_left
        · intro w hSw; (try dsimp only at hSw); go_simp; first | done | (with_reducible rfl)
        simp only [Act.put, List.setIfInBounds_toArray, List.set_cons_zero, List.set_cons_succ]
        refine tkq 6 (some 30) (v := ?_) rfl (Or.inl ⟨by rfl, ?_⟩) (by assumption) ?_
        rotate_left
        · intro w hSw; (try dsimp only at hSw); go_simp; first | done | (with_reducible rfl)
        simp only [Act.put, List.setIfInBounds_toArray, List.set_cons_zero, List.set_cons_succ]
        refine tkq 7 (some 31) (v := ?_) rfl (Or.inl ⟨by rfl, ?_⟩) (by assumption) ?_
        rotate_left
        · intro w hSw; (try dsimp only at hSw); go_simp; first | done | (with_reducible rfl)
        simp only [Act.put, List.setIfInBounds_toArray, List.set_cons_zero, List.set_cons_succ]
        refine tkq 8 (some 32) (v := ?_) rfl (Or.inl ⟨by rfl, ?_⟩) (by assumption) ?_
        rotate_left
        · intro w hSw; (try dsimp only at hSw); go_simp; first | done | (with_reducible rfl)
        simp only [Act.put, List.setIfInBounds_toArray, List.set_cons_zero, List.set_cons_succ]
        refine tkq 9 (some 33) (v := ?_) rfl (Or.inl ⟨by rfl, ?_⟩) (by assumption) ?_
        rotate_left
        · intro w hSw; (try dsimp only at hSw); have ht := hSw.2; go_simp; first | done | (with_reducible rfl)
        simp only [Act.put, List.setIfInBounds_toArray, List.set_cons_zero, List.set_cons_succ]
        refine wpAnyH_ready (rs := [5]) (by kernel_rfl) (by simp) ?_
        refine AllReadyH.cons rfl (fun K hK => ?_) AllReadyH.nil
        go_simp
        go_wp2_with (fail)
        refine hK.out _ _ (⟨hM, hcz⟩) (fun hHeld => ?_)
        clear hK K
        refine tkq 10 (some 34) (v := ?_) rfl (Or.inl ⟨by rfl, ?_⟩) (by assumption) ?_
        rotate_left
        · intro w hSw; (try dsimp only at hSw); go_simp; first | done | (with_reducible rfl)
        simp only [Act.put, List.setIfInBounds_toArray, List.set_cons_zero, List.set_cons_succ]
        refine tkq 11 (some 35) (v := ?_) rfl (Or.inl ⟨by rfl, ?_⟩) (by assumption) ?_
        rotate_left
        · intro w hSw; (try dsimp only at hSw); go_simp; first | done | (with_reducible rfl)
        simp only [Act.put, List.setIfInBounds_toArray, List.set_cons_zero, List.set_cons_succ]
        refine wpAnyH_ready (rs := [12]) (by kernel_rfl) (by simp) ?_
        refine AllReadyH.cons rfl (fun K hK => ?_) AllReadyH.nil
        have HV2 := HU.out
        have hO3 := (own_set hO HNL.out (by omega) r U hUb).cast HST.out
        have hM3 := hM.kept ((Kept.refl (· = g) Y).setAt r (.int .u8 U)) hgm'
        have hK3 := hKT.setAt r (.int .u8 U)
        have hcz3 := (show (Y.setCell ⟨g, r, none⟩ (.int .u8 U)).cell? ⟨w1.heap.size, t, none⟩ = some (.int .u8 z) by rw [hM3.cell, ← hM.cell]; exact hcz)
        have HS := Lib.hid (And.intro hO3 (And.intro hM3 hK3))
        have HS2 := Lib.hid hcz3
        clear hO hM hKT hO3 hM3 hK3 hcz3
        go_simp
        go_wp2_with (fail)
        refine hK.out _ _ (⟨HS.out.2.1, HS2.out⟩) (fun hHeld => ?_)
        clear hK K
        refine wpAnyH_done (by kernel_rfl) ?_ _
        go_wp2_with fail
        go_roundw
        case rel => exact ⟨q + 1, by omega, by go_num, HS⟩
        case measure => simp [intOf]; omega
      · obtain rfl : q = k := by omega
        go_wp2_with fail
        go_end0
        exact ⟨rfl, hO, hKT⟩
  · go_simp
    go_wp2_with (go_at_call 65; refine (HK.out _).mono ?_; rintro e W5 ⟨rfl, hb5⟩; have hS := hS.below hb5; have ho2 := ho2.below hb5 (Nat.le_refl _); have hcb := cell_below hcb hb5)
    refine hK.out _ _ (hS) (fun hHeld => ?_)
    clear hK K
    refine tkq 7 (some 16) (v := ?_) rfl (Or.inl ⟨by rfl, ?_⟩) (by assumption) ?_
    rotate_left
    · intro w hSw; (try dsimp only at hSw); go_simp; first | done | (with_reducible rfl)
    simp only [Act.put, List.setIfInBounds_toArray, List.set_cons_zero, List.set_cons_succ]
    refine wpAnyH_ready (rs := [2]) (by kernel_rfl) (by simp) ?_
    refine AllReadyH.cons rfl (fun K hK => ?_) AllReadyH.nil
    have hnn' : 0 < nn := (by omega)
    go_simp
    go_wp2_with (fail)
    refine hK.out _ _ (hS) (fun hHeld => ?_)
    clear hK K
    refine tkq 8 (some 17) (v := ?_) rfl (Or.inl ⟨by rfl, ?_⟩) (by assumption) ?_
    rotate_left
    · intro w hSw; (try dsimp only at hSw); go_simp; first | done | (with_reducible rfl)
    simp only [Act.put, List.setIfInBounds_toArray, List.set_cons_zero, List.set_cons_succ]
    refine tkq 9 (some 18) (v := ?_) rfl (Or.inl ⟨by rfl, ?_⟩) (by assumption) ?_
    rotate_left
    · intro w hSw; (try dsimp only at hSw); have hnn' : 0 < nn := (by omega); go_simp; first | done | (with_reducible rfl)
    simp only [Act.put, List.setIfInBounds_toArray, List.set_cons_zero, List.set_cons_succ]
    refine wpAnyH_ready (rs := [10]) (by kernel_rfl) (by simp) ?_
    refine AllReadyH.cons rfl (fun K hK => ?_) AllReadyH.nil
    have HV2 := HV.out
    obtain ⟨_, hgl5, hbg5, hfz⟩ := own_cell ho2 HL.out 0 x0 HX.out
    have hO3 := (own_set ho2 HL.out (by omega) 0 V hVb).cast HF.out.symm
    have hS3 := hS.kept hgh' hgm' ((Kept.refl (· = g) W5).setAt 0 (.int .u8 V))
    have HS := Lib.hid (And.intro hO3 hS3)
    clear ho2 hS hO3 hS3
    go_simp
    go_wp2_with (fail)
    refine hK.out _ _ (HS.out.2) (fun hHeld => ?_)
    clear hK K
    refine wpAnyH_done (by kernel_rfl) ?_ _
    obtain ⟨W6, hW6⟩ : ∃ x, W5.setCell ⟨g, 0, none⟩ (.int .u8 V) = x := ⟨_, rfl⟩
    have HS1 := HS.out
    rw [hW6] at HS1 ⊢
    clear HS hW6
    have hcw := (show W6.cell? ⟨w.heap.size, 18, none⟩ = some (.int .i64 (k : Int)) by rw [HS1.2.h.cell 18]; exact HL18.out)
    have HI := Lib.hid (And.intro (HS1.1.cast (turnL_zero F ms a).symm) (And.intro HS1.2.m HS1.2.k))
    clear HS1
    go_wp2_with fail
    go_loopw [21] (fun i wr => ∃ q : Nat, q ≤ k ∧ i = .int .i64 q ∧ Hid (Own wr base 5 (.slice (some ⟨g, 0, none⟩) nn c) (turnL F ms a q) ∧ At wr w1.heap.size 77 M ∧ Kept (· = g) w wr)) (fun i _ => k - (intOf i).toNat)
    case atStart => exact ⟨0, Nat.zero_le _, rfl, HI⟩
    case round =>
      obtain ⟨q, hq, rfl, hst⟩ := hrel
      obtain ⟨wo, rfl⟩ : ∃ wo : World, wo = wr := ⟨_, rfl⟩
      have hO := hst.out.1
      have hM := hst.out.2.1
      have hKT := hst.out.2.2
      clear hst HI
      by_cases hlt : q < k
      · have hTl : (turnL F ms a q).length = nn := by rw [turnL_len, HFL.out]
        obtain ⟨y, hy⟩ : ∃ y, F.getD (a + q) 0 = y := ⟨_, rfl⟩
        have hnx := turnL_next F ms a q (by rw [HFL.out]; omega)
        rw [hy] at hnx
        obtain ⟨z, hz⟩ : ∃ z, ms.getD (1 + q) 0 = z := ⟨_, rfl⟩
        have hcz := (show wo.cell? ⟨w1.heap.size, 1 + q, none⟩ = some (.int .u8 z) by rw [hM.cell, HM.out _ (by omega), hz])
        have hset := turnL_set F ms a q (bits BinOp.xor IntKind.u8 y z) (by rw [HFL.out]; omega) (by rw [hy, hz]; rfl)
        obtain ⟨U, hU⟩ : ∃ u, bits BinOp.xor IntKind.u8 y z = u := ⟨_, rfl⟩
        have hUb := (show 0 ≤ U ∧ U < 256 by rw [← hU]; exact u8_bits_bd _ _ _)
        rw [hU] at hset
        have HU := Lib.hid hU
        have HNX := Lib.hid hnx
        have HST := Lib.hid hset
        have HNL := Lib.hid hTl
        obtain ⟨r, hr⟩ : ∃ r, a + q = r := ⟨_, rfl⟩
        have hrI := (show (a : Int) + (q : Int) = (r : Int) by omega)
        have hr1 := (show r < nn by omega)
        have hr1I := (show (r : Int) < (nn : Int) by omega)
        obtain ⟨t, ht⟩ : ∃ t, 1 + q = t := ⟨_, rfl⟩
        have htI := (show 1 + (q : Int) = (t : Int) by omega)
        have ht1 := (show t < 5 by omega)
        have ht1I := (show (t : Int) < 5 by omega)
        rw [hr] at HNX HST
        rw [ht] at hcz
        have hp1 := (show IntKind.i64.wrap (r : Int) = (r : Int) from IntWalk.i64_in _ (by omega))
        have hp2 := (show IntKind.i64.wrap (t : Int) = (t : Int) from IntWalk.i64_in _ (by omega))
        clear hy hz hset hnx hTl hU hr ht
        go_wp2_with fail
        obtain ⟨Y, hY⟩ : ∃ x, wo.drew = x := ⟨_, rfl⟩
        have hO := hO.drew
        have hM := hM.drew
        have hKT := hKT.drew
        have hcz := (show wo.drew.cell? ⟨w1.heap.size, t, none⟩ = some (.int .u8 z) from hcz)
        rw [hY] at hO hM hKT hcz
        obtain ⟨hcr, hgl7, hbg7, hfz7⟩ := own_cell hO HNL.out r y HNX.out
        refine wp_region_held_drew (S := (fun W => At W w1.heap.size 77 M ∧ W.cell? ⟨w1.heap.size, t, none⟩ = some (.int .u8 z))) (by kernel_rfl) (by rw [hY]; exact ⟨hM, hcz⟩) (fun hHeld => ?_)
        rw [hY] at hHeld ⊢
        clear hY
        refine tkq 0 (some 24) (v := ?_) rfl (Or.inl ⟨by rfl, ?_⟩) (by assumption) ?_
        rotate_left
        · intro w hSw; (try dsimp only at hSw); go_simp; first | done | (with_reducible rfl)
        simp only [Act.put, List.setIfInBounds_toArray, List.set_cons_zero, List.set_cons_succ]
        refine tkq 1 (some 25) (v := ?_) rfl (Or.inl ⟨by rfl, ?_⟩) (by assumption) ?_
        rotate_left
        · intro w hSw; (try dsimp only at hSw); go_simp; first | done | (with_reducible rfl)
        simp only [Act.put, List.setIfInBounds_toArray, List.set_cons_zero, List.set_cons_succ]
        refine tkq 2 (some 26) (v := ?_) rfl (Or.inl ⟨by rfl, ?_⟩) (by assumption) ?_
        rotate_left
        · intro w hSw; (try dsimp only at hSw); go_simp; first | done | (with_reducible rfl)
        simp only [Act.put, List.setIfInBounds_toArray, List.set_cons_zero, List.set_cons_succ]
        refine tkq 3 (some 27) (v := ?_) rfl (Or.inl ⟨by rfl, ?_⟩) (by assumption) ?_
        rotate_left
        · intro w hSw; (try dsimp only at hSw); go_simp; first | done | (with_reducible rfl)
        simp only [Act.put, List.setIfInBounds_toArray, List.set_cons_zero, List.set_cons_succ]
        refine tkq 4 (some 28) (v := ?_) rfl (Or.inl ⟨by rfl, ?_⟩) (by assumption) ?_
        rotate_left
        · intro w hSw; (try dsimp only at hSw); go_simp; first | done | (with_reducible rfl)
        simp only [Act.put, List.setIfInBounds_toArray, List.set_cons_zero, List.set_cons_succ]
        refine tkq 6 (some 30) (v := ?_) rfl (Or.inl ⟨by rfl, ?_⟩) (by assumption) ?_
        rotate_left
        · intro w hSw; (try dsimp only at hSw); go_simp; first | done | (with_reducible rfl)
        simp only [Act.put, List.setIfInBounds_toArray, List.set_cons_zero, List.set_cons_succ]
        refine tkq 7 (some 31) (v := ?_) rfl (Or.inl ⟨by rfl, ?_⟩) (by assumption) ?_
        rotate_left
        · intro w hSw; (try dsimp only at hSw); go_simp; first | done | (with_reducible rfl)
        simp only [Act.put, List.setIfInBounds_toArray, List.set_cons_zero, List.set_cons_succ]
        refine tkq 8 (some 32) (v := ?_) rfl (Or.inl ⟨by rfl, ?_⟩) (by assumption) ?_
        rotate_left
        · intro w hSw; (try dsimp only at hSw); go_simp; first | done | (with_reducible rfl)
        simp only [Act.put, List.setIfInBounds_toArray, List.set_cons_zero, List.set_cons_succ]
        refine tkq 9 (some 33) (v := ?_) rfl (Or.inl ⟨by rfl, ?_⟩) (by assumption) ?_
        rotate_left
        · intro w hSw; (try dsimp only at hSw); have ht := hSw.2; go_simp; first | done | (with_reducible rfl)
        simp only [Act.put, List.setIfInBounds_toArray, List.set_cons_zero, List.set_cons_succ]
        refine wpAnyH_ready (rs := [5]) (by kernel_rfl) (by simp) ?_
        refine AllReadyH.cons rfl (fun K hK => ?_) AllReadyH.nil
        go_simp
        go_wp2_with (fail)
        refine hK.out _ _ (⟨hM, hcz⟩) (fun hHeld => ?_)
        clear hK K
        refine tkq 10 (some 34) (v := ?_) rfl (Or.inl ⟨by rfl, ?_⟩) (by assumption) ?_
        rotate_left
        · intro w hSw; (try dsimp only at hSw); go_simp; first | done | (with_reducible rfl)
        simp only [Act.put, List.setIfInBounds_toArray, List.set_cons_zero, List.set_cons_succ]
        refine tkq 11 (some 35) (v := ?_) rfl (Or.inl ⟨by rfl, ?_⟩) (by assumption) ?_
        rotate_left
        · intro w hSw; (try dsimp only at hSw); go_simp; first | done | (with_reducible rfl)
        simp only [Act.put, List.setIfInBounds_toArray, List.set_cons_zero, List.set_cons_succ]
        refine wpAnyH_ready (rs := [12]) (by kernel_rfl) (by simp) ?_
        refine AllReadyH.cons rfl (fun K hK => ?_) AllReadyH.nil
        have HV2 := HU.out
        have hO3 := (own_set hO HNL.out (by omega) r U hUb).cast HST.out
        have hM3 := hM.kept ((Kept.refl (· = g) Y).setAt r (.int .u8 U)) hgm'
        have hK3 := hKT.setAt r (.int .u8 U)
        have hcz3 := (show (Y.setCell ⟨g, r, none⟩ (.int .u8 U)).cell? ⟨w1.heap.size, t, none⟩ = some (.int .u8 z) by rw [hM3.cell, ← hM.cell]; exact hcz)
        have HS := Lib.hid (And.intro hO3 (And.intro hM3 hK3))
        have HS2 := Lib.hid hcz3
        clear hO hM hKT hO3 hM3 hK3 hcz3
        go_simp
        go_wp2_with (fail)
        refine hK.out _ _ (⟨HS.out.2.1, HS2.out⟩) (fun hHeld => ?_)
        clear hK K
        refine wpAnyH_done (by kernel_rfl) ?_ _
        go_wp2_with fail
        go_roundw
        case rel => exact ⟨q + 1, by omega, by go_num, HS⟩
        case measure => simp [intOf]; omega
      · obtain rfl : q = k := by omega
        go_wp2_with fail
        go_end0
        exact ⟨rfl, hO, hKT⟩
end Go.Proofs.Ytehdilgnlhhjdaa
