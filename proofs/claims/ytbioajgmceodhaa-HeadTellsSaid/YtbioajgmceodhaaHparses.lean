/-
  The document's own Parse (narthexref5), whatever bytes.
-/
import Derived.Test.YtbioajgmceodhaaHrp0
import Derived.Test.YtbioajgmceodhaaHrp1
import Derived.Test.YtbioajgmceodhaaHrp2
import Derived.IntWalk
import Derived.Test.YtbioajgmceodhaaHkn
namespace Go.Proofs.Ytbioajgmceodhaa
set_option linter.unusedVariables false
set_option linter.unusedSimpArgs false
open Go.RowKit
theorem rparse_any (A : Option Addr) (n c : Nat) (bs : List Int) (w : World) (hr : Rd w w.heap.size A n bs) (hn : n ≤ 1000000) (hnc : n ≤ c) (hcm : c ≤ maxLen) (hA : A = none → c = 0) :
    Calls Try.prog 22 #[.slice A n c] w (RPPost bs w) := by
  have hbx := byteR_bd (bs, false) hr.2.1
  by_cases hx : byteR (bs, false) / 64 % 2 = 0
  · exact rparse_no A n c bs w hr hn hnc hcm hA hx
  by_cases hy : byteR (bs, false) / 128 = 0
  · exact rparse_short A n c bs w hr hn hnc hcm hA hx hy
  rcases (show byteR (bs, false) / 16 % 4 = 0 ∨ byteR (bs, false) / 16 % 4 = 1 ∨ byteR (bs, false) / 16 % 4 = 2 ∨ byteR (bs, false) / 16 % 4 = 3 by omega) with h | h | h | h
  · exact rparse_l0 A n c bs w hr hn hnc hcm hA hx hy h
  · exact rparse_l1 A n c bs w hr hn hnc hcm hA hx hy h
  · exact rparse_l2 A n c bs w hr hn hnc hcm hA hx hy h
  · exact rparse_l3 A n c bs w hr hn hnc hcm hA hx hy h
theorem at_ldc_ {ops : Array Oper} {rest : List Oper} {a : Act} {w : World} {Q : Exit → Act → World → Prop} {dst : Option Tmp} {x : Operand} {t : TypeId} {pos : String} {after : Array Edge} {g : Option (Nat × Bool)} (h : wpList Try.prog ops Q (⟨dst, .load 26 x, t, pos, after, g⟩ :: rest) a w) : wpList Try.prog ops Q (⟨dst, .load 26 x, t, pos, after, g⟩ :: rest) a w := h
set_option maxRecDepth 100000 in
set_option maxHeartbeats 2000000 in
theorem rhsame_eq (P P' : Nat → Prop) (m : HN) (d d' : Sl) (tok : List Int) (w : World) (hf : HFits w P m d tok) (hf' : HFits w P' m d' tok) :
    Calls Try.prog 23 #[hdV m d, hdV m d'] w (FrPost (.bool true) w) := by
  have hB : Below w.heap.size w ((w.alloc (.cells (hdL m d).toArray 28)).alloc (.cells (hdL m d').toArray 28)) := ((Below.refl _ _).alloc (Nat.le_refl _) _).alloc (by simp) _
  have hG : At ((w.alloc (.cells (hdL m d).toArray 28)).alloc (.cells (hdL m d').toArray 28)) w.heap.size 28 (hdL m d) := (At.new w _ _).alloc _
  have hH : At ((w.alloc (.cells (hdL m d).toArray 28)).alloc (.cells (hdL m d').toArray 28)) (w.heap.size + 1) 28 (hdL m d') := At.new_ _ _ _ (by simp)
  have hf2 := hf.below hB
  have hf2' := hf'.below hB
  have t1 := run_text (P := Try.prog) (c := d.c) hf2.dt.rd.1 22 5 9 Try.underlying22 Try.underlying5 Try.underlying9
  have t2 := run_text (P := Try.prog) (c := d'.c) hf2'.dt.rd.1 22 5 9 Try.underlying22 Try.underlying5 Try.underlying9
  obtain ⟨TX, hTX⟩ : ∃ x, strOfNums tok = x := ⟨_, rfl⟩
  rw [hTX] at t1 t2
  have hTT : (TX == TX) = true := bb_refl TX
  obtain ⟨C, hC⟩ : ∃ C, m.t.l.map (Value.int .u8) = C := ⟨_, rfl⟩
  obtain ⟨D, hD⟩ : ∃ D, m.f.l.map (Value.int .u8) = D := ⟨_, rfl⟩
  have hCl : C.length = 8 := by rw [← hC]; rfl
  have hDl : D.length = 8 := by rw [← hD]; rfl
  have RC : ∀ W : World, (Op.equalIn 10000 26 (.agg C.toArray) (.agg C.toArray)).run Try.prog W = .ok true W := fun W => by
    have := run_n8' W m.t m.t; rw [n8B_refl, hC] at this; exact this
  have RD : ∀ W : World, (Op.equalIn 10000 26 (.agg D.toArray) (.agg D.toArray)).run Try.prog W = .ok true W := fun W => by
    have := run_n8' W m.f m.f; rw [n8B_refl, hD] at this; exact this
  have a1 := hd_to hG
  have a9 := hd_from hG
  have b1 := hd_to hH
  have b9 := hd_from hH
  rw [hC] at a1 b1
  rw [hD] at a9 b9
  obtain ⟨sp, hsp⟩ : ∃ x, m.s = x := ⟨_, rfl⟩
  obtain ⟨wd, hwd⟩ : ∃ x, m.w = x := ⟨_, rfl⟩
  obtain ⟨ph, hph⟩ : ∃ x, m.ph = x := ⟨_, rfl⟩
  obtain ⟨L, hL⟩ : ∃ L, hdL m d = L := ⟨_, rfl⟩
  obtain ⟨L', hL'⟩ : ∃ L, hdL m d' = L := ⟨_, rfl⟩
  have hfv : hdV m d = .agg L.toArray := by rw [← hL]; rfl
  have hfv' : hdV m d' = .agg L'.toArray := by rw [← hL']; rfl
  have l0 : L[0]? = some (.int .i64 m.s) := by rw [← hL]; rfl
  have l17 : L[17]? = some (.slice d.A d.n d.c) := by rw [← hL]; rfl
  have l18 : L[18]? = some (.int .i64 m.w) := by rw [← hL]; rfl
  have l19 : L[19]? = some (.bool m.ph) := by rw [← hL]; rfl
  have k0 : L'[0]? = some (.int .i64 m.s) := by rw [← hL']; rfl
  have k17 : L'[17]? = some (.slice d'.A d'.n d'.c) := by rw [← hL']; rfl
  have k18 : L'[18]? = some (.int .i64 m.w) := by rw [← hL']; rfl
  have k19 : L'[19]? = some (.bool m.ph) := by rw [← hL']; rfl
  rw [hL, hL'] at hB hG hH t1 t2 a1 a9 b1 b9
  rw [hfv, hfv']
  rw [hsp] at l0 k0
  rw [hwd] at l18 k18
  rw [hph] at l19 k19
  have a0 := (hG.cell 0).trans l0
  have b0 := (hH.cell 0).trans k0
  have a17 := (hG.cell 17).trans l17
  have b17 := (hH.cell 17).trans k17
  have a18 := (hG.cell 18).trans l18
  have b18 := (hH.cell 18).trans k18
  have a19 := (hG.cell 19).trans l19
  have b19 := (hH.cell 19).trans k19
  have HB := Lib.hid hB
  have HCl := Lib.hid hCl
  have HDl := Lib.hid hDl
  clear hB hG hH hf2 hf2' hf hf' hTX hC hD hCl hDl hsp hwd hph hfv hfv' hL hL' l0 l17 l18 l19 k0 k17 k18 k19
  obtain ⟨xA, xn, xc⟩ := d
  obtain ⟨yA, yn, yc⟩ := d'
  simp only at a17 b17 t1 t2
  go_enter Try.func23, Try.ntmps23
  go_wp2_with (first
    | ((with_reducible refine at_ldc_ (x := .tmp 11) ?_); refine ld_off_g w.heap.size 1 C _ (by rfl) (by rfl) a1 Try.underlying26 rfl (by rw [HCl.out]; exact cid_info) ?_)
    | ((with_reducible refine at_ldc_ (x := .tmp 13) ?_); refine ld_off_g (w.heap.size + 1) 1 C _ (by rfl) (by rfl) b1 Try.underlying26 rfl (by rw [HCl.out]; exact cid_info) ?_)
    | ((with_reducible refine at_ldc_ (x := .tmp 18) ?_); refine ld_off_g w.heap.size 9 D _ (by rfl) (by rfl) a9 Try.underlying26 rfl (by rw [HDl.out]; exact cid_info) ?_)
    | ((with_reducible refine at_ldc_ (x := .tmp 20) ?_); refine ld_off_g (w.heap.size + 1) 9 D _ (by rfl) (by rfl) b9 Try.underlying26 rfl (by rw [HDl.out]; exact cid_info) ?_)
    | fail)
  go_ret
  exact ⟨by simp, HB.out⟩
theorem at_below {w w' : World} {p : Nat} {T : TypeId} {l : List Value} (h : At w p T l) (k : Below w.heap.size w w') : At w' p T l := h.below k h.lt
theorem parse_key (bs : List Int) : ∃ (m : HN) (tok : List Int) (a b : Int) (ok : Bool) (why : Int), (why = if ok then 0 else 12) ∧
    (∀ w e w', HPPost bs w e w' → ∃ d, e = .returned (.tuple #[hdV m d, .int .i64 a, .int .i64 b, .int .i64 why]) ∧ HFits w' (fun b => w.heap.size ≤ b) m d tok ∧ Below w.heap.size w w') ∧
    (∀ w e w', RPPost bs w e w' → ∃ d, e = .returned (.tuple #[hdV m d, .int .i64 a, .int .i64 b, .bool ok]) ∧ HFits w' (fun b => w.heap.size ≤ b) m d tok ∧ Below w.heap.size w w') ∧
    (∀ w e w', FirstPost bs w e w' → e = .returned (.tuple #[m.t.v, .bool ok]) ∧ Below w.heap.size w w') := by
  cases hp : parseS bs with
  | none =>
    refine ⟨HN.zero, [], 0, 0, false, 12, rfl, fun w e w' h => ?_, fun w e w' h => ?_, fun w e w' h => ?_⟩
    · unfold HPPost at h; rw [hp] at h
      exact ⟨Sl.nil, h.1, ⟨wf_zero8, InD.nil_ _ _⟩, h.2⟩
    · unfold RPPost at h; rw [hp] at h
      exact ⟨Sl.nil, h.1, ⟨wf_zero8, InD.nil_ _ _⟩, h.2⟩
    · unfold FirstPost at h; rw [hp] at h
      exact h
  | some x =>
    obtain ⟨m, tok, a, b⟩ := x
    refine ⟨m, tok, a, b, true, 0, rfl, fun w e w' h => ?_, fun w e w' h => ?_, fun w e w' h => ?_⟩
    · unfold HPPost at h; rw [hp] at h
      obtain ⟨⟨d, h1, h2, h3⟩, h4⟩ := h
      exact ⟨d, h1, ⟨h3, h2⟩, h4⟩
    · unfold RPPost at h; rw [hp] at h
      obtain ⟨⟨d, h1, h2, h3⟩, h4⟩ := h
      exact ⟨d, h1, ⟨h3, h2⟩, h4⟩
    · unfold FirstPost at h; rw [hp] at h
      exact h
set_option maxRecDepth 100000 in
set_option maxHeartbeats 2000000 in
theorem hparses_any (A : Option Addr) (n c : Nat) (bs : List Int) (w : World) (hr : Rd w w.heap.size A n bs) (hn : n ≤ 1000000) (hnc : n ≤ c) (hcm : c ≤ maxLen) (hA : A = none → c = 0) :
    Calls Try.prog 11 #[.slice A n c] w (FrPost (.bool true) w) := by
  obtain ⟨m, tok, a, b, ok, why, hwhy, k1, k2, k3⟩ := parse_key bs
  have K1 := Lib.hid k1
  have K2 := Lib.hid k2
  have K3 := Lib.hid k3
  clear k1 k2 k3
  obtain ⟨C, hC⟩ : ∃ C, m.t.l.map (Value.int .u8) = C := ⟨_, rfl⟩
  have hCl : C.length = 8 := by rw [← hC]; rfl
  have hCo : C.all (·.oneCell') = true := by rw [← hC]; rfl
  have RC : ∀ W : World, (Op.equalIn 10000 26 (.agg C.toArray) (.agg C.toArray)).run Try.prog W = .ok true W := fun W => by
    have := run_n8' W m.t m.t; rw [n8B_refl, hC] at this; exact this
  have hCv : m.t.v = .agg C.toArray := by rw [N8.v_l, hC]
  have HC := Lib.hid hC
  have HCl := Lib.hid hCl
  have HCo := Lib.hid hCo
  have HCv := Lib.hid hCv
  clear hC hCl hCo hCv
  have hc : (ok = false ∧ why = 12) ∨ (ok = true ∧ why = 0) := by
    cases ok
    · exact .inl ⟨rfl, by simpa using hwhy⟩
    · exact .inr ⟨rfl, by simpa using hwhy⟩
  clear hwhy
  rcases hc with ⟨rfl, rfl⟩ | ⟨rfl, rfl⟩
  all_goals
    go_enter Try.func11, Try.ntmps11
    go_wp2_with fail
    refine (hparse_any A n c bs w hr hn hA).mono ?_
    intro e w1 hpost
    obtain ⟨d, rfl, hf1, hb1⟩ := K1.out _ _ _ hpost
    clear hpost
    have hr1 := (hr.below hb1).more hb1.size
    have hb2 := hb1.alloc hb1.size (.cells (hdL m d).toArray 28)
    have hG2 := At.new w1 28 (hdL m d)
    have hf2 := hf1.below ((Below.refl w1.heap.size w1).alloc (Nat.le_refl _) (.cells (hdL m d).toArray 28))
    have hb12 : Below w1.heap.size w1 (w1.alloc (.cells (hdL m d).toArray 28)) := (Below.refl _ _).alloc (Nat.le_refl _) _
    obtain ⟨w2, hw2⟩ : ∃ x, w1.alloc (.cells (hdL m d).toArray 28) = x := ⟨_, rfl⟩
    rw [hw2] at hb2 hG2 hf2 hb12
    have hr2 := (hr1.below hb12).more hb12.size
    clear hf1 hb1 hr1 hb12
    go_wp2_with (first | ((with_reducible refine at_sth ?_); refine wpList_store_top w1 28 (hdL HN.zero Sl.nil) (hdL m d) (by rfl) _ (by rfl) (by rfl) (by rfl) (by rfl) hd_info (by rfl) ?_; rw [hw2]; clear hw2) | fail)
    obtain ⟨g3, hg3⟩ : ∃ g, w1.heap.size = g := ⟨_, rfl⟩
    rw [hg3] at hG2 ⊢
    clear hg3
    refine (rparse_any A n c bs w2 hr2 hn hnc hcm hA).mono ?_
    intro e w3 hpost
    obtain ⟨d', rfl, hf3', hb3⟩ := K2.out _ _ _ hpost
    clear hpost
    have hB3 := hb2.trans (hb3.mono hb2.size)
    have hr3 := (hr2.below hb3).more hb3.size
    have hG3 := at_below hG2 hb3
    have hf3 := hf2.below hb3
    clear hb2 hb3 hr2 hG2 hf2
    have hb34 : Below w3.heap.size w3 (w3.alloc (.cells (hdL m d').toArray 28)) := (Below.refl _ _).alloc (Nat.le_refl _) _
    have hH4 := At.new w3 28 (hdL m d')
    obtain ⟨w4, hw4⟩ : ∃ x, w3.alloc (.cells (hdL m d').toArray 28) = x := ⟨_, rfl⟩
    rw [hw4] at hb34 hH4
    have hB4 := hB3.trans (hb34.mono hB3.size)
    have hr4 := (hr3.below hb34).more hb34.size
    have hG4 := at_below hG3 hb34
    have hf4 := hf3.below hb34
    have hf4' := hf3'.below hb34
    clear hB3 hr3 hG3 hf3 hf3' hb34
    go_wp2_with (first | ((with_reducible refine at_sth ?_); refine wpList_store_top w3 28 (hdL HN.zero Sl.nil) (hdL m d') (by rfl) _ (by rfl) (by rfl) (by rfl) (by rfl) hd_info (by rfl) ?_; rw [hw4]; clear hw4) | fail)
    obtain ⟨g7, hg7⟩ : ∃ g, w3.heap.size = g := ⟨_, rfl⟩
    rw [hg7] at hH4 ⊢
    clear hg7
    refine (hfirst_any A n c bs w4 hr4 hn hA).mono ?_
    intro e w5 hpost
    obtain ⟨rfl, hb5⟩ := K3.out _ _ _ hpost
    clear hpost
    rw [HCv.out]
    have hB5 := hB4.trans (hb5.mono hB4.size)
    have hG5 := at_below hG4 hb5
    have hH5 := at_below hH4 hb5
    have hf5 := hf4.below hb5
    have hf5' := hf4'.below hb5
    clear hB4 hG4 hH4 hf4 hf4' hb5 hr4
    have hb56 : Below w5.heap.size w5 (w5.alloc (.cells C.toArray 26)) := (Below.refl _ _).alloc (Nat.le_refl _) _
    have hJ6 := At.new w5 26 C
    obtain ⟨w6, hw6⟩ : ∃ x, w5.alloc (.cells C.toArray 26) = x := ⟨_, rfl⟩
    rw [hw6] at hb56 hJ6
    have hB6 := hB5.trans (hb56.mono hB5.size)
    have hG6 := at_below hG5 hb56
    have hH6 := at_below hH5 hb56
    have hf6 := hf5.below hb56
    have hf6' := hf5'.below hb56
    clear hB5 hG5 hH5 hf5 hf5' hb56
    obtain ⟨g11, hg11⟩ : ∃ g, w5.heap.size = g := ⟨_, rfl⟩
    rw [hg11] at hJ6
    have HSM := Lib.hid (rhsame_eq _ _ m d d' tok w6 hf6 hf6')
    go_wp2_with (first
      | ((with_reducible refine at_ldc_ (x := .tmp 11) ?_); fail)
      | (refine wpList_store_top (ty := 26) w5 26 (List.replicate 8 (Value.int .u8 0)) C (by rfl) _ (by rfl) hg11.symm (by rfl) (by rw [HCl.out]; rfl) (by rw [HCl.out]; exact cid_info) HCo.out ?_; rw [hw6]; clear hw6 hg11)
      | ((with_reducible refine at_ldh (x := .tmp 3) ?_); refine ld_off_g g3 0 (hdL m d) _ (by rfl) (by rfl) hG6.rangeAt Try.underlying28 rfl hd_info ?_)
      | ((with_reducible refine at_ldh (x := .tmp 7) ?_); refine ld_off_g g7 0 (hdL m d') _ (by rfl) (by rfl) hH6.rangeAt Try.underlying28 rfl hd_info ?_)
      | fail)
    refine (HSM.out).mono ?_
    rintro e w7 ⟨rfl, hb7⟩
    have hH7 := hd_to (at_below hH6 hb7)
    have hJ7 := (at_below hJ6 hb7).rangeAt
    rw [HC.out] at hH7
    have hB7 := hB6.trans (hb7.mono hB6.size)
    go_wp2_with (first
      | ((with_reducible refine at_ldc_ (x := .tmp 11) ?_); refine ld_off_g g11 0 C _ (by rfl) (by rfl) hJ7 Try.underlying26 rfl (by rw [HCl.out]; exact cid_info) ?_)
      | ((with_reducible refine at_ldc_ (x := .tmp 65) ?_); refine ld_off_g g7 1 C _ (by rfl) (by rfl) hH7 Try.underlying26 rfl (by rw [HCl.out]; exact cid_info) ?_)
      | fail)
    go_ret
    exact ⟨by simp, hB7⟩
end Go.Proofs.Ytbioajgmceodhaa
