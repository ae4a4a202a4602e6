/-
  The document's own Parse (narthexref5), whatever bytes.
-/
import Derived.Test.YtehdilgnlhhjdaaHrp0
import Derived.Test.YtehdilgnlhhjdaaHrp1
import Derived.Test.YtehdilgnlhhjdaaHrp2
import Derived.IntWalk
import Derived.Test.YtehdilgnlhhjdaaMq12
namespace Go.Proofs.Ytehdilgnlhhjdaa
set_option linter.unusedVariables false
set_option linter.unusedSimpArgs false
open Go.RowKit
theorem rparse_any (A : Option Addr) (n c : Nat) (bs : List Int) (w : World) (hr : Rd w w.heap.size A n bs) (hn : n ≤ 1000000) (hnc : n ≤ c) (hcm : c ≤ maxLen) (hA : A = none → c = 0) :
    Calls Try.prog 28 #[.slice A n c] w (RPPost bs w) := by
  have hbx := byteR_bd (bs, false) hr.2.1
  by_cases hx : byteR (bs, false) / 64 % 2 = 0
  · exact rparse_no A n c bs w hr hn hnc hcm hA hx
  by_cases hy : byteR (bs, false) / 128 = 0
  · exact rparse_short A n c bs w hr hn hnc hcm hA hx hy
  rcases (show byteR (bs, false) / 16 % 4 = 0 ∨ byteR (bs, false) / 16 % 4 = 1 ∨ byteR (bs, false) / 16 % 4 = 2 ∨ byteR (bs, false) / 16 % 4 = 3 by omega) with h | h | h | h
  · exact rparse_l0 A n c bs w hr hn hnc hcm hA hx hy h
  · exact rparse_l1 A n c bs w hr hn hnc hcm hA hx hy h
  · exact rparse_l2 A n c bs w hr hn hnc hcm hA hx hy h
  · exact rparse_l3 A n c bs w hr hn hnc hcm hA hx hy h
theorem at_ldc_ {ops : Array Oper} {rest : List Oper} {a : Act} {w : World} {Q : Exit → Act → World → Prop} {dst : Option Tmp} {x : Operand} {t : TypeId} {pos : String} {after : Array Edge} {g : Option (Nat × Bool)} (h : wpList Try.prog ops Q (⟨dst, .load 27 x, t, pos, after, g⟩ :: rest) a w) : wpList Try.prog ops Q (⟨dst, .load 27 x, t, pos, after, g⟩ :: rest) a w := h
set_option maxRecDepth 100000 in
set_option maxHeartbeats 2000000 in
theorem rhsame_eq (P P' : Nat → Prop) (m : HN) (d d' : Sl) (tok : List Int) (w : World) (hf : HFits w P m d tok) (hf' : HFits w P' m d' tok) :
    Calls Try.prog 17 #[hdV m d, hdV m d'] w (FrPost (.bool true) w) := by
  have hB : Below w.heap.size w ((w.alloc (.cells (hdL m d).toArray 30)).alloc (.cells (hdL m d').toArray 30)) := ((Below.refl _ _).alloc (Nat.le_refl _) _).alloc (by simp) _
  have hG : At ((w.alloc (.cells (hdL m d).toArray 30)).alloc (.cells (hdL m d').toArray 30)) w.heap.size 30 (hdL m d) := (At.new w _ _).alloc _
  have hH : At ((w.alloc (.cells (hdL m d).toArray 30)).alloc (.cells (hdL m d').toArray 30)) (w.heap.size + 1) 30 (hdL m d') := At.new_ _ _ _ (by simp)
  have hf2 := hf.below hB
  have hf2' := hf'.below hB
  have t1 := run_text (P := Try.prog) (c := d.c) hf2.dt.rd.1 28 5 9 Try.underlying28 Try.underlying5 Try.underlying9
  have t2 := run_text (P := Try.prog) (c := d'.c) hf2'.dt.rd.1 28 5 9 Try.underlying28 Try.underlying5 Try.underlying9
  obtain ⟨TX, hTX⟩ : ∃ x, strOfNums tok = x := ⟨_, rfl⟩
  rw [hTX] at t1 t2
  have hTT : (TX == TX) = true := bb_refl TX
  obtain ⟨C, hC⟩ : ∃ C, m.t.l.map (Value.int .u8) = C := ⟨_, rfl⟩
  obtain ⟨D, hD⟩ : ∃ D, m.f.l.map (Value.int .u8) = D := ⟨_, rfl⟩
  have hCl : C.length = 8 := by rw [← hC]; rfl
  have hDl : D.length = 8 := by rw [← hD]; rfl
  have RC : ∀ W : World, (Op.equalIn 10000 27 (.agg C.toArray) (.agg C.toArray)).run Try.prog W = .ok true W := fun W => by
    have := run_n8' W m.t m.t; rw [n8B_refl, hC] at this; exact this
  have RD : ∀ W : World, (Op.equalIn 10000 27 (.agg D.toArray) (.agg D.toArray)).run Try.prog W = .ok true W := fun W => by
    have := run_n8' W m.f m.f; rw [n8B_refl, hD] at this; exact this
  have a1 := hd_to hG
  have a9 := hd_from hG
  have b1 := hd_to hH
  have b9 := hd_from hH
  rw [hC] at a1 b1
  rw [hD] at a9 b9
  obtain ⟨sp, hsp⟩ : ∃ x, m.s = x := ⟨_, rfl⟩
  obtain ⟨wd, hwd⟩ : ∃ x, m.w = x := ⟨_, rfl⟩
  obtain ⟨ph, hph⟩ : ∃ x, m.ph = x := ⟨_, rfl⟩
  obtain ⟨L, hL⟩ : ∃ L, hdL m d = L := ⟨_, rfl⟩
  obtain ⟨L', hL'⟩ : ∃ L, hdL m d' = L := ⟨_, rfl⟩
  have hfv : hdV m d = .agg L.toArray := by rw [← hL]; rfl
  have hfv' : hdV m d' = .agg L'.toArray := by rw [← hL']; rfl
  have l0 : L[0]? = some (.int .i64 m.s) := by rw [← hL]; rfl
  have l17 : L[17]? = some (.slice d.A d.n d.c) := by rw [← hL]; rfl
  have l18 : L[18]? = some (.int .i64 m.w) := by rw [← hL]; rfl
  have l19 : L[19]? = some (.bool m.ph) := by rw [← hL]; rfl
  have k0 : L'[0]? = some (.int .i64 m.s) := by rw [← hL']; rfl
  have k17 : L'[17]? = some (.slice d'.A d'.n d'.c) := by rw [← hL']; rfl
  have k18 : L'[18]? = some (.int .i64 m.w) := by rw [← hL']; rfl
  have k19 : L'[19]? = some (.bool m.ph) := by rw [← hL']; rfl
  rw [hL, hL'] at hB hG hH t1 t2 a1 a9 b1 b9
  rw [hfv, hfv']
  rw [hsp] at l0 k0
  rw [hwd] at l18 k18
  rw [hph] at l19 k19
  have a0 := (hG.cell 0).trans l0
  have b0 := (hH.cell 0).trans k0
  have a17 := (hG.cell 17).trans l17
  have b17 := (hH.cell 17).trans k17
  have a18 := (hG.cell 18).trans l18
  have b18 := (hH.cell 18).trans k18
  have a19 := (hG.cell 19).trans l19
  have b19 := (hH.cell 19).trans k19
  have HB := Lib.hid hB
  have HCl := Lib.hid hCl
  have HDl := Lib.hid hDl
  clear hB hG hH hf2 hf2' hf hf' hTX hC hD hCl hDl hsp hwd hph hfv hfv' hL hL' l0 l17 l18 l19 k0 k17 k18 k19
  obtain ⟨xA, xn, xc⟩ := d
  obtain ⟨yA, yn, yc⟩ := d'
  simp only at a17 b17 t1 t2
  go_enter Try.func17, Try.ntmps17
  go_wp2_with (first
    | ((with_reducible refine at_ldc_ (x := .tmp 11) ?_); refine ld_off_g w.heap.size 1 C _ (by rfl) (by rfl) a1 Try.underlying27 rfl (by rw [HCl.out]; exact cid_info) ?_)
    | ((with_reducible refine at_ldc_ (x := .tmp 13) ?_); refine ld_off_g (w.heap.size + 1) 1 C _ (by rfl) (by rfl) b1 Try.underlying27 rfl (by rw [HCl.out]; exact cid_info) ?_)
    | ((with_reducible refine at_ldc_ (x := .tmp 18) ?_); refine ld_off_g w.heap.size 9 D _ (by rfl) (by rfl) a9 Try.underlying27 rfl (by rw [HDl.out]; exact cid_info) ?_)
    | ((with_reducible refine at_ldc_ (x := .tmp 20) ?_); refine ld_off_g (w.heap.size + 1) 9 D _ (by rfl) (by rfl) b9 Try.underlying27 rfl (by rw [HDl.out]; exact cid_info) ?_)
    | fail)
  go_ret
  exact ⟨by simp, HB.out⟩
end Go.Proofs.Ytehdilgnlhhjdaa
