/-
  Chapter 5's runs: the closed call 'known' of the statements returns true. What a head's block holds, loaded in parts.
-/
import Derived.Test.YtbioajgmceodhaaHp
import Derived.Test.YtbioajgmceodhaaHe
import Derived.Test.YtbioajgmceodhaaInRow
namespace Go.Proofs.Ytbioajgmceodhaa
set_option linter.unusedVariables false
set_option linter.unusedSimpArgs false
open Go.RowKit
section
variable {P : Program} {ops : Array Oper} {rest : List Oper} {a : Act} {w : World} {Q : Exit → Act → World → Prop} {dst : Option Tmp} {x y : Operand} {ty t : TypeId} {pos : String} {after : Array Edge} {g : Option (Nat × Bool)}
theorem ld_off_g (p off : Nat) (l : List Value) (d : TypeDesc) (hg : Region.wanted ⟨dst, .load ty x, t, pos, after, g⟩ (yielded ops a.tmps) = true) (hx : a.eval x = .pointer (some ⟨p, off, none⟩)) (hA : w.rangeAt p off l) (hu : P.underlying ty = some d) (hd : d.isRow = true)
    (hi : (P.info? ty).map (·.size) = some l.length) (h : wpList P ops Q rest (a.put dst (.agg l.toArray)) w) : wpList P ops Q (⟨dst, .load ty x, t, pos, after, g⟩ :: rest) a w := by
  refine wpList_step fun K hK => ?_
  rw [if_pos hg]
  exact wp_load_mid _ _ rfl p off hx l _ hA hu hd hi (hK _ _ h)
end
theorem hd_to {w : World} {g : Nat} {m : HN} {d : Sl} (h : At w g 28 (hdL m d)) : w.rangeAt g 1 (m.t.l.map (Value.int .u8)) := by
  intro j v hj
  rw [h.cell]
  have hj8 : j < 8 := (List.getElem?_eq_some_iff.1 hj).1
  have : j = 0 ∨ j = 1 ∨ j = 2 ∨ j = 3 ∨ j = 4 ∨ j = 5 ∨ j = 6 ∨ j = 7 := by omega
  rcases this with rfl | rfl | rfl | rfl | rfl | rfl | rfl | rfl <;> exact hj
theorem hd_from {w : World} {g : Nat} {m : HN} {d : Sl} (h : At w g 28 (hdL m d)) : w.rangeAt g 9 (m.f.l.map (Value.int .u8)) := by
  intro j v hj
  rw [h.cell]
  have hj8 : j < 8 := (List.getElem?_eq_some_iff.1 hj).1
  have : j = 0 ∨ j = 1 ∨ j = 2 ∨ j = 3 ∨ j = 4 ∨ j = 5 ∨ j = 6 ∨ j = 7 := by omega
  rcases this with rfl | rfl | rfl | rfl | rfl | rfl | rfl | rfl <;> exact hj
theorem run_n8' (W : World) (m m' : N8) : (Op.equalIn 10000 26 (.agg (m.l.map (Value.int .u8)).toArray) (.agg (m'.l.map (Value.int .u8)).toArray)).run Try.prog W = .ok (n8B m m') W := run_n8 W m m'
theorem parse_nil : parseS [] = none := by
  unfold parseS; simp only; rw [if_pos (by decide)]
theorem parse_one : parseS [1] = none := by
  unfold parseS; simp only; rw [if_pos (by decide)]
set_option maxRecDepth 100000 in
set_option maxHeartbeats 1000000 in
theorem hknown_any (w : World) : Calls Try.prog 12 #[] w (FrPost (.bool true) w) := by
  have hZ := fun W => hsize_any (fun _ => True) ⟨2, .zero, .zero, 2, false⟩ Sl.nil [] W
  have hZ9 : hsizeS ⟨2, .zero, .zero, 2, false⟩ [] = 9 := by
    unfold hsizeS; rw [if_pos (by decide)]; rfl
  have hwf2 : HN.wf ⟨2, .zero, .zero, 2, false⟩ := by
    constructor
    · show (-9223372036854775808 : Int) ≤ 2; decide
    · show (2 : Int) ≤ 9223372036854775807; decide
    · show (-9223372036854775808 : Int) ≤ 2; decide
    · show (2 : Int) ≤ 9223372036854775807; decide
    · exact wf_zero8.tb
    · exact wf_zero8.fb
  have hwf1 : HN.wf ⟨0, .zero, .zero, 1, false⟩ := by
    constructor
    · show (-9223372036854775808 : Int) ≤ 0; decide
    · show (0 : Int) ≤ 9223372036854775807; decide
    · show (-9223372036854775808 : Int) ≤ 1; decide
    · show (1 : Int) ≤ 9223372036854775807; decide
    · exact wf_zero8.tb
    · exact wf_zero8.fb
  have hS := Lib.hid (fun W => hZ W ⟨hwf2, InD.nil_ _ _⟩)
  rw [hZ9] at hS
  have hE := Lib.hid (fun W => henc_no (fun _ => True) HN.zero Sl.nil [] 20 W ⟨wf_zero8, InD.nil_ _ _⟩ (.inl (by decide)))
  have hR := Lib.hid (fun W => hright_any (fun _ => True) ⟨0, .zero, .zero, 1, false⟩ Sl.nil [] W ⟨hwf1, InD.nil_ _ _⟩)
  have hrt : hrightB ⟨0, .zero, .zero, 1, false⟩ Sl.nil.n = true := by decide
  rw [hrt] at hR
  have HP := Lib.hid (hparse_any none 0 0 [] w (Rd.none_ _ _ _) (by decide) (fun _ => rfl))
  clear hZ hZ9 hwf2 hwf1 hrt
  go_enter Try.func12, Try.ntmps12
  go_wp2_with fail
  refine (HP.out).mono ?_
  intro e w1 h
  unfold HPPost at h
  rw [parse_nil] at h
  obtain ⟨rfl, hb1⟩ := h
  have hb2 := hb1.alloc hb1.size (.cells (hdL HN.zero Sl.nil).toArray 28)
  obtain ⟨w2, hw2⟩ : ∃ x, w1.alloc (.cells (hdL HN.zero Sl.nil).toArray 28) = x := ⟨_, rfl⟩
  rw [hw2] at hb2
  go_wp2_with (first | ((with_reducible refine at_sth (x := .tmp 1) ?_); refine wpList_store_top w1 28 (hdL HN.zero Sl.nil) (hdL HN.zero Sl.nil) (by rfl) _ (by rfl) (by rfl) (by rfl) (by rfl) hd_info (by rfl) ?_; rw [hw2]; clear hw2) | fail)
  refine (hE.out _).mono ?_
  rintro e w3 ⟨rfl, hb3⟩
  have hb3 := hb2.trans (hb3.mono hb2.size)
  go_wp2_with fail
  have hrd : Rd (w3.alloc (.cells #[Value.int .u8 1] 5)) (w3.heap.size + 1) (some ⟨w3.heap.size, 0, none⟩) 1 [1] := Rd.byte w3 5 _ rfl 1 (by decide)
  have hs4 : (w3.alloc (.cells #[Value.int .u8 1] 5)).heap.size = w3.heap.size + 1 := by simp
  have hb4 := hb3.alloc hb3.size (.cells #[Value.int .u8 1] 5)
  refine (hfirst_any _ 1 1 [1] _ (by rw [hs4]; exact hrd) (by decide) (fun h => by cases h)).mono ?_
  intro e w5 h
  unfold FirstPost at h
  rw [parse_one] at h
  obtain ⟨rfl, hb5⟩ := h
  have hb5 := hb4.trans (hb5.mono hb4.size)
  simp only [N8.v, N8.zero, Option.isSome_none]
  have hb6 := hb5.alloc hb5.size (.cells (List.replicate 8 (Value.int .u8 0)).toArray 26)
  obtain ⟨w6, hw6⟩ : ∃ x, w5.alloc (.cells (List.replicate 8 (Value.int .u8 0)).toArray 26) = x := ⟨_, rfl⟩
  rw [hw6] at hb6
  go_wp2_with (first | (refine wpList_store_top (ty := 26) w5 26 (List.replicate 8 (Value.int .u8 0)) (List.replicate 8 (Value.int .u8 0)) (by rfl) _ (by rfl) (by rfl) (by rfl) (by rfl) cid_info (by rfl) ?_; rw [hw6]; clear hw6) | fail)
  refine (hS.out _).mono ?_
  rintro e w7 ⟨rfl, hb7⟩
  have hb7 := hb6.trans (hb7.mono hb6.size)
  go_wp2_with fail
  refine (hR.out _).mono ?_
  rintro e w8 ⟨rfl, hb8⟩
  go_wp2_with fail
  go_ret
  exact ⟨rfl, hb7.trans (hb8.mono hb7.size)⟩
end Go.Proofs.Ytbioajgmceodhaa
