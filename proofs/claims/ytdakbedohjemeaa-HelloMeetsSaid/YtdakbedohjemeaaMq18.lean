/-
  The law's known.
-/
import Derived.Test.YtdakbedohjemeaaMq17
import Derived.Lib.SlBytesConst
import Derived.Test.YtdakbedohjemeaaMq8
import Derived.Test.YtdakbedohjemeaaA8
import Derived.Laws.StructEq
import Derived.Test.YtdakbedohjemeaaMq3
namespace Go.Proofs.Ytdakbedohjemeaa
section
set_option linter.unusedVariables false
set_option linter.unusedSimpArgs false
open Go.RowKit Go.ChangeShapes Go.WideShapes Go.Deep
section
variable {ops : Array Oper} {rest : List Oper} {a : Act} {w : World} {Q : Exit → Act → World → Prop} {dst : Option Tmp} {x y : Operand} {t : TypeId} {pos : String} {after : Array Edge} {g : Option (Nat × Bool)}
theorem ld_cidg (hg : Region.wanted ⟨dst, .load 24 x, t, pos, after, g⟩ (yielded ops a.tmps) = true) (p o : Nat) (m : N8) (hx : a.eval x = .pointer (some ⟨p, o, none⟩)) (hA : w.rangeAt p o (m.l.map (Value.int .u8)))
    (h : wpList Try.prog ops Q rest (a.put dst m.v) w) : wpList Try.prog ops Q (⟨dst, .load 24 x, t, pos, after, g⟩ :: rest) a w := by
  refine wpList_step fun K hK => ?_
  rw [if_pos hg]
  exact wp_load_mid 24 x rfl p o hx (m.l.map (Value.int .u8)) _ hA Try.underlying24 rfl (by rw [show (m.l.map (Value.int .u8)).length = 8 from rfl]; exact cid_info) (hK _ _ h)
end
theorem Rd.litk (w : World) (t : TypeId) (bs : List Int) (hb : Byt bs) (cs : Array Value) (fr : Nat × Nat) (hcs : cs = (bs.map (Value.int .u8)).toArray) :
    Rd (w.alloc (.cells cs t fr)) (w.heap.size + 1) (some ⟨w.heap.size, 0, none⟩) bs.length bs := by
  subst hcs
  refine ⟨rfl, hb, fun hp => ⟨w.heap.size, 0, rfl, by omega, fun i hi => ?_⟩⟩
  have hg : (w.alloc (.cells (bs.map (Value.int .u8)).toArray t fr)).heap[w.heap.size]? = some (.cells (bs.map (Value.int .u8)).toArray t fr) := by
    show (w.heap.push _)[w.heap.size]? = _
    simp
  rw [cell_of_row _ _ _ _ _ fr hg, Nat.zero_add]
  simp [List.getD_eq_getElem?_getD, List.getElem?_eq_getElem hi]
set_option maxRecDepth 100000 in
set_option maxHeartbeats 2000000 in
theorem known19_any (w : World) : Calls Try.prog 12 #[] w fun e w' => e = .returned (.bool true) ∧ Below w.heap.size w w' := by
  have H1 := Lib.hid (fun W => random_any 1 W (by omega) (by omega))
  have H2 := Lib.hid (fun W => h_ask 5 (rndS 1) .zero W (rndS_byt 1) PN.wf_zero rfl (by omega) (by omega))
  have HB0 := Lib.hid (Byt.one (show (0:Int) ≤ 120 ∧ (120:Int) < 256 by omega))
  have HD := Lib.hid (fun W => (show Calls Try.prog 29 #[.int .u64 504403158265495552, .string { data := #[105, 110, 105, 116, 105, 97, 108] }] W _ from rderive_any 504403158265495552 initialB W initialB_byt (by unfold maxLen; simp [initialB]) (by omega) (by omega)))
  have H8 := Lib.hid (fun W => h_first c7N W (by intro x hx; simp [c7N, N8.l] at hx; omega))
  rw [first7] at H8
  generalize keyedS 504403158265495552 initialB = K at *
  have kc := fun (w : World) (C : Array Value) (n c : Nat) => Lib.run_convert_bytes_const (P := Try.prog) w 31 5 C n c Try.underlying31 Try.underlying5
  have hzv : pmV .zero = .agg #[.int .u64 0, .int .u64 0, .int .u64 0, .int .u64 0, .int .u8 0, .int .u8 0, .int .u8 0, .int .u8 0, .int .u8 0, .int .u8 0, .int .u8 0, .int .u8 0] := rfl
  rw [hzv] at H2
  clear hzv
  go_enter Try.func12, Try.ntmps12
  go_wp2_with fail
  refine (H1.out _).mono ?_
  rintro e w1 ⟨rfl, hb1⟩
  go_wp2_with fail
  refine (H2.out _).mono ?_
  rintro e w2 ⟨p, rfl, ⟨O, hm⟩, hb2⟩
  have hb3 := hb1.trans (hb2.mono hb1.size)
  have hOlt := hm.lt
  have ba : Below w2.heap.size w2 (w2.alloc (.cells #[.int .u8 120] 5 (1, 2))) := (Below.refl _ _).alloc (Nat.le_refl _) _
  have hm4 := hm.below ba
  have hb4 := hb3.trans (ba.mono hb3.size)
  have hrow : RdP (w2.alloc (.cells #[.int .u8 120] 5 (1, 2))) (fun b => ¬ O b) (some ⟨w2.heap.size, 0, none⟩) 1 [120] := by
    have h := Rd.litk w2 5 [120] HB0.out #[.int .u8 120] (1, 2) rfl
    exact ⟨h.more (by simp), fun b off _ e => by injection e with e; injection e with e1 e2; subst e1; exact fun h => by have := (hOlt _ h).2; omega⟩
  obtain ⟨w4, hw4⟩ : ∃ W, w2.alloc (.cells #[.int .u8 120] 5 (1, 2)) = W := ⟨_, rfl⟩
  rw [hw4] at hm4 hb4 hrow
  have hm4lt : ∀ j, O j → w.heap.size ≤ j := fun j hj => by have := (hm4.lt j hj).1; have := hb1.size; omega
  have HF := Lib.hid (h_feed hm4 (hs0_ok true 5 (rndS 1) .zero (by omega) (by omega)) 2 _ 1 1 [120] hrow (by omega) (by have := hb2.size; have := ba.size; rw [hw4] at this; omega))
  clear hm ba hm4 hb1 hb2 hb3 hrow hOlt
  go_wp2_with fail
  refine HF.out.mono ?_
  rintro e w5 ⟨rfl, O5, h5, k5, _⟩
  have hb5 := k5.below hb4 hb4.size (by intro j hj; exact (hm4lt j hj))
  have OK5 := feedX_ok (hs0_ok true 5 (rndS 1) .zero (by omega) (by omega)) 2 [120]
  have HO5 := Lib.hid (h_out h5 OK5 0)
  rw [show feedX (hs0 true 5 (rndS 1) .zero) 2 [120] = noHeld (coded X0k 10) from rfl, X0k_out] at HO5
  rw [show (feedX (hs0 true 5 (rndS 1) .zero) 2 [120]).code = 10 from rfl]
  clear h5 k5 OK5 hm4lt
  go_wp2_with fail
  refine HO5.out.mono ?_
  rintro e w6 ⟨v6, rfl, ho6, hb6⟩
  obtain ⟨A6, c6, rfl, s1, s2, s3⟩ := ho6.open_n 21 rfl
  obtain ⟨b6, o6, rfl, hb6l, hc6⟩ := s3.2.2 (by omega)
  have hb7 := hb5.trans (hb6.mono hb5.size)
  have ba7 : Below w6.heap.size w6 (w6.alloc (.cells (N8.zero.l.map (Value.int .u8)).toArray 24)) := (Below.refl _ _).alloc (Nat.le_refl _) _
  have hA7 : At (w6.alloc (.cells (N8.zero.l.map (Value.int .u8)).toArray 24)) w6.heap.size 24 (N8.zero.l.map (Value.int .u8)) := At.new w6 _ _
  have hb8 := hb7.trans (ba7.mono hb7.size)
  have g0 := hc6 0 (by omega)
  have g2' := hc6 2 (by omega)
  have G : ∀ W, Below w6.heap.size w6 W → W.cell? ⟨b6, o6, none⟩ = some (.int .u8 1) ∧ W.cell? ⟨b6, o6 + 2, none⟩ = some (.int .u8 18) := fun W k => ⟨(k.cell (p := ⟨b6, o6, none⟩) hb6l).trans g0, (k.cell (p := ⟨b6, o6 + 2, none⟩) hb6l).trans g2'⟩
  have HG := Lib.hid G
  have HBA := Lib.hid ba7
  have hwg := hb7.size
  clear HO5 ho6 hb6 hc6 g0 g2' G s3 hb5 hb7
  go_wp2_with (first | ((with_reducible refine at_stcid ?_); refine wpList_store_at _ 24 (N8.zero.l.map (Value.int .u8)) (c7N.l.map (Value.int .u8)) (by rfl) (by rfl) hA7 rfl (by rw [show (c7N.l.map (Value.int .u8)).length = 8 from rfl]; exact cid_info) rfl ?_; intro w9 hA9 hk9; have hk9b := hk9.below HBA.out HBA.out.size (by intro j hj; omega); have hb9 := hk9.below hb8 hb8.size (by intro j hj; omega); have ga := (HG.out w9 hk9b).1; have gb := (HG.out w9 hk9b).2; clear hA7 hk9 hk9b) | ((with_reducible refine at_ldcid ?_); refine ld_cidg (by go_simp) _ 0 c7N (by rfl) hA9.rangeAt ?_) | (go_at_call 28; refine (H8.out _).mono ?_; rintro e w10 ⟨rfl, hb10⟩; have hb11 := hb9.trans (hb10.mono hb9.size); clear hb10) | (go_at_call 29; refine (HD.out _).mono ?_; rintro e w12 ⟨rfl, hb12⟩; have hb13 := hb11.trans (hb12.mono hb11.size)) | fail)
  go_ret
  exact ⟨rfl, hb13⟩
end
section
set_option linter.unusedVariables false
open Go.RowKit Go.ChangeShapes Go.WideShapes Go.Deep
theorem run_n8r (d : Nat) (W : World) (m : N8) : (Op.equalIn (d + 2) 24 m.v m.v).run Try.prog W = .ok true W := by
  have hp : Try.prog.plainKey 5 = true := by kernel_rfl
  have hu : Try.prog.underlying 5 = some (.int .u8) := Try.underlying5
  have hc : Try.prog.cellsOf 5 = 1 := by kernel_rfl
  obtain ⟨i, hi⟩ : ∃ i, Try.prog.info? 5 = some i := by
    cases h : Try.prog.info? 5 with
    | some i => exact ⟨i, rfl⟩
    | none => exact absurd (show (Try.prog.info? 5).isSome = true by kernel_rfl) (by rw [h]; simp)
  unfold N8.v
  rw [run_equalIn_array W (d + 1) _ _ (n := 8) Try.underlying24 hi, hc]
  rw [show List.range 8 = [0, 1, 2, 3, 4, 5, 6, 7] from rfl]
  rw [step_items W _ .u8 hp hu d 1 _ _ 0 _ m.a0 m.a0 rfl rfl, if_pos (beq_self_eq_true _)]
  rw [step_items W _ .u8 hp hu d 1 _ _ 1 _ m.a1 m.a1 rfl rfl, if_pos (beq_self_eq_true _)]
  rw [step_items W _ .u8 hp hu d 1 _ _ 2 _ m.a2 m.a2 rfl rfl, if_pos (beq_self_eq_true _)]
  rw [step_items W _ .u8 hp hu d 1 _ _ 3 _ m.a3 m.a3 rfl rfl, if_pos (beq_self_eq_true _)]
  rw [step_items W _ .u8 hp hu d 1 _ _ 4 _ m.a4 m.a4 rfl rfl, if_pos (beq_self_eq_true _)]
  rw [step_items W _ .u8 hp hu d 1 _ _ 5 _ m.a5 m.a5 rfl rfl, if_pos (beq_self_eq_true _)]
  rw [step_items W _ .u8 hp hu d 1 _ _ 6 _ m.a6 m.a6 rfl rfl, if_pos (beq_self_eq_true _)]
  rw [step_items W _ .u8 hp hu d 1 _ _ 7 _ m.a7 m.a7 rfl rfl, if_pos (beq_self_eq_true _)]
  simp [Op.eqItems]
set_option maxRecDepth 100000 in
theorem run_pm (W : World) (p : PN) : (Op.equalIn 10000 26 (pmV p) (pmV p)).run Try.prog W = .ok true W := by
  obtain ⟨i, d, s, m, c⟩ := p
  have h8 : (Op.equalIn 9999 24 c.v c.v).run Try.prog W = .ok true W := run_n8r 9997 W c
  unfold N8.v at h8
  have hs := run_equalIn_struct (P := Try.prog) W 9999 26 (pmL ⟨i, d, s, m, c⟩).toArray (pmL ⟨i, d, s, m, c⟩).toArray (by kernel_rfl) (by kernel_rfl)
  unfold pmV
  rw [show (10000 : Nat) = 9999 + 1 from rfl, hs]
  simp only [Program.fieldsOf, Try.underlying26, Op.eqFields, pmL]
  go_simp
section
variable {ops : Array Oper} {rest : List Oper} {a : Act} {w : World} {Q : Exit → Act → World → Prop}
theorem at_eqp {dst : Option Tmp} {x y : Operand} {t ty : TypeId} {pos : String} {after : Array Edge} {g : Option (Nat × Bool)} (h : wpList Try.prog ops Q (⟨dst, .binOp .eql 26 x y ty, t, pos, after, g⟩ :: rest) a w) : wpList Try.prog ops Q (⟨dst, .binOp .eql 26 x y ty, t, pos, after, g⟩ :: rest) a w := h
end
theorem pm_guard : Try.prog.eqGuardType Try.prog.depth 26 = false := by kernel_rfl
end
section
set_option linter.unusedVariables false
open Go.RowKit
end
end Go.Proofs.Ytdakbedohjemeaa
