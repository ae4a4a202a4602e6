/-
  A Ping copied; a packet with frames of its own (sent.byItself).
-/
import Derived.Test.YtpihgikcgkipaaaUa
import Derived.WalkKit
import Derived.Deep.LoopGhost
import Derived.Shelf.Abstract
import Derived.BigQuiet
namespace Go.Proofs.Ytpihgikcgkipaaa
set_option linter.unusedVariables false
set_option linter.unusedSimpArgs false
open Go.RowKit
set_option maxRecDepth 100000 in
set_option maxHeartbeats 1600000 in
theorem asked_ping (w : World) :
    Calls Try.prog 45 #[.agg #[.int .i64 1, .int .u64 0, .int .u64 0, .slice none 0 0, .bool false, .int .u64 0, .int .u64 0, .int .u64 0, .int .u64 0, .int .u64 0, .slice none 0 0,
      .int .u8 0, .int .u8 0, .int .u8 0, .int .u8 0, .int .u8 0, .int .u8 0, .int .u8 0, .int .u8 0]] w
      (FrPost (.tuple #[.agg pingL.toArray, .bool true]) w) := by
  go_enter Try.func45, Try.ntmps45
  go_wp2_with (first | ((with_reducible refine at_ld ?_); refine ld_fr _ _ (by rfl) (by first | exact At.new_ _ _ _ (by simp) | exact (At.new_ _ _ _ (by simp)).drew) (by rfl) ?_) | (first | ((with_reducible refine at_st (x := .tmp 4) ?_); refine st_top _ _ _ (by rfl) _ (by rfl) (by simp) (by rfl) (by rfl) (by rfl) (by rfl) ?_) | ((with_reducible refine at_st (x := .tmp 2) ?_); refine st_at _ _ _ (by rfl) (by rfl) (by first | exact (At.new_ _ _ _ (by simp)).alloc _ | exact ((At.new_ _ _ _ (by simp)).alloc _).drew) (by rfl) (by rfl) (by rfl) ?_; intro w' hA' hK')))
  refine bodyPost_ret (results_cell_tmp 2 3 68 (by rfl) _ 68 _ _ _ (by rfl) (by rfl) hA' Try.underlying68 rfl (by kernel_rfl)) rfl ?_
  exact ⟨rfl, hK'.below (by first | exact (((Below.refl _ _).alloc (Nat.le_refl _) _).alloc (by simp) _).alloc (by simp <;> omega) _ | exact ((((Below.refl _ _).alloc (Nat.le_refl _) _).alloc (by simp) _).alloc (by simp <;> omega) _).drew) (by simp <;> omega) (fun j hj => by omega)⟩
theorem bclone_nil (w : World) : Calls Try.prog 46 #[.slice none 0 0] w (FrPost (.slice none 0 0) w) := by
  have he := fun W : World => Lib.run_eql_slice_nil (P := Try.prog) W 64 5 none 0 0 0 0 Try.underlying64
  go_enter Try.func46, Try.ntmps46
  go_wp2
  go_ret
  exact ⟨rfl, Below.refl _ _⟩
theorem rclone_nil (w : World) : Calls Try.prog 47 #[.slice none 0 0] w (FrPost (.slice none 0 0) w) := by
  have he := fun W : World => Lib.run_eql_slice_nil (P := Try.prog) W 34 38 none 0 0 0 0 Try.underlying34
  go_enter Try.func47, Try.ntmps47
  go_wp2
  go_ret
  exact ⟨rfl, Below.refl _ _⟩
theorem fr19 : some (List.length (frL (FN.zero 0) .nil .nil)) = some 19 := rfl
theorem pf_size : (Try.prog.info? 68).map (·.size) = some 19 := by kernel_rfl
set_option maxRecDepth 100000 in
set_option maxHeartbeats 2000000 in
theorem copy_ping (w : World) : Calls Try.prog 41 #[.agg pingL.toArray] w (FrPost (.agg pingL.toArray) w) := by
  have hC := fun w => asked_ping w
  have e0 : (Value.agg #[.int .i64 1, .int .u64 0, .int .u64 0, .slice none 0 0, .bool false, .int .u64 0, .int .u64 0, .int .u64 0, .int .u64 0, .int .u64 0, .slice none 0 0,
      .int .u8 0, .int .u8 0, .int .u8 0, .int .u8 0, .int .u8 0, .int .u8 0, .int .u8 0, .int .u8 0]) = .agg pingL.toArray := rfl
  rw [e0] at hC
  clear e0
  obtain ⟨M, hM⟩ : ∃ L, pingL = L := ⟨_, rfl⟩
  have hMl : M.length = 19 := by rw [← hM]; rfl
  have hMo : M.all (·.oneCell') = true := by rw [← hM]; rfl
  have hM3 : M[3]? = some (.slice none 0 0) := by rw [← hM]; rfl
  have hM10 : M[10]? = some (.slice none 0 0) := by rw [← hM]; rfl
  have hs3 : M.set 3 (.slice none 0 0) = M := by rw [← hM]; rfl
  have hs10 : M.set 10 (.slice none 0 0) = M := by rw [← hM]; rfl
  rw [hM] at hC ⊢
  have HC := Lib.hid hC
  have HMl := Lib.hid hMl
  have HMo := Lib.hid hMo
  have HM3 := Lib.hid hM3
  have HM10 := Lib.hid hM10
  have HS3 := Lib.hid hs3
  have HS10 := Lib.hid hs10
  clear hC hM hMl hMo hM3 hM10 hs3 hs10
  have hP0 := fun o => (At.new w 68 M).alloc o
  go_enter Try.func41, Try.ntmps41
  go_wp2_with (first | ((with_reducible refine at_ld ?_); refine ld_fr _ _ (by rfl) (hP0 _) HMl.out ?_) | fail)
  refine (HC.out _).mono ?_
  rintro e w1 ⟨rfl, hb1⟩
  have hP1 := (hP0 _).below hb1 (hP0 _).lt
  have hQ1 := (At.new_ _ _ _ (by simp : w.heap.size + 1 = (w.alloc (.cells M.toArray 68)).heap.size)).below hb1 (by simp)
  have hB1 : Below w.heap.size w w1 := (((Below.refl _ w).alloc (Nat.le_refl _) (.cells M.toArray 68)).alloc (by simp) _).trans (hb1.mono (by simp; omega))
  obtain ⟨Z, hQ1, hZl⟩ : ∃ Z : List Value, At w1 (w.heap.size + 1) 68 Z ∧ Z.length = 19 := ⟨_, hQ1, rfl⟩
  have HP1 := Lib.hid hP1
  have HQ1 := Lib.hid hQ1
  have HB1 := Lib.hid hB1
  have HZl := Lib.hid hZl
  clear hb1 hP0 hP1 hQ1 hB1 hZl
  go_wp2_with (first | ((with_reducible refine at_st ?_); refine st_at _ _ _ (by rfl) (by rfl) HP1.out HMl.out HMl.out HMo.out ?_; intro w2 hP2 hK2; have e3 := (hP2.cell 3).trans HM3.out) | fail)
  have hB2 : Below w.heap.size w w2 := hK2.below HB1.out (by have := HP1.out.lt; omega) (fun j hj => by omega)
  have hQ2 := HQ1.out.kept hK2 (by omega)
  have hs2 : w.heap.size ≤ w2.heap.size := hB2.size
  refine (bclone_nil _).mono ?_
  rintro e w3 ⟨rfl, hb3⟩
  have hP3 := hP2.below hb3 hP2.lt
  have hQ3 := hQ2.below hb3 hQ2.lt
  have hB3 := hB2.trans (hb3.mono hs2)
  have hp2 := hP2.lt
  have hq2 := hQ2.lt
  have e3' := (hP3.cell 3).trans HM3.out
  have f3 := hP3.frozen 3
  have hP4 := hP3.set 3 (.slice none 0 0)
  rw [HS3.out] at hP4
  have e10' : (w3.setCell ⟨w.heap.size, 3, none⟩ (.slice none 0 0)).cell? ⟨w.heap.size, 10, none⟩ = some (.slice none 0 0) := by rw [hP4.cell 10]; exact HM10.out
  have hK4 : Kept (· = w.heap.size) w3 (w3.setCell ⟨w.heap.size, 3, none⟩ (.slice none 0 0)) := (Kept.refl _ _).setAt _ _
  have hQ4 := hQ3.kept hK4 (by omega)
  have hB4 := hK4.below hB3 hB3.size (fun j hj => by omega)
  have hs4 := hK4.size
  have hs3 := hb3.size
  clear hP2 hQ2 hK2 hB2 hQ3 hB3 hb3 e3
  go_wp2_with fail
  obtain ⟨w4, hw4⟩ : ∃ x, w3.setCell ⟨w.heap.size, 3, none⟩ (.slice none 0 0) = x := ⟨_, rfl⟩
  rw [hw4] at hP4 e10' hK4 hQ4 hB4 hs4 ⊢
  clear hw4
  refine (rclone_nil _).mono ?_
  rintro e w5 ⟨rfl, hb5⟩
  have hP5 := hP4.below hb5 hP4.lt
  have hQ5 := hQ4.below hb5 hQ4.lt
  have hB5 := hB4.trans (hb5.mono hB4.size)
  have hs5 := hb5.size
  have e10'' : w5.cell? ⟨w.heap.size, 10, none⟩ = some (.slice none 0 0) := by rw [hP5.cell 10]; exact HM10.out
  have f10 := hP5.frozen 10
  have hP6 := hP5.set 10 (.slice none 0 0)
  have hK6 : Kept (· = w.heap.size) w5 (w5.setCell ⟨w.heap.size, 10, none⟩ (.slice none 0 0)) := (Kept.refl _ _).setAt _ _
  have hQ6 := hQ5.kept hK6 (by omega)
  rw [HS10.out] at hP6
  go_wp2_with (first | ((with_reducible refine at_st ?_); refine st_at _ _ _ (by rfl) (by rfl) hQ6 HZl.out HMl.out HMo.out ?_; intro w7 hQ7 hK7) | ((with_reducible refine at_ld ?_); refine ld_fr _ _ (by rfl) hP6 HMl.out ?_) | fail)
  refine bodyPost_ret (results_cell 2 68 (by rfl) _ 68 _ _ (by rfl) hQ7 Try.underlying68 rfl (by rw [HMl.out]; exact pf_size)) rfl ?_
  have hl4 := hP4.lt
  have hq4 := hQ4.lt
  have hB6 := hK6.below hB5 hB5.size (fun j hj => by omega)
  have hB7 := hK7.below hB6 hB6.size (fun j hj => by omega)
  exact ⟨rfl, hB7⟩
end Go.Proofs.Ytpihgikcgkipaaa
