/-
  What a Kind asks alone: frame.asked, for every frame.
-/
import Derived.Test.YtbejpafephofaaaGreatMq14
namespace Go.Proofs.YtbejpafephofaaaGreat
set_option linter.unusedVariables false
open Go.RowKit
def AskedPost (m : FN) (d r : Sl) (w : World) : Ending → World → Prop := FrPost (.tuple #[frV (askN m) (askD m.k d) (askR m.k r), .bool (knownB m.k)]) w
theorem below_drew {B : Nat} {a w : World} (h : Below B a w) : Below B a w.drew := ⟨h.os, h.tape, h.output, h.size, h.block⟩
set_option maxRecDepth 100000 in
set_option maxHeartbeats 1600000 in
theorem asked_0 (s o l c f q y c0 c1 c2 c3 c4 c5 c6 c7 : Int) (fin : Bool) (dA rA : Option Addr) (dn dc rn rc : Nat) (w : World) :
    Calls Tryz.prog 85 #[.agg #[.int .i64 0, .int .u64 s, .int .u64 o, .slice dA dn dc, .bool fin, .int .u64 l, .int .u64 c, .int .u64 f, .int .u64 q, .int .u64 y, .slice rA rn rc,
      .int .u8 c0, .int .u8 c1, .int .u8 c2, .int .u8 c3, .int .u8 c4, .int .u8 c5, .int .u8 c6, .int .u8 c7]] w
      (AskedPost ⟨0, s, o, fin, l, c, f, q, y, c0, c1, c2, c3, c4, c5, c6, c7⟩ ⟨dA, dn, dc⟩ ⟨rA, rn, rc⟩ w) := by
  go_enter Tryz.func85, Tryz.ntmps85
  go_wp2_with (first | ((with_reducible refine at_ld ?_); refine ld_fr _ _ (by rfl) (by first | exact At.new_ _ _ _ (by simp) | exact (At.new_ _ _ _ (by simp)).drew) (by rfl) ?_) | (first | ((with_reducible refine at_st (x := .tmp 4) ?_); refine st_top _ _ _ (by rfl) _ (by rfl) (by simp) (by rfl) (by rfl) (by rfl) (by rfl) ?_) | ((with_reducible refine at_st (x := .tmp 2) ?_); refine st_at _ _ _ (by rfl) (by rfl) (by first | exact (At.new_ _ _ _ (by simp)).alloc _ | exact ((At.new_ _ _ _ (by simp)).alloc _).drew) (by rfl) (by rfl) (by rfl) ?_; intro w' hA' hK')))
  refine bodyPost_ret (results_cell_tmp 2 3 51 (by rfl) _ 51 _ _ _ (by rfl) (by rfl) hA' Tryz.underlying51 rfl (by kernel_rfl)) rfl ?_
  exact ⟨rfl, hK'.below (by first | exact (((Below.refl _ _).alloc (Nat.le_refl _) _).alloc (by simp) _).alloc (by simp <;> omega) _ | exact below_drew ((((Below.refl _ _).alloc (Nat.le_refl _) _).alloc (by simp) _).alloc (by simp <;> omega) _)) (by simp <;> omega) (fun j hj => by omega)⟩
set_option maxRecDepth 100000 in
set_option maxHeartbeats 1600000 in
theorem asked_4 (s o l c f q y c0 c1 c2 c3 c4 c5 c6 c7 : Int) (fin : Bool) (dA rA : Option Addr) (dn dc rn rc : Nat) (w : World) :
    Calls Tryz.prog 85 #[.agg #[.int .i64 4, .int .u64 s, .int .u64 o, .slice dA dn dc, .bool fin, .int .u64 l, .int .u64 c, .int .u64 f, .int .u64 q, .int .u64 y, .slice rA rn rc,
      .int .u8 c0, .int .u8 c1, .int .u8 c2, .int .u8 c3, .int .u8 c4, .int .u8 c5, .int .u8 c6, .int .u8 c7]] w
      (AskedPost ⟨4, s, o, fin, l, c, f, q, y, c0, c1, c2, c3, c4, c5, c6, c7⟩ ⟨dA, dn, dc⟩ ⟨rA, rn, rc⟩ w) := by
  go_enter Tryz.func85, Tryz.ntmps85
  go_wp2_with ((with_reducible refine at_st (x := .tmp 4) ?_); refine st_top _ _ _ (by rfl) _ (by rfl) (by simp) (by rfl) (by rfl) (by rfl) (by rfl) ?_)
  go_region_held3 (fun w' => w'.cell? ⟨w.heap.size, 1, none⟩ = some (.int .u64 s) ∧ w'.cell? ⟨w.heap.size, 6, none⟩ = some (.int .u64 c) ∧ w'.cell? ⟨w.heap.size, 7, none⟩ = some (.int .u64 f)) (go_keep) (fail)
  go_wp2_with (first | ((with_reducible refine at_ld ?_); refine ld_fr _ _ (by rfl) (by first | exact At.new_ _ _ _ (by simp) | exact (At.new_ _ _ _ (by simp)).drew) (by rfl) ?_) | ((with_reducible refine at_st (x := .tmp 2) ?_); refine st_at _ _ _ (by rfl) (by rfl) (by first | exact (At.new_ _ _ _ (by simp)).alloc _ | exact ((At.new_ _ _ _ (by simp)).alloc _).drew) (by rfl) (by rfl) (by rfl) ?_; intro w' hA' hK'))
  refine bodyPost_ret (results_cell_tmp 2 3 51 (by rfl) _ 51 _ _ _ (by rfl) (by rfl) hA' Tryz.underlying51 rfl (by kernel_rfl)) rfl ?_
  exact ⟨rfl, hK'.below (by first | exact (((Below.refl _ _).alloc (Nat.le_refl _) _).alloc (by simp) _).alloc (by simp <;> omega) _ | exact below_drew ((((Below.refl _ _).alloc (Nat.le_refl _) _).alloc (by simp) _).alloc (by simp <;> omega) _)) (by simp <;> omega) (fun j hj => by omega)⟩
set_option maxRecDepth 100000 in
set_option maxHeartbeats 1600000 in
theorem asked_8 (s o l c f q y c0 c1 c2 c3 c4 c5 c6 c7 : Int) (fin : Bool) (dA rA : Option Addr) (dn dc rn rc : Nat) (w : World) :
    Calls Tryz.prog 85 #[.agg #[.int .i64 8, .int .u64 s, .int .u64 o, .slice dA dn dc, .bool fin, .int .u64 l, .int .u64 c, .int .u64 f, .int .u64 q, .int .u64 y, .slice rA rn rc,
      .int .u8 c0, .int .u8 c1, .int .u8 c2, .int .u8 c3, .int .u8 c4, .int .u8 c5, .int .u8 c6, .int .u8 c7]] w
      (AskedPost ⟨8, s, o, fin, l, c, f, q, y, c0, c1, c2, c3, c4, c5, c6, c7⟩ ⟨dA, dn, dc⟩ ⟨rA, rn, rc⟩ w) := by
  go_enter Tryz.func85, Tryz.ntmps85
  go_wp2_with ((with_reducible refine at_st (x := .tmp 4) ?_); refine st_top _ _ _ (by rfl) _ (by rfl) (by simp) (by rfl) (by rfl) (by rfl) (by rfl) ?_)
  go_region_held3 (fun w' => w'.cell? ⟨w.heap.size, 1, none⟩ = some (.int .u64 s) ∧ w'.cell? ⟨w.heap.size, 2, none⟩ = some (.int .u64 o) ∧ w'.cell? ⟨w.heap.size, 3, none⟩ = some (.slice dA dn dc) ∧ w'.cell? ⟨w.heap.size, 4, none⟩ = some (.bool fin)) (go_keep) (fail)
  go_wp2_with (first | ((with_reducible refine at_ld ?_); refine ld_fr _ _ (by rfl) (by first | exact At.new_ _ _ _ (by simp) | exact (At.new_ _ _ _ (by simp)).drew) (by rfl) ?_) | ((with_reducible refine at_st (x := .tmp 2) ?_); refine st_at _ _ _ (by rfl) (by rfl) (by first | exact (At.new_ _ _ _ (by simp)).alloc _ | exact ((At.new_ _ _ _ (by simp)).alloc _).drew) (by rfl) (by rfl) (by rfl) ?_; intro w' hA' hK'))
  refine bodyPost_ret (results_cell_tmp 2 3 51 (by rfl) _ 51 _ _ _ (by rfl) (by rfl) hA' Tryz.underlying51 rfl (by kernel_rfl)) rfl ?_
  exact ⟨rfl, hK'.below (by first | exact (((Below.refl _ _).alloc (Nat.le_refl _) _).alloc (by simp) _).alloc (by simp <;> omega) _ | exact below_drew ((((Below.refl _ _).alloc (Nat.le_refl _) _).alloc (by simp) _).alloc (by simp <;> omega) _)) (by simp <;> omega) (fun j hj => by omega)⟩
theorem asked_any (m : FN) (d r : Sl) (w : World) (hkk : m.k = 0 ∨ m.k = 4 ∨ m.k = 8) : Calls Tryz.prog 85 #[frV m d r] w (AskedPost m d r w) := by
  obtain ⟨k, s, o, fin, l, c, f, q, y, c0, c1, c2, c3, c4, c5, c6, c7⟩ := m
  obtain ⟨dA, dn, dc⟩ := d
  obtain ⟨rA, rn, rc⟩ := r
  simp only at hkk
  rcases hkk with rfl | rfl | rfl
  · exact asked_0 s o l c f q y c0 c1 c2 c3 c4 c5 c6 c7 fin dA rA dn dc rn rc w
  · exact asked_4 s o l c f q y c0 c1 c2 c3 c4 c5 c6 c7 fin dA rA dn dc rn rc w
  · exact asked_8 s o l c f q y c0 c1 c2 c3 c4 c5 c6 c7 fin dA rA dn dc rn rc w
end Go.Proofs.YtbejpafephofaaaGreat
