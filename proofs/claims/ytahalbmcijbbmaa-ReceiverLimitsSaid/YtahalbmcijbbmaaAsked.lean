/-
  What a Kind asks alone: frame.asked, for every frame.
-/
import Derived.Test.YtahalbmcijbbmaaMq9
namespace Go.Proofs.Ytahalbmcijbbmaa
set_option linter.unusedVariables false
open Go.RowKit
def AskedPost (m : FN) (d r : Sl) (w : World) : Ending → World → Prop := FrPost (.tuple #[frV (askN m) (askD m.k d) (askR m.k r), .bool (knownB m.k)]) w
theorem below_drew {B : Nat} {a w : World} (h : Below B a w) : Below B a w.drew := ⟨h.os, h.tape, h.output, h.size, h.block⟩
theorem askedPost_x (k s o l c f q y c0 c1 c2 c3 c4 c5 c6 c7 : Int) (fin : Bool) (d r : Sl) (w w' : World) (h : (k == 0) = false ∧ (k == 1) = false ∧ (k == 30) = false ∧ (k == 2) = false ∧ (k == 4) = false ∧ (k == 5) = false ∧ (k == 6) = false ∧ (k == 8) = false ∧ (k == 16) = false ∧ (k == 18) = false ∧ (k == 20) = false ∧ (k == 17) = false ∧ (k == 24) = false ∧ (k == 25) = false ∧ (k == 26) = false ∧ (k == 27) = false ∧ (k == 28) = false) (hb : Below w.heap.size w w') :
    AskedPost ⟨k, s, o, fin, l, c, f, q, y, c0, c1, c2, c3, c4, c5, c6, c7⟩ d r w (.returned (.tuple #[frV (FN.zero k) .nil .nil, .bool false])) w' := by
  refine ⟨?_, hb⟩
  simp only [beq_eq_false_iff_ne] at h
  obtain ⟨e0, e1, e30, e2, e4, e5, e6, e8, e16, e18, e20, e17, e24, e25, e26, e27, e28⟩ := h
  simp [askN, askD, askR, knownB, e0, e1, e30, e2, e4, e5, e6, e8, e16, e18, e20, e17, e24, e25, e26, e27, e28]
set_option maxRecDepth 100000 in
set_option maxHeartbeats 1600000 in
theorem asked_0 (s o l c f q y c0 c1 c2 c3 c4 c5 c6 c7 : Int) (fin : Bool) (dA rA : Option Addr) (dn dc rn rc : Nat) (w : World) :
    Calls Try.prog 43 #[.agg #[.int .i64 0, .int .u64 s, .int .u64 o, .slice dA dn dc, .bool fin, .int .u64 l, .int .u64 c, .int .u64 f, .int .u64 q, .int .u64 y, .slice rA rn rc,
      .int .u8 c0, .int .u8 c1, .int .u8 c2, .int .u8 c3, .int .u8 c4, .int .u8 c5, .int .u8 c6, .int .u8 c7]] w
      (AskedPost ⟨0, s, o, fin, l, c, f, q, y, c0, c1, c2, c3, c4, c5, c6, c7⟩ ⟨dA, dn, dc⟩ ⟨rA, rn, rc⟩ w) := by
  go_enter Try.func43, Try.ntmps43
  go_wp2_with (first | ((with_reducible refine at_ld ?_); refine ld_fr _ _ (by rfl) (by first | exact At.new_ _ _ _ (by simp) | exact (At.new_ _ _ _ (by simp)).drew) (by rfl) ?_) | (first | ((with_reducible refine at_st (x := .tmp 4) ?_); refine st_top _ _ _ (by rfl) _ (by rfl) (by simp) (by rfl) (by rfl) (by rfl) (by rfl) ?_) | ((with_reducible refine at_st (x := .tmp 2) ?_); refine st_at _ _ _ (by rfl) (by rfl) (by first | exact (At.new_ _ _ _ (by simp)).alloc _ | exact ((At.new_ _ _ _ (by simp)).alloc _).drew) (by rfl) (by rfl) (by rfl) ?_; intro w' hA' hK')))
  refine bodyPost_ret (results_cell_tmp 2 3 46 (by rfl) _ 46 _ _ _ (by rfl) (by rfl) hA' Try.underlying46 rfl (by kernel_rfl)) rfl ?_
  exact ⟨rfl, hK'.below (by first | exact (((Below.refl _ _).alloc (Nat.le_refl _) _).alloc (by simp) _).alloc (by simp <;> omega) _ | exact below_drew ((((Below.refl _ _).alloc (Nat.le_refl _) _).alloc (by simp) _).alloc (by simp <;> omega) _)) (by simp <;> omega) (fun j hj => by omega)⟩
set_option maxRecDepth 100000 in
set_option maxHeartbeats 1600000 in
theorem asked_1 (s o l c f q y c0 c1 c2 c3 c4 c5 c6 c7 : Int) (fin : Bool) (dA rA : Option Addr) (dn dc rn rc : Nat) (w : World) :
    Calls Try.prog 43 #[.agg #[.int .i64 1, .int .u64 s, .int .u64 o, .slice dA dn dc, .bool fin, .int .u64 l, .int .u64 c, .int .u64 f, .int .u64 q, .int .u64 y, .slice rA rn rc,
      .int .u8 c0, .int .u8 c1, .int .u8 c2, .int .u8 c3, .int .u8 c4, .int .u8 c5, .int .u8 c6, .int .u8 c7]] w
      (AskedPost ⟨1, s, o, fin, l, c, f, q, y, c0, c1, c2, c3, c4, c5, c6, c7⟩ ⟨dA, dn, dc⟩ ⟨rA, rn, rc⟩ w) := by
  go_enter Try.func43, Try.ntmps43
  go_wp2_with (first | ((with_reducible refine at_ld ?_); refine ld_fr _ _ (by rfl) (by first | exact At.new_ _ _ _ (by simp) | exact (At.new_ _ _ _ (by simp)).drew) (by rfl) ?_) | (first | ((with_reducible refine at_st (x := .tmp 4) ?_); refine st_top _ _ _ (by rfl) _ (by rfl) (by simp) (by rfl) (by rfl) (by rfl) (by rfl) ?_) | ((with_reducible refine at_st (x := .tmp 2) ?_); refine st_at _ _ _ (by rfl) (by rfl) (by first | exact (At.new_ _ _ _ (by simp)).alloc _ | exact ((At.new_ _ _ _ (by simp)).alloc _).drew) (by rfl) (by rfl) (by rfl) ?_; intro w' hA' hK')))
  refine bodyPost_ret (results_cell_tmp 2 3 46 (by rfl) _ 46 _ _ _ (by rfl) (by rfl) hA' Try.underlying46 rfl (by kernel_rfl)) rfl ?_
  exact ⟨rfl, hK'.below (by first | exact (((Below.refl _ _).alloc (Nat.le_refl _) _).alloc (by simp) _).alloc (by simp <;> omega) _ | exact below_drew ((((Below.refl _ _).alloc (Nat.le_refl _) _).alloc (by simp) _).alloc (by simp <;> omega) _)) (by simp <;> omega) (fun j hj => by omega)⟩
set_option maxRecDepth 100000 in
set_option maxHeartbeats 1600000 in
theorem asked_30 (s o l c f q y c0 c1 c2 c3 c4 c5 c6 c7 : Int) (fin : Bool) (dA rA : Option Addr) (dn dc rn rc : Nat) (w : World) :
    Calls Try.prog 43 #[.agg #[.int .i64 30, .int .u64 s, .int .u64 o, .slice dA dn dc, .bool fin, .int .u64 l, .int .u64 c, .int .u64 f, .int .u64 q, .int .u64 y, .slice rA rn rc,
      .int .u8 c0, .int .u8 c1, .int .u8 c2, .int .u8 c3, .int .u8 c4, .int .u8 c5, .int .u8 c6, .int .u8 c7]] w
      (AskedPost ⟨30, s, o, fin, l, c, f, q, y, c0, c1, c2, c3, c4, c5, c6, c7⟩ ⟨dA, dn, dc⟩ ⟨rA, rn, rc⟩ w) := by
  go_enter Try.func43, Try.ntmps43
  go_wp2_with (first | ((with_reducible refine at_ld ?_); refine ld_fr _ _ (by rfl) (by first | exact At.new_ _ _ _ (by simp) | exact (At.new_ _ _ _ (by simp)).drew) (by rfl) ?_) | (first | ((with_reducible refine at_st (x := .tmp 4) ?_); refine st_top _ _ _ (by rfl) _ (by rfl) (by simp) (by rfl) (by rfl) (by rfl) (by rfl) ?_) | ((with_reducible refine at_st (x := .tmp 2) ?_); refine st_at _ _ _ (by rfl) (by rfl) (by first | exact (At.new_ _ _ _ (by simp)).alloc _ | exact ((At.new_ _ _ _ (by simp)).alloc _).drew) (by rfl) (by rfl) (by rfl) ?_; intro w' hA' hK')))
  refine bodyPost_ret (results_cell_tmp 2 3 46 (by rfl) _ 46 _ _ _ (by rfl) (by rfl) hA' Try.underlying46 rfl (by kernel_rfl)) rfl ?_
  exact ⟨rfl, hK'.below (by first | exact (((Below.refl _ _).alloc (Nat.le_refl _) _).alloc (by simp) _).alloc (by simp <;> omega) _ | exact below_drew ((((Below.refl _ _).alloc (Nat.le_refl _) _).alloc (by simp) _).alloc (by simp <;> omega) _)) (by simp <;> omega) (fun j hj => by omega)⟩
set_option maxRecDepth 100000 in
set_option maxHeartbeats 1600000 in
theorem asked_2 (s o l c f q y c0 c1 c2 c3 c4 c5 c6 c7 : Int) (fin : Bool) (dA rA : Option Addr) (dn dc rn rc : Nat) (w : World) :
    Calls Try.prog 43 #[.agg #[.int .i64 2, .int .u64 s, .int .u64 o, .slice dA dn dc, .bool fin, .int .u64 l, .int .u64 c, .int .u64 f, .int .u64 q, .int .u64 y, .slice rA rn rc,
      .int .u8 c0, .int .u8 c1, .int .u8 c2, .int .u8 c3, .int .u8 c4, .int .u8 c5, .int .u8 c6, .int .u8 c7]] w
      (AskedPost ⟨2, s, o, fin, l, c, f, q, y, c0, c1, c2, c3, c4, c5, c6, c7⟩ ⟨dA, dn, dc⟩ ⟨rA, rn, rc⟩ w) := by
  go_enter Try.func43, Try.ntmps43
  go_wp2_with ((with_reducible refine at_st (x := .tmp 4) ?_); refine st_top _ _ _ (by rfl) _ (by rfl) (by simp) (by rfl) (by rfl) (by rfl) (by rfl) ?_)
  go_region_held3 (fun w' => w'.cell? ⟨w.heap.size, 9, none⟩ = some (.int .u64 y) ∧ w'.cell? ⟨w.heap.size, 10, none⟩ = some (.slice rA rn rc)) (go_keep) (fail)
  go_wp2_with (first | ((with_reducible refine at_ld ?_); refine ld_fr _ _ (by rfl) (by first | exact At.new_ _ _ _ (by simp) | exact (At.new_ _ _ _ (by simp)).drew) (by rfl) ?_) | ((with_reducible refine at_st (x := .tmp 2) ?_); refine st_at _ _ _ (by rfl) (by rfl) (by first | exact (At.new_ _ _ _ (by simp)).alloc _ | exact ((At.new_ _ _ _ (by simp)).alloc _).drew) (by rfl) (by rfl) (by rfl) ?_; intro w' hA' hK'))
  refine bodyPost_ret (results_cell_tmp 2 3 46 (by rfl) _ 46 _ _ _ (by rfl) (by rfl) hA' Try.underlying46 rfl (by kernel_rfl)) rfl ?_
  exact ⟨rfl, hK'.below (by first | exact (((Below.refl _ _).alloc (Nat.le_refl _) _).alloc (by simp) _).alloc (by simp <;> omega) _ | exact below_drew ((((Below.refl _ _).alloc (Nat.le_refl _) _).alloc (by simp) _).alloc (by simp <;> omega) _)) (by simp <;> omega) (fun j hj => by omega)⟩
set_option maxRecDepth 100000 in
set_option maxHeartbeats 1600000 in
theorem asked_4 (s o l c f q y c0 c1 c2 c3 c4 c5 c6 c7 : Int) (fin : Bool) (dA rA : Option Addr) (dn dc rn rc : Nat) (w : World) :
    Calls Try.prog 43 #[.agg #[.int .i64 4, .int .u64 s, .int .u64 o, .slice dA dn dc, .bool fin, .int .u64 l, .int .u64 c, .int .u64 f, .int .u64 q, .int .u64 y, .slice rA rn rc,
      .int .u8 c0, .int .u8 c1, .int .u8 c2, .int .u8 c3, .int .u8 c4, .int .u8 c5, .int .u8 c6, .int .u8 c7]] w
      (AskedPost ⟨4, s, o, fin, l, c, f, q, y, c0, c1, c2, c3, c4, c5, c6, c7⟩ ⟨dA, dn, dc⟩ ⟨rA, rn, rc⟩ w) := by
  go_enter Try.func43, Try.ntmps43
  go_wp2_with ((with_reducible refine at_st (x := .tmp 4) ?_); refine st_top _ _ _ (by rfl) _ (by rfl) (by simp) (by rfl) (by rfl) (by rfl) (by rfl) ?_)
  go_region_held3 (fun w' => w'.cell? ⟨w.heap.size, 1, none⟩ = some (.int .u64 s) ∧ w'.cell? ⟨w.heap.size, 6, none⟩ = some (.int .u64 c) ∧ w'.cell? ⟨w.heap.size, 7, none⟩ = some (.int .u64 f)) (go_keep) (fail)
  go_wp2_with (first | ((with_reducible refine at_ld ?_); refine ld_fr _ _ (by rfl) (by first | exact At.new_ _ _ _ (by simp) | exact (At.new_ _ _ _ (by simp)).drew) (by rfl) ?_) | ((with_reducible refine at_st (x := .tmp 2) ?_); refine st_at _ _ _ (by rfl) (by rfl) (by first | exact (At.new_ _ _ _ (by simp)).alloc _ | exact ((At.new_ _ _ _ (by simp)).alloc _).drew) (by rfl) (by rfl) (by rfl) ?_; intro w' hA' hK'))
  refine bodyPost_ret (results_cell_tmp 2 3 46 (by rfl) _ 46 _ _ _ (by rfl) (by rfl) hA' Try.underlying46 rfl (by kernel_rfl)) rfl ?_
  exact ⟨rfl, hK'.below (by first | exact (((Below.refl _ _).alloc (Nat.le_refl _) _).alloc (by simp) _).alloc (by simp <;> omega) _ | exact below_drew ((((Below.refl _ _).alloc (Nat.le_refl _) _).alloc (by simp) _).alloc (by simp <;> omega) _)) (by simp <;> omega) (fun j hj => by omega)⟩
set_option maxRecDepth 100000 in
set_option maxHeartbeats 1600000 in
theorem asked_5 (s o l c f q y c0 c1 c2 c3 c4 c5 c6 c7 : Int) (fin : Bool) (dA rA : Option Addr) (dn dc rn rc : Nat) (w : World) :
    Calls Try.prog 43 #[.agg #[.int .i64 5, .int .u64 s, .int .u64 o, .slice dA dn dc, .bool fin, .int .u64 l, .int .u64 c, .int .u64 f, .int .u64 q, .int .u64 y, .slice rA rn rc,
      .int .u8 c0, .int .u8 c1, .int .u8 c2, .int .u8 c3, .int .u8 c4, .int .u8 c5, .int .u8 c6, .int .u8 c7]] w
      (AskedPost ⟨5, s, o, fin, l, c, f, q, y, c0, c1, c2, c3, c4, c5, c6, c7⟩ ⟨dA, dn, dc⟩ ⟨rA, rn, rc⟩ w) := by
  go_enter Try.func43, Try.ntmps43
  go_wp2_with ((with_reducible refine at_st (x := .tmp 4) ?_); refine st_top _ _ _ (by rfl) _ (by rfl) (by simp) (by rfl) (by rfl) (by rfl) (by rfl) ?_)
  go_region_held3 (fun w' => w'.cell? ⟨w.heap.size, 1, none⟩ = some (.int .u64 s) ∧ w'.cell? ⟨w.heap.size, 6, none⟩ = some (.int .u64 c)) (go_keep) (fail)
  go_wp2_with (first | ((with_reducible refine at_ld ?_); refine ld_fr _ _ (by rfl) (by first | exact At.new_ _ _ _ (by simp) | exact (At.new_ _ _ _ (by simp)).drew) (by rfl) ?_) | ((with_reducible refine at_st (x := .tmp 2) ?_); refine st_at _ _ _ (by rfl) (by rfl) (by first | exact (At.new_ _ _ _ (by simp)).alloc _ | exact ((At.new_ _ _ _ (by simp)).alloc _).drew) (by rfl) (by rfl) (by rfl) ?_; intro w' hA' hK'))
  refine bodyPost_ret (results_cell_tmp 2 3 46 (by rfl) _ 46 _ _ _ (by rfl) (by rfl) hA' Try.underlying46 rfl (by kernel_rfl)) rfl ?_
  exact ⟨rfl, hK'.below (by first | exact (((Below.refl _ _).alloc (Nat.le_refl _) _).alloc (by simp) _).alloc (by simp <;> omega) _ | exact below_drew ((((Below.refl _ _).alloc (Nat.le_refl _) _).alloc (by simp) _).alloc (by simp <;> omega) _)) (by simp <;> omega) (fun j hj => by omega)⟩
set_option maxRecDepth 100000 in
set_option maxHeartbeats 1600000 in
theorem asked_6 (s o l c f q y c0 c1 c2 c3 c4 c5 c6 c7 : Int) (fin : Bool) (dA rA : Option Addr) (dn dc rn rc : Nat) (w : World) :
    Calls Try.prog 43 #[.agg #[.int .i64 6, .int .u64 s, .int .u64 o, .slice dA dn dc, .bool fin, .int .u64 l, .int .u64 c, .int .u64 f, .int .u64 q, .int .u64 y, .slice rA rn rc,
      .int .u8 c0, .int .u8 c1, .int .u8 c2, .int .u8 c3, .int .u8 c4, .int .u8 c5, .int .u8 c6, .int .u8 c7]] w
      (AskedPost ⟨6, s, o, fin, l, c, f, q, y, c0, c1, c2, c3, c4, c5, c6, c7⟩ ⟨dA, dn, dc⟩ ⟨rA, rn, rc⟩ w) := by
  go_enter Try.func43, Try.ntmps43
  go_wp2_with ((with_reducible refine at_st (x := .tmp 4) ?_); refine st_top _ _ _ (by rfl) _ (by rfl) (by simp) (by rfl) (by rfl) (by rfl) (by rfl) ?_)
  go_region_held3 (fun w' => w'.cell? ⟨w.heap.size, 2, none⟩ = some (.int .u64 o) ∧ w'.cell? ⟨w.heap.size, 3, none⟩ = some (.slice dA dn dc)) (go_keep) (fail)
  go_wp2_with (first | ((with_reducible refine at_ld ?_); refine ld_fr _ _ (by rfl) (by first | exact At.new_ _ _ _ (by simp) | exact (At.new_ _ _ _ (by simp)).drew) (by rfl) ?_) | ((with_reducible refine at_st (x := .tmp 2) ?_); refine st_at _ _ _ (by rfl) (by rfl) (by first | exact (At.new_ _ _ _ (by simp)).alloc _ | exact ((At.new_ _ _ _ (by simp)).alloc _).drew) (by rfl) (by rfl) (by rfl) ?_; intro w' hA' hK'))
  refine bodyPost_ret (results_cell_tmp 2 3 46 (by rfl) _ 46 _ _ _ (by rfl) (by rfl) hA' Try.underlying46 rfl (by kernel_rfl)) rfl ?_
  exact ⟨rfl, hK'.below (by first | exact (((Below.refl _ _).alloc (Nat.le_refl _) _).alloc (by simp) _).alloc (by simp <;> omega) _ | exact below_drew ((((Below.refl _ _).alloc (Nat.le_refl _) _).alloc (by simp) _).alloc (by simp <;> omega) _)) (by simp <;> omega) (fun j hj => by omega)⟩
set_option maxRecDepth 100000 in
set_option maxHeartbeats 1600000 in
theorem asked_8 (s o l c f q y c0 c1 c2 c3 c4 c5 c6 c7 : Int) (fin : Bool) (dA rA : Option Addr) (dn dc rn rc : Nat) (w : World) :
    Calls Try.prog 43 #[.agg #[.int .i64 8, .int .u64 s, .int .u64 o, .slice dA dn dc, .bool fin, .int .u64 l, .int .u64 c, .int .u64 f, .int .u64 q, .int .u64 y, .slice rA rn rc,
      .int .u8 c0, .int .u8 c1, .int .u8 c2, .int .u8 c3, .int .u8 c4, .int .u8 c5, .int .u8 c6, .int .u8 c7]] w
      (AskedPost ⟨8, s, o, fin, l, c, f, q, y, c0, c1, c2, c3, c4, c5, c6, c7⟩ ⟨dA, dn, dc⟩ ⟨rA, rn, rc⟩ w) := by
  go_enter Try.func43, Try.ntmps43
  go_wp2_with ((with_reducible refine at_st (x := .tmp 4) ?_); refine st_top _ _ _ (by rfl) _ (by rfl) (by simp) (by rfl) (by rfl) (by rfl) (by rfl) ?_)
  go_region_held3 (fun w' => w'.cell? ⟨w.heap.size, 1, none⟩ = some (.int .u64 s) ∧ w'.cell? ⟨w.heap.size, 2, none⟩ = some (.int .u64 o) ∧ w'.cell? ⟨w.heap.size, 3, none⟩ = some (.slice dA dn dc) ∧ w'.cell? ⟨w.heap.size, 4, none⟩ = some (.bool fin)) (go_keep) (fail)
  go_wp2_with (first | ((with_reducible refine at_ld ?_); refine ld_fr _ _ (by rfl) (by first | exact At.new_ _ _ _ (by simp) | exact (At.new_ _ _ _ (by simp)).drew) (by rfl) ?_) | ((with_reducible refine at_st (x := .tmp 2) ?_); refine st_at _ _ _ (by rfl) (by rfl) (by first | exact (At.new_ _ _ _ (by simp)).alloc _ | exact ((At.new_ _ _ _ (by simp)).alloc _).drew) (by rfl) (by rfl) (by rfl) ?_; intro w' hA' hK'))
  refine bodyPost_ret (results_cell_tmp 2 3 46 (by rfl) _ 46 _ _ _ (by rfl) (by rfl) hA' Try.underlying46 rfl (by kernel_rfl)) rfl ?_
  exact ⟨rfl, hK'.below (by first | exact (((Below.refl _ _).alloc (Nat.le_refl _) _).alloc (by simp) _).alloc (by simp <;> omega) _ | exact below_drew ((((Below.refl _ _).alloc (Nat.le_refl _) _).alloc (by simp) _).alloc (by simp <;> omega) _)) (by simp <;> omega) (fun j hj => by omega)⟩
set_option maxRecDepth 100000 in
set_option maxHeartbeats 1600000 in
theorem asked_16 (s o l c f q y c0 c1 c2 c3 c4 c5 c6 c7 : Int) (fin : Bool) (dA rA : Option Addr) (dn dc rn rc : Nat) (w : World) :
    Calls Try.prog 43 #[.agg #[.int .i64 16, .int .u64 s, .int .u64 o, .slice dA dn dc, .bool fin, .int .u64 l, .int .u64 c, .int .u64 f, .int .u64 q, .int .u64 y, .slice rA rn rc,
      .int .u8 c0, .int .u8 c1, .int .u8 c2, .int .u8 c3, .int .u8 c4, .int .u8 c5, .int .u8 c6, .int .u8 c7]] w
      (AskedPost ⟨16, s, o, fin, l, c, f, q, y, c0, c1, c2, c3, c4, c5, c6, c7⟩ ⟨dA, dn, dc⟩ ⟨rA, rn, rc⟩ w) := by
  go_enter Try.func43, Try.ntmps43
  go_wp2_with (first | ((with_reducible refine at_ld ?_); refine ld_fr _ _ (by rfl) (by first | exact At.new_ _ _ _ (by simp) | exact (At.new_ _ _ _ (by simp)).drew) (by rfl) ?_) | (first | ((with_reducible refine at_st (x := .tmp 4) ?_); refine st_top _ _ _ (by rfl) _ (by rfl) (by simp) (by rfl) (by rfl) (by rfl) (by rfl) ?_) | ((with_reducible refine at_st (x := .tmp 2) ?_); refine st_at _ _ _ (by rfl) (by rfl) (by first | exact (At.new_ _ _ _ (by simp)).alloc _ | exact ((At.new_ _ _ _ (by simp)).alloc _).drew) (by rfl) (by rfl) (by rfl) ?_; intro w' hA' hK')))
  refine bodyPost_ret (results_cell_tmp 2 3 46 (by rfl) _ 46 _ _ _ (by rfl) (by rfl) hA' Try.underlying46 rfl (by kernel_rfl)) rfl ?_
  exact ⟨rfl, hK'.below (by first | exact (((Below.refl _ _).alloc (Nat.le_refl _) _).alloc (by simp) _).alloc (by simp <;> omega) _ | exact below_drew ((((Below.refl _ _).alloc (Nat.le_refl _) _).alloc (by simp) _).alloc (by simp <;> omega) _)) (by simp <;> omega) (fun j hj => by omega)⟩
set_option maxRecDepth 100000 in
set_option maxHeartbeats 1600000 in
theorem asked_18 (s o l c f q y c0 c1 c2 c3 c4 c5 c6 c7 : Int) (fin : Bool) (dA rA : Option Addr) (dn dc rn rc : Nat) (w : World) :
    Calls Try.prog 43 #[.agg #[.int .i64 18, .int .u64 s, .int .u64 o, .slice dA dn dc, .bool fin, .int .u64 l, .int .u64 c, .int .u64 f, .int .u64 q, .int .u64 y, .slice rA rn rc,
      .int .u8 c0, .int .u8 c1, .int .u8 c2, .int .u8 c3, .int .u8 c4, .int .u8 c5, .int .u8 c6, .int .u8 c7]] w
      (AskedPost ⟨18, s, o, fin, l, c, f, q, y, c0, c1, c2, c3, c4, c5, c6, c7⟩ ⟨dA, dn, dc⟩ ⟨rA, rn, rc⟩ w) := by
  go_enter Try.func43, Try.ntmps43
  go_wp2_with (first | ((with_reducible refine at_ld ?_); refine ld_fr _ _ (by rfl) (by first | exact At.new_ _ _ _ (by simp) | exact (At.new_ _ _ _ (by simp)).drew) (by rfl) ?_) | (first | ((with_reducible refine at_st (x := .tmp 4) ?_); refine st_top _ _ _ (by rfl) _ (by rfl) (by simp) (by rfl) (by rfl) (by rfl) (by rfl) ?_) | ((with_reducible refine at_st (x := .tmp 2) ?_); refine st_at _ _ _ (by rfl) (by rfl) (by first | exact (At.new_ _ _ _ (by simp)).alloc _ | exact ((At.new_ _ _ _ (by simp)).alloc _).drew) (by rfl) (by rfl) (by rfl) ?_; intro w' hA' hK')))
  refine bodyPost_ret (results_cell_tmp 2 3 46 (by rfl) _ 46 _ _ _ (by rfl) (by rfl) hA' Try.underlying46 rfl (by kernel_rfl)) rfl ?_
  exact ⟨rfl, hK'.below (by first | exact (((Below.refl _ _).alloc (Nat.le_refl _) _).alloc (by simp) _).alloc (by simp <;> omega) _ | exact below_drew ((((Below.refl _ _).alloc (Nat.le_refl _) _).alloc (by simp) _).alloc (by simp <;> omega) _)) (by simp <;> omega) (fun j hj => by omega)⟩
set_option maxRecDepth 100000 in
set_option maxHeartbeats 1600000 in
theorem asked_20 (s o l c f q y c0 c1 c2 c3 c4 c5 c6 c7 : Int) (fin : Bool) (dA rA : Option Addr) (dn dc rn rc : Nat) (w : World) :
    Calls Try.prog 43 #[.agg #[.int .i64 20, .int .u64 s, .int .u64 o, .slice dA dn dc, .bool fin, .int .u64 l, .int .u64 c, .int .u64 f, .int .u64 q, .int .u64 y, .slice rA rn rc,
      .int .u8 c0, .int .u8 c1, .int .u8 c2, .int .u8 c3, .int .u8 c4, .int .u8 c5, .int .u8 c6, .int .u8 c7]] w
      (AskedPost ⟨20, s, o, fin, l, c, f, q, y, c0, c1, c2, c3, c4, c5, c6, c7⟩ ⟨dA, dn, dc⟩ ⟨rA, rn, rc⟩ w) := by
  go_enter Try.func43, Try.ntmps43
  go_wp2_with (first | ((with_reducible refine at_ld ?_); refine ld_fr _ _ (by rfl) (by first | exact At.new_ _ _ _ (by simp) | exact (At.new_ _ _ _ (by simp)).drew) (by rfl) ?_) | (first | ((with_reducible refine at_st (x := .tmp 4) ?_); refine st_top _ _ _ (by rfl) _ (by rfl) (by simp) (by rfl) (by rfl) (by rfl) (by rfl) ?_) | ((with_reducible refine at_st (x := .tmp 2) ?_); refine st_at _ _ _ (by rfl) (by rfl) (by first | exact (At.new_ _ _ _ (by simp)).alloc _ | exact ((At.new_ _ _ _ (by simp)).alloc _).drew) (by rfl) (by rfl) (by rfl) ?_; intro w' hA' hK')))
  refine bodyPost_ret (results_cell_tmp 2 3 46 (by rfl) _ 46 _ _ _ (by rfl) (by rfl) hA' Try.underlying46 rfl (by kernel_rfl)) rfl ?_
  exact ⟨rfl, hK'.below (by first | exact (((Below.refl _ _).alloc (Nat.le_refl _) _).alloc (by simp) _).alloc (by simp <;> omega) _ | exact below_drew ((((Below.refl _ _).alloc (Nat.le_refl _) _).alloc (by simp) _).alloc (by simp <;> omega) _)) (by simp <;> omega) (fun j hj => by omega)⟩
set_option maxRecDepth 100000 in
set_option maxHeartbeats 1600000 in
theorem asked_17 (s o l c f q y c0 c1 c2 c3 c4 c5 c6 c7 : Int) (fin : Bool) (dA rA : Option Addr) (dn dc rn rc : Nat) (w : World) :
    Calls Try.prog 43 #[.agg #[.int .i64 17, .int .u64 s, .int .u64 o, .slice dA dn dc, .bool fin, .int .u64 l, .int .u64 c, .int .u64 f, .int .u64 q, .int .u64 y, .slice rA rn rc,
      .int .u8 c0, .int .u8 c1, .int .u8 c2, .int .u8 c3, .int .u8 c4, .int .u8 c5, .int .u8 c6, .int .u8 c7]] w
      (AskedPost ⟨17, s, o, fin, l, c, f, q, y, c0, c1, c2, c3, c4, c5, c6, c7⟩ ⟨dA, dn, dc⟩ ⟨rA, rn, rc⟩ w) := by
  go_enter Try.func43, Try.ntmps43
  go_wp2_with ((with_reducible refine at_st (x := .tmp 4) ?_); refine st_top _ _ _ (by rfl) _ (by rfl) (by simp) (by rfl) (by rfl) (by rfl) (by rfl) ?_)
  go_region_held3 (fun w' => w'.cell? ⟨w.heap.size, 1, none⟩ = some (.int .u64 s) ∧ w'.cell? ⟨w.heap.size, 5, none⟩ = some (.int .u64 l)) (go_keep) (fail)
  go_wp2_with (first | ((with_reducible refine at_ld ?_); refine ld_fr _ _ (by rfl) (by first | exact At.new_ _ _ _ (by simp) | exact (At.new_ _ _ _ (by simp)).drew) (by rfl) ?_) | ((with_reducible refine at_st (x := .tmp 2) ?_); refine st_at _ _ _ (by rfl) (by rfl) (by first | exact (At.new_ _ _ _ (by simp)).alloc _ | exact ((At.new_ _ _ _ (by simp)).alloc _).drew) (by rfl) (by rfl) (by rfl) ?_; intro w' hA' hK'))
  refine bodyPost_ret (results_cell_tmp 2 3 46 (by rfl) _ 46 _ _ _ (by rfl) (by rfl) hA' Try.underlying46 rfl (by kernel_rfl)) rfl ?_
  exact ⟨rfl, hK'.below (by first | exact (((Below.refl _ _).alloc (Nat.le_refl _) _).alloc (by simp) _).alloc (by simp <;> omega) _ | exact below_drew ((((Below.refl _ _).alloc (Nat.le_refl _) _).alloc (by simp) _).alloc (by simp <;> omega) _)) (by simp <;> omega) (fun j hj => by omega)⟩
set_option maxRecDepth 100000 in
set_option maxHeartbeats 1600000 in
theorem asked_24 (s o l c f q y c0 c1 c2 c3 c4 c5 c6 c7 : Int) (fin : Bool) (dA rA : Option Addr) (dn dc rn rc : Nat) (w : World) :
    Calls Try.prog 43 #[.agg #[.int .i64 24, .int .u64 s, .int .u64 o, .slice dA dn dc, .bool fin, .int .u64 l, .int .u64 c, .int .u64 f, .int .u64 q, .int .u64 y, .slice rA rn rc,
      .int .u8 c0, .int .u8 c1, .int .u8 c2, .int .u8 c3, .int .u8 c4, .int .u8 c5, .int .u8 c6, .int .u8 c7]] w
      (AskedPost ⟨24, s, o, fin, l, c, f, q, y, c0, c1, c2, c3, c4, c5, c6, c7⟩ ⟨dA, dn, dc⟩ ⟨rA, rn, rc⟩ w) := by
  go_enter Try.func43, Try.ntmps43
  go_wp2_with ((with_reducible refine at_st (x := .tmp 4) ?_); refine st_top _ _ _ (by rfl) _ (by rfl) (by simp) (by rfl) (by rfl) (by rfl) (by rfl) ?_)
  go_region_held3 (fun w' => w'.cell? ⟨w.heap.size, 8, none⟩ = some (.int .u64 q) ∧ w'.cell? ⟨w.heap.size, 5, none⟩ = some (.int .u64 l) ∧ w'.cell? ⟨w.heap.size, 11, none⟩ = some (.int .u8 c0) ∧ w'.cell? ⟨w.heap.size, 12, none⟩ = some (.int .u8 c1) ∧ w'.cell? ⟨w.heap.size, 13, none⟩ = some (.int .u8 c2) ∧ w'.cell? ⟨w.heap.size, 14, none⟩ = some (.int .u8 c3) ∧ w'.cell? ⟨w.heap.size, 15, none⟩ = some (.int .u8 c4) ∧ w'.cell? ⟨w.heap.size, 16, none⟩ = some (.int .u8 c5) ∧ w'.cell? ⟨w.heap.size, 17, none⟩ = some (.int .u8 c6) ∧ w'.cell? ⟨w.heap.size, 18, none⟩ = some (.int .u8 c7)) (go_keep) (fail)
  go_wp2_with (first | ((with_reducible refine at_ld ?_); refine ld_fr _ _ (by rfl) (by first | exact At.new_ _ _ _ (by simp) | exact (At.new_ _ _ _ (by simp)).drew) (by rfl) ?_) | ((with_reducible refine at_st (x := .tmp 2) ?_); refine st_at _ _ _ (by rfl) (by rfl) (by first | exact (At.new_ _ _ _ (by simp)).alloc _ | exact ((At.new_ _ _ _ (by simp)).alloc _).drew) (by rfl) (by rfl) (by rfl) ?_; intro w' hA' hK'))
  refine bodyPost_ret (results_cell_tmp 2 3 46 (by rfl) _ 46 _ _ _ (by rfl) (by rfl) hA' Try.underlying46 rfl (by kernel_rfl)) rfl ?_
  exact ⟨rfl, hK'.below (by first | exact (((Below.refl _ _).alloc (Nat.le_refl _) _).alloc (by simp) _).alloc (by simp <;> omega) _ | exact below_drew ((((Below.refl _ _).alloc (Nat.le_refl _) _).alloc (by simp) _).alloc (by simp <;> omega) _)) (by simp <;> omega) (fun j hj => by omega)⟩
set_option maxRecDepth 100000 in
set_option maxHeartbeats 1600000 in
theorem asked_25 (s o l c f q y c0 c1 c2 c3 c4 c5 c6 c7 : Int) (fin : Bool) (dA rA : Option Addr) (dn dc rn rc : Nat) (w : World) :
    Calls Try.prog 43 #[.agg #[.int .i64 25, .int .u64 s, .int .u64 o, .slice dA dn dc, .bool fin, .int .u64 l, .int .u64 c, .int .u64 f, .int .u64 q, .int .u64 y, .slice rA rn rc,
      .int .u8 c0, .int .u8 c1, .int .u8 c2, .int .u8 c3, .int .u8 c4, .int .u8 c5, .int .u8 c6, .int .u8 c7]] w
      (AskedPost ⟨25, s, o, fin, l, c, f, q, y, c0, c1, c2, c3, c4, c5, c6, c7⟩ ⟨dA, dn, dc⟩ ⟨rA, rn, rc⟩ w) := by
  go_enter Try.func43, Try.ntmps43
  go_wp2_with (first | ((with_reducible refine at_ld ?_); refine ld_fr _ _ (by rfl) (by first | exact At.new_ _ _ _ (by simp) | exact (At.new_ _ _ _ (by simp)).drew) (by rfl) ?_) | (first | ((with_reducible refine at_st (x := .tmp 4) ?_); refine st_top _ _ _ (by rfl) _ (by rfl) (by simp) (by rfl) (by rfl) (by rfl) (by rfl) ?_) | ((with_reducible refine at_st (x := .tmp 2) ?_); refine st_at _ _ _ (by rfl) (by rfl) (by first | exact (At.new_ _ _ _ (by simp)).alloc _ | exact ((At.new_ _ _ _ (by simp)).alloc _).drew) (by rfl) (by rfl) (by rfl) ?_; intro w' hA' hK')))
  refine bodyPost_ret (results_cell_tmp 2 3 46 (by rfl) _ 46 _ _ _ (by rfl) (by rfl) hA' Try.underlying46 rfl (by kernel_rfl)) rfl ?_
  exact ⟨rfl, hK'.below (by first | exact (((Below.refl _ _).alloc (Nat.le_refl _) _).alloc (by simp) _).alloc (by simp <;> omega) _ | exact below_drew ((((Below.refl _ _).alloc (Nat.le_refl _) _).alloc (by simp) _).alloc (by simp <;> omega) _)) (by simp <;> omega) (fun j hj => by omega)⟩
set_option maxRecDepth 100000 in
set_option maxHeartbeats 1600000 in
theorem asked_26 (s o l c f q y c0 c1 c2 c3 c4 c5 c6 c7 : Int) (fin : Bool) (dA rA : Option Addr) (dn dc rn rc : Nat) (w : World) :
    Calls Try.prog 43 #[.agg #[.int .i64 26, .int .u64 s, .int .u64 o, .slice dA dn dc, .bool fin, .int .u64 l, .int .u64 c, .int .u64 f, .int .u64 q, .int .u64 y, .slice rA rn rc,
      .int .u8 c0, .int .u8 c1, .int .u8 c2, .int .u8 c3, .int .u8 c4, .int .u8 c5, .int .u8 c6, .int .u8 c7]] w
      (AskedPost ⟨26, s, o, fin, l, c, f, q, y, c0, c1, c2, c3, c4, c5, c6, c7⟩ ⟨dA, dn, dc⟩ ⟨rA, rn, rc⟩ w) := by
  go_enter Try.func43, Try.ntmps43
  go_wp2_with (first | ((with_reducible refine at_ld ?_); refine ld_fr _ _ (by rfl) (by first | exact At.new_ _ _ _ (by simp) | exact (At.new_ _ _ _ (by simp)).drew) (by rfl) ?_) | (first | ((with_reducible refine at_st (x := .tmp 4) ?_); refine st_top _ _ _ (by rfl) _ (by rfl) (by simp) (by rfl) (by rfl) (by rfl) (by rfl) ?_) | ((with_reducible refine at_st (x := .tmp 2) ?_); refine st_at _ _ _ (by rfl) (by rfl) (by first | exact (At.new_ _ _ _ (by simp)).alloc _ | exact ((At.new_ _ _ _ (by simp)).alloc _).drew) (by rfl) (by rfl) (by rfl) ?_; intro w' hA' hK')))
  refine bodyPost_ret (results_cell_tmp 2 3 46 (by rfl) _ 46 _ _ _ (by rfl) (by rfl) hA' Try.underlying46 rfl (by kernel_rfl)) rfl ?_
  exact ⟨rfl, hK'.below (by first | exact (((Below.refl _ _).alloc (Nat.le_refl _) _).alloc (by simp) _).alloc (by simp <;> omega) _ | exact below_drew ((((Below.refl _ _).alloc (Nat.le_refl _) _).alloc (by simp) _).alloc (by simp <;> omega) _)) (by simp <;> omega) (fun j hj => by omega)⟩
set_option maxRecDepth 100000 in
set_option maxHeartbeats 1600000 in
theorem asked_27 (s o l c f q y c0 c1 c2 c3 c4 c5 c6 c7 : Int) (fin : Bool) (dA rA : Option Addr) (dn dc rn rc : Nat) (w : World) :
    Calls Try.prog 43 #[.agg #[.int .i64 27, .int .u64 s, .int .u64 o, .slice dA dn dc, .bool fin, .int .u64 l, .int .u64 c, .int .u64 f, .int .u64 q, .int .u64 y, .slice rA rn rc,
      .int .u8 c0, .int .u8 c1, .int .u8 c2, .int .u8 c3, .int .u8 c4, .int .u8 c5, .int .u8 c6, .int .u8 c7]] w
      (AskedPost ⟨27, s, o, fin, l, c, f, q, y, c0, c1, c2, c3, c4, c5, c6, c7⟩ ⟨dA, dn, dc⟩ ⟨rA, rn, rc⟩ w) := by
  go_enter Try.func43, Try.ntmps43
  go_wp2_with (first | ((with_reducible refine at_ld ?_); refine ld_fr _ _ (by rfl) (by first | exact At.new_ _ _ _ (by simp) | exact (At.new_ _ _ _ (by simp)).drew) (by rfl) ?_) | (first | ((with_reducible refine at_st (x := .tmp 4) ?_); refine st_top _ _ _ (by rfl) _ (by rfl) (by simp) (by rfl) (by rfl) (by rfl) (by rfl) ?_) | ((with_reducible refine at_st (x := .tmp 2) ?_); refine st_at _ _ _ (by rfl) (by rfl) (by first | exact (At.new_ _ _ _ (by simp)).alloc _ | exact ((At.new_ _ _ _ (by simp)).alloc _).drew) (by rfl) (by rfl) (by rfl) ?_; intro w' hA' hK')))
  refine bodyPost_ret (results_cell_tmp 2 3 46 (by rfl) _ 46 _ _ _ (by rfl) (by rfl) hA' Try.underlying46 rfl (by kernel_rfl)) rfl ?_
  exact ⟨rfl, hK'.below (by first | exact (((Below.refl _ _).alloc (Nat.le_refl _) _).alloc (by simp) _).alloc (by simp <;> omega) _ | exact below_drew ((((Below.refl _ _).alloc (Nat.le_refl _) _).alloc (by simp) _).alloc (by simp <;> omega) _)) (by simp <;> omega) (fun j hj => by omega)⟩
set_option maxRecDepth 100000 in
set_option maxHeartbeats 1600000 in
theorem asked_28 (s o l c f q y c0 c1 c2 c3 c4 c5 c6 c7 : Int) (fin : Bool) (dA rA : Option Addr) (dn dc rn rc : Nat) (w : World) :
    Calls Try.prog 43 #[.agg #[.int .i64 28, .int .u64 s, .int .u64 o, .slice dA dn dc, .bool fin, .int .u64 l, .int .u64 c, .int .u64 f, .int .u64 q, .int .u64 y, .slice rA rn rc,
      .int .u8 c0, .int .u8 c1, .int .u8 c2, .int .u8 c3, .int .u8 c4, .int .u8 c5, .int .u8 c6, .int .u8 c7]] w
      (AskedPost ⟨28, s, o, fin, l, c, f, q, y, c0, c1, c2, c3, c4, c5, c6, c7⟩ ⟨dA, dn, dc⟩ ⟨rA, rn, rc⟩ w) := by
  go_enter Try.func43, Try.ntmps43
  go_wp2_with ((with_reducible refine at_st (x := .tmp 4) ?_); refine st_top _ _ _ (by rfl) _ (by rfl) (by simp) (by rfl) (by rfl) (by rfl) (by rfl) ?_)
  go_region_held3 (fun w' => w'.cell? ⟨w.heap.size, 6, none⟩ = some (.int .u64 c) ∧ w'.cell? ⟨w.heap.size, 3, none⟩ = some (.slice dA dn dc)) (go_keep) (fail)
  go_wp2_with (first | ((with_reducible refine at_ld ?_); refine ld_fr _ _ (by rfl) (by first | exact At.new_ _ _ _ (by simp) | exact (At.new_ _ _ _ (by simp)).drew) (by rfl) ?_) | ((with_reducible refine at_st (x := .tmp 2) ?_); refine st_at _ _ _ (by rfl) (by rfl) (by first | exact (At.new_ _ _ _ (by simp)).alloc _ | exact ((At.new_ _ _ _ (by simp)).alloc _).drew) (by rfl) (by rfl) (by rfl) ?_; intro w' hA' hK'))
  refine bodyPost_ret (results_cell_tmp 2 3 46 (by rfl) _ 46 _ _ _ (by rfl) (by rfl) hA' Try.underlying46 rfl (by kernel_rfl)) rfl ?_
  exact ⟨rfl, hK'.below (by first | exact (((Below.refl _ _).alloc (Nat.le_refl _) _).alloc (by simp) _).alloc (by simp <;> omega) _ | exact below_drew ((((Below.refl _ _).alloc (Nat.le_refl _) _).alloc (by simp) _).alloc (by simp <;> omega) _)) (by simp <;> omega) (fun j hj => by omega)⟩
set_option maxRecDepth 100000 in
set_option maxHeartbeats 1600000 in
theorem asked_x (k s o l c f q y c0 c1 c2 c3 c4 c5 c6 c7 : Int) (fin : Bool) (dA rA : Option Addr) (dn dc rn rc : Nat) (w : World) (hk : (k == 0) = false ∧ (k == 1) = false ∧ (k == 30) = false ∧ (k == 2) = false ∧ (k == 4) = false ∧ (k == 5) = false ∧ (k == 6) = false ∧ (k == 8) = false ∧ (k == 16) = false ∧ (k == 18) = false ∧ (k == 20) = false ∧ (k == 17) = false ∧ (k == 24) = false ∧ (k == 25) = false ∧ (k == 26) = false ∧ (k == 27) = false ∧ (k == 28) = false) :
    Calls Try.prog 43 #[.agg #[.int .i64 k, .int .u64 s, .int .u64 o, .slice dA dn dc, .bool fin, .int .u64 l, .int .u64 c, .int .u64 f, .int .u64 q, .int .u64 y, .slice rA rn rc,
      .int .u8 c0, .int .u8 c1, .int .u8 c2, .int .u8 c3, .int .u8 c4, .int .u8 c5, .int .u8 c6, .int .u8 c7]] w
      (AskedPost ⟨k, s, o, fin, l, c, f, q, y, c0, c1, c2, c3, c4, c5, c6, c7⟩ ⟨dA, dn, dc⟩ ⟨rA, rn, rc⟩ w) := by
  have HK := Lib.hid hk
  obtain ⟨e0, e1, e30, e2, e4, e5, e6, e8, e16, e18, e20, e17, e24, e25, e26, e27, e28⟩ := hk
  go_enter Try.func43, Try.ntmps43
  go_wp2_with (first | ((with_reducible refine at_ld ?_); refine ld_fr _ _ (by rfl) (by first | exact At.new_ _ _ _ (by simp) | exact (At.new_ _ _ _ (by simp)).drew) (by rfl) ?_) | (first | ((with_reducible refine at_st (x := .tmp 4) ?_); refine st_top _ _ _ (by rfl) _ (by rfl) (by simp) (by rfl) (by rfl) (by rfl) (by rfl) ?_) | ((with_reducible refine at_st (x := .tmp 2) ?_); refine st_at _ _ _ (by rfl) (by rfl) (by first | exact (At.new_ _ _ _ (by simp)).alloc _ | exact ((At.new_ _ _ _ (by simp)).alloc _).drew) (by rfl) (by rfl) (by rfl) ?_; intro w' hA' hK')))
  refine bodyPost_ret (results_cell_tmp 2 3 46 (by rfl) _ 46 _ _ _ (by rfl) (by rfl) hA' Try.underlying46 rfl (by kernel_rfl)) rfl ?_
  exact askedPost_x k s o l c f q y c0 c1 c2 c3 c4 c5 c6 c7 fin _ _ w w' HK.out (hK'.below (by first | exact (((Below.refl _ _).alloc (Nat.le_refl _) _).alloc (by simp) _).alloc (by simp <;> omega) _ | exact below_drew ((((Below.refl _ _).alloc (Nat.le_refl _) _).alloc (by simp) _).alloc (by simp <;> omega) _)) (by simp <;> omega) (fun j hj => by omega))
theorem asked_any (m : FN) (d r : Sl) (w : World) : Calls Try.prog 43 #[frV m d r] w (AskedPost m d r w) := by
  obtain ⟨k, s, o, fin, l, c, f, q, y, c0, c1, c2, c3, c4, c5, c6, c7⟩ := m
  obtain ⟨dA, dn, dc⟩ := d
  obtain ⟨rA, rn, rc⟩ := r
  rcases kind_cases k with rfl | rfl | rfl | rfl | rfl | rfl | rfl | rfl | rfl | rfl | rfl | rfl | rfl | rfl | rfl | rfl | rfl | hk
  · exact asked_0 s o l c f q y c0 c1 c2 c3 c4 c5 c6 c7 fin dA rA dn dc rn rc w
  · exact asked_1 s o l c f q y c0 c1 c2 c3 c4 c5 c6 c7 fin dA rA dn dc rn rc w
  · exact asked_30 s o l c f q y c0 c1 c2 c3 c4 c5 c6 c7 fin dA rA dn dc rn rc w
  · exact asked_2 s o l c f q y c0 c1 c2 c3 c4 c5 c6 c7 fin dA rA dn dc rn rc w
  · exact asked_4 s o l c f q y c0 c1 c2 c3 c4 c5 c6 c7 fin dA rA dn dc rn rc w
  · exact asked_5 s o l c f q y c0 c1 c2 c3 c4 c5 c6 c7 fin dA rA dn dc rn rc w
  · exact asked_6 s o l c f q y c0 c1 c2 c3 c4 c5 c6 c7 fin dA rA dn dc rn rc w
  · exact asked_8 s o l c f q y c0 c1 c2 c3 c4 c5 c6 c7 fin dA rA dn dc rn rc w
  · exact asked_16 s o l c f q y c0 c1 c2 c3 c4 c5 c6 c7 fin dA rA dn dc rn rc w
  · exact asked_18 s o l c f q y c0 c1 c2 c3 c4 c5 c6 c7 fin dA rA dn dc rn rc w
  · exact asked_20 s o l c f q y c0 c1 c2 c3 c4 c5 c6 c7 fin dA rA dn dc rn rc w
  · exact asked_17 s o l c f q y c0 c1 c2 c3 c4 c5 c6 c7 fin dA rA dn dc rn rc w
  · exact asked_24 s o l c f q y c0 c1 c2 c3 c4 c5 c6 c7 fin dA rA dn dc rn rc w
  · exact asked_25 s o l c f q y c0 c1 c2 c3 c4 c5 c6 c7 fin dA rA dn dc rn rc w
  · exact asked_26 s o l c f q y c0 c1 c2 c3 c4 c5 c6 c7 fin dA rA dn dc rn rc w
  · exact asked_27 s o l c f q y c0 c1 c2 c3 c4 c5 c6 c7 fin dA rA dn dc rn rc w
  · exact asked_28 s o l c f q y c0 c1 c2 c3 c4 c5 c6 c7 fin dA rA dn dc rn rc w
  · exact asked_x k s o l c f q y c0 c1 c2 c3 c4 c5 c6 c7 fin dA rA dn dc rn rc w hk
end Go.Proofs.Ytahalbmcijbbmaa
