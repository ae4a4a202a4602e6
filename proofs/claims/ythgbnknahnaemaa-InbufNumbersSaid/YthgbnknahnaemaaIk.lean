/-
  The document's buffer behind a pointer (Rc, Rb); its Ready, Whole.
-/
import Derived.Test.YthgbnknahnaemaaIb
import Derived.Test.YthgbnknahnaemaaId
import Derived.Deep.LoopGhost
import Derived.BigQuiet
namespace Go.Proofs.Ythgbnknahnaemaa
set_option linter.unusedVariables false
set_option linter.unusedSimpArgs false
open Go.RowKit
theorem ibool_info : (Try.prog.info? 4).map (fun i => (i.zero, i.size, i.bytes)) = some (some (.bool false), 1, 1) := by kernel_rfl
theorem oB : OneT Try.prog 31 4 (.bool false) := by
  obtain ⟨i, hi, h⟩ : ∃ i, Try.prog.info? 4 = some i ∧ i.zero = some (.bool false) ∧ i.size = 1 ∧ i.bytes = 1 := by
    have hI := ibool_info
    cases hq : Try.prog.info? 4 with
    | none => rw [hq] at hI; cases hI
    | some i =>
      rw [hq] at hI
      simp only [Option.map_some, Option.some.injEq, Prod.mk.injEq] at hI
      exact ⟨i, rfl, hI⟩
  exact ⟨Try.underlying31, ⟨i, hi, h⟩, rfl, rfl⟩
/-- The document's two rows keep what came from rd on. -/
structure Rm (rd : Nat) (C : List Bool) (B : List Int) (g : Nat → Option Int) : Prop where
  len : C.length = B.length
  wl : C.length ≤ 2048
  has : ∀ i, C.getD i false = (g (rd + i)).isSome
  byt : ∀ i x, g (rd + i) = some x → B[i]? = some x
theorem rm0 : Rm 0 [] [] (fun _ => none) := ⟨rfl, Nat.zero_le _, fun i => by simp, fun i x h => by cases h⟩
structure Rc (w : World) (base q : Nat) (vb vc : Value) (B : List Int) (C : List Bool) (S : BS) : Prop where
  at_ : At w q 33 [.int .u64 S.rd, .int .u64 S.hi, .int .u64 S.fi, .bool S.en, vb, vc]
  ob : Own w base 5 vb B
  oc : Ow w base 4 vc (C.map .bool)
  n1 : vb.ownBlock ≠ some q
  n2 : vc.ownBlock ≠ some q
  n3 : ∀ k, vb.ownBlock = some k → vc.ownBlock ≠ some k
  bq : base ≤ q
  rm : Rm S.rd C B S.g
def rO (q : Nat) (vb vc : Value) : Nat → Prop := fun b => b = q ∨ vb.ownBlock = some b ∨ vc.ownBlock = some b
section
variable {w w' : World} {base q : Nat} {vb vc : Value} {B : List Int} {C : List Bool} {S : BS}
theorem Rc.lt (h : Rc w base q vb vc B C S) : ∀ b, rO q vb vc b → base ≤ b ∧ b < w.heap.size := by
  rintro b (rfl | hb | hb)
  · exact ⟨h.bq, h.at_.lt⟩
  · exact h.ob.block_lt b hb
  · exact ow_lt h.oc b hb
theorem Rc.kept {T : Nat → Prop} (h : Rc w base q vb vc B C S) (k : Kept T w w') (hs : ∀ b, rO q vb vc b → ¬ T b) : Rc w' base q vb vc B C S :=
  { h with
    at_ := h.at_.kept k (hs q (.inl rfl))
    ob := h.ob.kept k fun j hj => hs j (.inr (.inl hj))
    oc := ow_kept h.oc k fun j hj => hs j (.inr (.inr hj)) }
theorem Rc.drewN (h : Rc w base q vb vc B C S) (n : Nat) : Rc (w.drewN n) base q vb vc B C S := h.kept ((Kept.refl (fun _ => False) w).drewN n) fun _ _ h => h
theorem Rc.c0 (h : Rc w base q vb vc B C S) : w.cell? ⟨q, 0, none⟩ = some (.int .u64 S.rd) := by rw [h.at_.cell]; rfl
theorem Rc.c1 (h : Rc w base q vb vc B C S) : w.cell? ⟨q, 1, none⟩ = some (.int .u64 S.hi) := by rw [h.at_.cell]; rfl
theorem Rc.c2 (h : Rc w base q vb vc B C S) : w.cell? ⟨q, 2, none⟩ = some (.int .u64 S.fi) := by rw [h.at_.cell]; rfl
theorem Rc.c3 (h : Rc w base q vb vc B C S) : w.cell? ⟨q, 3, none⟩ = some (.bool S.en) := by rw [h.at_.cell]; rfl
theorem Rc.c4 (h : Rc w base q vb vc B C S) : w.cell? ⟨q, 4, none⟩ = some vb := by rw [h.at_.cell]; rfl
theorem Rc.c5 (h : Rc w base q vb vc B C S) : w.cell? ⟨q, 5, none⟩ = some vc := by rw [h.at_.cell]; rfl
end
def Rb (w : World) (base q : Nat) (O : Nat → Prop) (S : BS) : Prop := ∃ vb vc B C, O = rO q vb vc ∧ Rc w base q vb vc B C S
section
variable {w w' : World} {base q : Nat} {O : Nat → Prop} {S : BS}
theorem Rb.lt (h : Rb w base q O S) : ∀ b, O b → base ≤ b ∧ b < w.heap.size := by
  obtain ⟨vb, vc, B, C, rfl, h⟩ := h
  exact h.lt
theorem Rb.kept {T : Nat → Prop} (h : Rb w base q O S) (k : Kept T w w') (hs : ∀ b, O b → ¬ T b) : Rb w' base q O S := by
  obtain ⟨vb, vc, B, C, rfl, h⟩ := h
  exact ⟨vb, vc, B, C, rfl, h.kept k hs⟩
theorem Rb.below (h : Rb w base q O S) (k : Below w.heap.size w w') : Rb w' base q O S := h.kept (Kept.of_below k (fun _ => False)) fun _ _ h => h
theorem Rb.drewN (h : Rb w base q O S) (n : Nat) : Rb (w.drewN n) base q O S := h.kept ((Kept.refl (fun _ => False) w).drewN n) fun _ _ h => h
theorem Rb.at_ (h : Rb w base q O S) : ∃ u v, At w q 33 [.int .u64 S.rd, .int .u64 S.hi, .int .u64 S.fi, .bool S.en, u, v] := by
  obtain ⟨vb, vc, B, C, e, h⟩ := h
  exact ⟨_, _, h.at_⟩
theorem Rb.own_ (h : Rb w base q O S) : O q := by
  obtain ⟨vb, vc, B, C, rfl, h⟩ := h
  exact .inl rfl
end
/-- A new one. -/
theorem rb_new (w : World) (base : Nat) (hb : base ≤ w.heap.size) : ∃ O, Rb (w.alloc (.cells #[.int .u64 0, .int .u64 0, .int .u64 0, .bool false, .slice none 0 0, .slice none 0 0] 33)) base w.heap.size O bs0 :=
  ⟨_, _, _, [], [], rfl, At.new w _ _, Own.none_ _ _ _, ow_nil _ _ _, (by intro h; cases h), (by intro h; cases h), (by intro k h; cases h), hb, rm0⟩
theorem Rc.bool {w : World} {base q : Nat} {vb vc : Value} {B : List Int} {C : List Bool} {S : BS} (h : Rc w base q vb vc B C S) {i : Nat} (hi : i < C.length) : ∃ g c, vc = .slice (some ⟨g, 0, none⟩) C.length c ∧ w.cell? ⟨g, i, none⟩ = some (.bool (C.getD i false)) := by
  obtain ⟨A, c, e, _, _, ho⟩ := ow_open h.oc
  rw [List.length_map] at e ho
  rcases ho with ⟨_, _, hx⟩ | ⟨g, cur, rfl, _, _, hA, hl, ht⟩
  · simp at hx
    subst hx
    simp at hi
  · refine ⟨g, c, e, ?_⟩
    rw [hA.cell]
    have h1 : (cur.take C.length)[i]? = (C.map Value.bool)[i]? := by rw [ht]
    rw [List.getElem?_take_of_lt hi] at h1
    rw [h1, List.getElem?_map, List.getD_eq_getElem?_getD, List.getElem?_eq_getElem hi]
    rfl
set_option maxHeartbeats 4000000 in
set_option maxRecDepth 100000 in
theorem rready_any (base q : Nat) (O : Nat → Prop) (S : BS) (w : World) (h : Rb w base q O S) (k : Nat) (hk : IsR S.g S.rd k) :
    Calls Try.prog 29 #[.pointer (some ⟨q, 0, none⟩)] w fun e w' => e = .returned (.int .i64 k) ∧ w' = w := by
  obtain ⟨vb, vc, B, C, _, hc⟩ := h
  have h5 := hc.c5
  have hwl := hc.rm.wl
  have hkC : k ≤ C.length := by
    rcases Nat.lt_or_ge C.length k with h | h
    · have h1 := hk.1 C.length h
      rw [← hc.rm.has, List.getD_eq_getElem?_getD, List.getElem?_eq_none (Nat.le_refl _)] at h1
      cases h1
    · exact h
  have HC := Lib.hid (fun i (hi : i < C.length) => hc.bool hi)
  have HT : Hid (∀ i, i < k → C.getD i false = true) := Lib.hid (fun i hi => by rw [hc.rm.has]; exact hk.1 i hi)
  have HF : Hid (C.getD k false = false) := Lib.hid (by rw [hc.rm.has, hk.2]; rfl)
  obtain ⟨A, c, e, _, _, _⟩ := ow_open hc.oc
  rw [List.length_map] at e
  subst e
  clear hc hk
  generalize hm : C.length = m at *
  clear hm
  go_enter Try.func29, Try.ntmps29
  go_wp2
  go_loopg [3] k (fun kx s3 wr => ∃ n : Nat, s3 = .int .i64 n ∧ n ≤ k ∧ k - n ≤ kx ∧ wr = w)
  case atStart => exact ⟨0, rfl, Nat.zero_le _, Nat.le_refl _, rfl⟩
  case round =>
    obtain ⟨n, rfl, hnk, hkx, rfl⟩ := hrel
    by_cases hlt : n < k
    · obtain ⟨g, c', e, hcell⟩ := HC.out n (by omega)
      injection e with e1 e2 e3
      subst e1; subst e3
      rw [HT.out n hlt] at hcell
      have hz : (n : Int) < (m : Int) := by omega
      go_wp2
      go_roundg (k - (n + 1))
      case measure => omega
      case rel => exact ⟨n + 1, by simp, by omega, Nat.le_refl _, rfl⟩
    · obtain rfl : n = k := by omega
      by_cases hm : n < m
      · obtain ⟨g, c', e, hcell⟩ := HC.out n hm
        injection e with e1 e2 e3
        subst e1; subst e3
        rw [HF.out] at hcell
        have hz : (n : Int) < (m : Int) := by omega
        go_wp2
        go_ret
        exact ⟨rfl, rfl⟩
      · have hz : ¬ (n : Int) < (m : Int) := by omega
        go_wp2
        go_ret
        exact ⟨rfl, rfl⟩
set_option maxHeartbeats 4000000 in
set_option maxRecDepth 100000 in
theorem rwhole_any (base q : Nat) (O : Nat → Prop) (S : BS) (w : World) (h : Rb w base q O S) (hok : S.ok) (k : Nat) (hk : IsR S.g S.rd k) :
    Calls Try.prog 30 #[.pointer (some ⟨q, 0, none⟩)] w fun e w' => e = .returned (.bool (S.en && decide (S.rd + k = S.fi))) ∧ ∃ d, w' = w.drewN d := by
  have HR := Lib.hid (fun d => Calls.quiet_of_same (rready_any base q O S (w.drewN d) (h.drewN d) k hk))
  obtain ⟨vb, vc, B, C, _, hc⟩ := h
  have h0 := hc.c0
  have h2 := hc.c2
  have h3 := hc.c3
  have hkb := hk.le hok
  have hhi := hok.hm
  clear hok hk hc
  obtain ⟨rd, hi, fi, en, g⟩ := S
  simp only at *
  cases en
  · go_enter Try.func30, Try.ntmps30
    go_wp2
    go_quiet (fail)
    go_wp2
    go_ret
    exact ⟨rfl, _, rfl⟩
  · have hww : Hid (IntKind.u64.wrap ((rd : Int) + IntKind.u64.wrap (k : Int)) = ((rd + k : Nat) : Int)) := Lib.hid (by rw [IntKind.wrap_u64, IntKind.wrap_u64]; omega)
    have hQ : Hid (∀ b : Bool, b = decide (rd + k = fi) → (Ending.returned (.bool b) = .returned (.bool (true && decide (rd + k = fi))))) := Lib.hid (fun b h => by rw [h, Bool.true_and])
    obtain ⟨R, hR⟩ : ∃ R, R = rd + k := ⟨_, rfl⟩
    have hrk : (rd : Int) + (k : Int) = (R : Int) := by omega
    have hkb2 : R ≤ 1099511628288 := by omega
    have hkb3 : k ≤ 1099511628288 := by omega
    have hRR := Lib.hid hR
    clear hR hkb hhi
    go_enter Try.func30, Try.ntmps30
    go_wp2
    go_quiet ((go_at_call 29; (with_reducible exact HR.out _)))
    all_goals go_wp2
    all_goals go_ret
    all_goals (refine ⟨hQ.out _ ?_, _, rfl⟩)
    all_goals (first | rw [hww.out] | skip)
    all_goals (have := hRR.out; rw [Bool.eq_iff_iff]; simp; try omega)
end Go.Proofs.Ythgbnknahnaemaa
