/-
  The document's buffer as a field of its receiver (Rk, Rj); its Ready, Whole.
-/
import Derived.Test.YtphpdaldplkgmaaGreatMq13
import Derived.Deep.LoopGhost
import Derived.BigQuiet
import Derived.Deep.RegionHeld
import Derived.Test.YtphpdaldplkgmaaGreatMq12
import Derived.Test.YtphpdaldplkgmaaGreatMq10
namespace Go.Proofs.YtphpdaldplkgmaaGreat
section
set_option linter.unusedVariables false
set_option linter.unusedSimpArgs false
open Go.RowKit
/-- What stands in a block beside the buffer: six cells ahead of it, the others behind it. -/
structure RX where
  a0 : Value
  a1 : Value
  a2 : Value
  a3 : Value
  a4 : Value
  a5 : Value
  post : List Value
def rxL (X : RX) (l : List Value) : List Value := X.a0 :: X.a1 :: X.a2 :: X.a3 :: X.a4 :: X.a5 :: (l ++ X.post)
section
variable {X : RX}
structure Rk (X : RX) (w : World) (base q : Nat) (vb vc : Value) (B : List Int) (C : List Bool) (S : BS) : Prop where
  at_ : At w q 56 (rxL X [.int .u64 S.rd, .int .u64 S.hi, .int .u64 S.fi, .bool S.en, vb, vc])
  ob : Own w base 5 vb B
  oc : Ow w base 4 vc (C.map .bool)
  n1 : vb.ownBlock ≠ some q
  n2 : vc.ownBlock ≠ some q
  n3 : ∀ k, vb.ownBlock = some k → vc.ownBlock ≠ some k
  bq : base ≤ q
  rm : Rm S.rd C B S.g
section
variable {w w' : World} {base q : Nat} {vb vc : Value} {B : List Int} {C : List Bool} {S : BS}
theorem Rk.lt (h : Rk X w base q vb vc B C S) : ∀ b, rO q vb vc b → base ≤ b ∧ b < w.heap.size := by
  rintro b (rfl | hb | hb)
  · exact ⟨h.bq, h.at_.lt⟩
  · exact h.ob.block_lt b hb
  · exact ow_lt h.oc b hb
theorem Rk.kept {T : Nat → Prop} (h : Rk X w base q vb vc B C S) (k : Kept T w w') (hs : ∀ b, rO q vb vc b → ¬ T b) : Rk X w' base q vb vc B C S :=
  { h with
    at_ := h.at_.kept k (hs q (.inl rfl))
    ob := h.ob.kept k fun j hj => hs j (.inr (.inl hj))
    oc := ow_kept h.oc k fun j hj => hs j (.inr (.inr hj)) }
theorem Rk.drewN (h : Rk X w base q vb vc B C S) (n : Nat) : Rk X (w.drewN n) base q vb vc B C S := h.kept ((Kept.refl (fun _ => False) w).drewN n) fun _ _ h => h
theorem Rk.c0 (h : Rk X w base q vb vc B C S) : w.cell? ⟨q, 6, none⟩ = some (.int .u64 S.rd) := by rw [h.at_.cell]; rfl
theorem Rk.c1 (h : Rk X w base q vb vc B C S) : w.cell? ⟨q, 7, none⟩ = some (.int .u64 S.hi) := by rw [h.at_.cell]; rfl
theorem Rk.c2 (h : Rk X w base q vb vc B C S) : w.cell? ⟨q, 8, none⟩ = some (.int .u64 S.fi) := by rw [h.at_.cell]; rfl
theorem Rk.c3 (h : Rk X w base q vb vc B C S) : w.cell? ⟨q, 9, none⟩ = some (.bool S.en) := by rw [h.at_.cell]; rfl
theorem Rk.c4 (h : Rk X w base q vb vc B C S) : w.cell? ⟨q, 10, none⟩ = some vb := by rw [h.at_.cell]; rfl
theorem Rk.c5 (h : Rk X w base q vb vc B C S) : w.cell? ⟨q, 11, none⟩ = some vc := by rw [h.at_.cell]; rfl
end
def Rj (X : RX) (w : World) (base q : Nat) (O : Nat → Prop) (S : BS) : Prop := ∃ vb vc B C, O = rO q vb vc ∧ Rk X w base q vb vc B C S
section
variable {w w' : World} {base q : Nat} {O : Nat → Prop} {S : BS}
theorem Rj.lt (h : Rj X w base q O S) : ∀ b, O b → base ≤ b ∧ b < w.heap.size := by
  obtain ⟨vb, vc, B, C, rfl, h⟩ := h
  exact h.lt
theorem Rj.kept {T : Nat → Prop} (h : Rj X w base q O S) (k : Kept T w w') (hs : ∀ b, O b → ¬ T b) : Rj X w' base q O S := by
  obtain ⟨vb, vc, B, C, rfl, h⟩ := h
  exact ⟨vb, vc, B, C, rfl, h.kept k hs⟩
theorem Rj.below (h : Rj X w base q O S) (k : Below w.heap.size w w') : Rj X w' base q O S := h.kept (Kept.of_below k (fun _ => False)) fun _ _ h => h
theorem Rj.drewN (h : Rj X w base q O S) (n : Nat) : Rj X (w.drewN n) base q O S := h.kept ((Kept.refl (fun _ => False) w).drewN n) fun _ _ h => h
theorem Rj.at_ (h : Rj X w base q O S) : ∃ u v, At w q 56 (rxL X [.int .u64 S.rd, .int .u64 S.hi, .int .u64 S.fi, .bool S.en, u, v]) := by
  obtain ⟨vb, vc, B, C, e, h⟩ := h
  exact ⟨_, _, h.at_⟩
theorem Rj.own_ (h : Rj X w base q O S) : O q := by
  obtain ⟨vb, vc, B, C, rfl, h⟩ := h
  exact .inl rfl
end
theorem Rk.bool {w : World} {base q : Nat} {vb vc : Value} {B : List Int} {C : List Bool} {S : BS} (h : Rk X w base q vb vc B C S) {i : Nat} (hi : i < C.length) : ∃ g c, vc = .slice (some ⟨g, 0, none⟩) C.length c ∧ w.cell? ⟨g, i, none⟩ = some (.bool (C.getD i false)) := by
  obtain ⟨A, c, e, _, _, ho⟩ := ow_open h.oc
  rw [List.length_map] at e ho
  rcases ho with ⟨_, _, hx⟩ | ⟨g, cur, rfl, _, _, hA, hl, ht⟩
  · simp at hx
    subst hx
    simp at hi
  · refine ⟨g, c, e, ?_⟩
    rw [hA.cell]
    have h1 : (cur.take C.length)[i]? = (C.map Value.bool)[i]? := by rw [ht]
    rw [List.getElem?_take_of_lt hi] at h1
    rw [h1, List.getElem?_map, List.getD_eq_getElem?_getD, List.getElem?_eq_getElem hi]
    rfl
set_option maxHeartbeats 4000000 in
set_option maxRecDepth 100000 in
theorem fready_any (base q : Nat) (O : Nat → Prop) (S : BS) (w : World) (h : Rj X w base q O S) (k : Nat) (hk : IsR S.g S.rd k) :
    Calls Tryz.prog 51 #[.pointer (some ⟨q, 6, none⟩)] w fun e w' => e = .returned (.int .i64 k) ∧ w' = w := by
  obtain ⟨vb, vc, B, C, _, hc⟩ := h
  have h5 := hc.c5
  have hwl := hc.rm.wl
  have hkC : k ≤ C.length := by
    rcases Nat.lt_or_ge C.length k with h | h
    · have h1 := hk.1 C.length h
      rw [← hc.rm.has, List.getD_eq_getElem?_getD, List.getElem?_eq_none (Nat.le_refl _)] at h1
      cases h1
    · exact h
  have HC := Lib.hid (fun i (hi : i < C.length) => hc.bool hi)
  have HT : Hid (∀ i, i < k → C.getD i false = true) := Lib.hid (fun i hi => by rw [hc.rm.has]; exact hk.1 i hi)
  have HF : Hid (C.getD k false = false) := Lib.hid (by rw [hc.rm.has, hk.2]; rfl)
  obtain ⟨A, c, e, _, _, _⟩ := ow_open hc.oc
  rw [List.length_map] at e
  subst e
  clear hc hk
  generalize hm : C.length = m at *
  clear hm
  go_enter Tryz.func51, Tryz.ntmps51
  go_wp2
  go_loopg [3] k (fun kx s3 wr => ∃ n : Nat, s3 = .int .i64 n ∧ n ≤ k ∧ k - n ≤ kx ∧ wr = w)
  case atStart => exact ⟨0, rfl, Nat.zero_le _, Nat.le_refl _, rfl⟩
  case round =>
    obtain ⟨n, rfl, hnk, hkx, rfl⟩ := hrel
    by_cases hlt : n < k
    · obtain ⟨g, c', e, hcell⟩ := HC.out n (by omega)
      injection e with e1 e2 e3
      subst e1; subst e3
      rw [HT.out n hlt] at hcell
      have hz : (n : Int) < (m : Int) := by omega
      go_wp2
      go_roundg (k - (n + 1))
      case measure => omega
      case rel => exact ⟨n + 1, by simp, by omega, Nat.le_refl _, rfl⟩
    · obtain rfl : n = k := by omega
      by_cases hm : n < m
      · obtain ⟨g, c', e, hcell⟩ := HC.out n hm
        injection e with e1 e2 e3
        subst e1; subst e3
        rw [HF.out] at hcell
        have hz : (n : Int) < (m : Int) := by omega
        go_wp2
        go_ret
        exact ⟨rfl, rfl⟩
      · have hz : ¬ (n : Int) < (m : Int) := by omega
        go_wp2
        go_ret
        exact ⟨rfl, rfl⟩
set_option maxHeartbeats 4000000 in
set_option maxRecDepth 100000 in
theorem fwhole_any (base q : Nat) (O : Nat → Prop) (S : BS) (w : World) (h : Rj X w base q O S) (hok : S.ok) (k : Nat) (hk : IsR S.g S.rd k) :
    Calls Tryz.prog 46 #[.pointer (some ⟨q, 6, none⟩)] w fun e w' => e = .returned (.bool (S.en && decide (S.rd + k = S.fi))) ∧ ∃ d, w' = w.drewN d := by
  have HR := Lib.hid (fun d => Calls.quiet_of_same (fready_any base q O S (w.drewN d) (h.drewN d) k hk))
  obtain ⟨vb, vc, B, C, _, hc⟩ := h
  have h0 := hc.c0
  have h2 := hc.c2
  have h3 := hc.c3
  have hkb := hk.le hok
  have hhi := hok.hm
  clear hok hk hc
  obtain ⟨rd, hi, fi, en, g⟩ := S
  simp only at *
  cases en
  · go_enter Tryz.func46, Tryz.ntmps46
    go_wp2
    go_quiet (fail)
    go_wp2
    go_ret
    exact ⟨rfl, _, rfl⟩
  · have hww : Hid (IntKind.u64.wrap ((rd : Int) + IntKind.u64.wrap (k : Int)) = ((rd + k : Nat) : Int)) := Lib.hid (by rw [IntKind.wrap_u64, IntKind.wrap_u64]; omega)
    have hQ : Hid (∀ b : Bool, b = decide (rd + k = fi) → (Ending.returned (.bool b) = .returned (.bool (true && decide (rd + k = fi))))) := Lib.hid (fun b h => by rw [h, Bool.true_and])
    obtain ⟨R, hR⟩ : ∃ R, R = rd + k := ⟨_, rfl⟩
    have hrk : (rd : Int) + (k : Int) = (R : Int) := by omega
    have hkb2 : R ≤ 1099511628288 := by omega
    have hkb3 : k ≤ 1099511628288 := by omega
    have hRR := Lib.hid hR
    clear hR hkb hhi
    go_enter Tryz.func46, Tryz.ntmps46
    go_wp2
    go_quiet ((go_at_call 51; (with_reducible exact HR.out _)))
    all_goals go_wp2
    all_goals go_ret
    all_goals (refine ⟨hQ.out _ ?_, _, rfl⟩)
    all_goals (first | rw [hww.out] | skip)
    all_goals (have := hRR.out; rw [Bool.eq_iff_iff]; simp; try omega)
end
end
section
set_option linter.unusedVariables false
set_option linter.unusedSimpArgs false
open Go.RowKit
theorem Rm.congr {rd : Nat} {C : List Bool} {B : List Int} {g g' : Nat → Option Int} (h : Rm rd C B g) (e : ∀ n, rd ≤ n → g' n = g n) : Rm rd C B g' :=
  ⟨h.len, h.wl, fun i => by rw [h.has, e _ (by omega)], fun i x hx => h.byt i x (by rw [← e _ (by omega)]; exact hx)⟩
theorem Rm.pad {rd : Nat} {C : List Bool} {B : List Int} {g : Nat → Option Int} (h : Rm rd C B g) (hl : C.length < 2048) : Rm rd (C ++ [false]) (B ++ [0]) g := by
  refine ⟨by simp [h.len], by simp; omega, fun i => ?_, fun i x hx => ?_⟩
  · rw [← h.has, List.getD_eq_getElem?_getD, List.getD_eq_getElem?_getD, List.getElem?_append]
    split
    · rfl
    · rename_i hge
      rw [List.getElem?_eq_none (l := C) (by omega)]
      by_cases hi : i - C.length = 0
      · rw [hi]; rfl
      · rw [List.getElem?_eq_none (by simp; omega)]
  · have := h.byt i x hx
    have hlt := (List.getElem?_eq_some_iff.1 this).1
    rw [List.getElem?_append_left hlt]
    exact this
theorem Rm.put {rd k : Nat} {C : List Bool} {B : List Int} {g g' : Nat → Option Int} {x : Int} (h : Rm rd C B g) (hk : k < C.length) (hn : C.getD k false = false) (e : ∀ n, rd ≤ n → g' n = if n = rd + k then (g n).or (some x) else g n) : Rm rd (C.set k true) (B.set k x) g' := by
  have hg : g (rd + k) = none := by
    have := h.has k
    rw [hn] at this
    cases hq : g (rd + k) with
    | none => rfl
    | some y => rw [hq] at this; cases this
  refine ⟨by simp [h.len], by simp; exact h.wl, fun i => ?_, fun i y hy => ?_⟩
  · rw [e _ (by omega), List.getD_eq_getElem?_getD, List.getElem?_set]
    by_cases hi : k = i
    · subst hi
      rw [if_pos rfl, if_pos hk, if_pos rfl, hg]
      rfl
    · rw [if_neg hi, if_neg (by omega), ← List.getD_eq_getElem?_getD]
      exact h.has i
  · rw [e _ (by omega)] at hy
    rw [List.getElem?_set]
    by_cases hi : k = i
    · subst hi
      rw [if_pos rfl, hg] at hy
      rw [if_pos rfl, if_pos (by rw [← h.len]; exact hk)]
      injection hy with hy
      rw [hy]
    · rw [if_neg (by omega)] at hy
      rw [if_neg hi]
      exact h.byt i y hy
theorem Rm.stay {rd k : Nat} {C : List Bool} {B : List Int} {g g' : Nat → Option Int} {x : Int} (h : Rm rd C B g) (hn : C.getD k false = true) (e : ∀ n, rd ≤ n → g' n = if n = rd + k then (g n).or (some x) else g n) : Rm rd C B g' := by
  refine h.congr fun n hr => ?_
  rw [e n hr]
  split
  · rename_i hnk
    subst hnk
    have := h.has k
    rw [hn] at this
    cases hq : g (rd + k) with
    | none => rw [hq] at this; cases this
    | some y => rfl
  · rfl
/-- Two rows that take one element each, behind the world Y. -/
structure St2 (base : Nat) (Y W : World) (vb vc v1 : Value) (xs : List Value) (v2 : Value) (ys : List Value) (o1 o2 : Option Nat) : Prop where
  k : Kept (fun b => vb.ownBlock = some b ∨ vc.ownBlock = some b) Y W
  r1 : Ow W base 5 v1 xs
  r2 : Ow W base 4 v2 ys
  f1 : ∀ j, v1.ownBlock = some j → vb.ownBlock = some j ∨ Y.heap.size ≤ j
  f2 : ∀ j, v2.ownBlock = some j → vc.ownBlock = some j ∨ Y.heap.size ≤ j
  d : ∀ j, v1.ownBlock = some j → v2.ownBlock ≠ some j
  l1 : ∀ g, o1 = some g → At W g 5 [.int .u8 0] ∧ v1.ownBlock ≠ some g ∧ v2.ownBlock ≠ some g
  l2 : ∀ g, o2 = some g → At W g 4 [.bool false] ∧ v1.ownBlock ≠ some g ∧ v2.ownBlock ≠ some g
section
variable {base : Nat} {Y W : World} {vb vc v1 v2 : Value} {xs ys : List Value} {o1 o2 : Option Nat}
theorem St2.start (r1 : Ow Y base 5 vb xs) (r2 : Ow Y base 4 vc ys) (d : ∀ j, vb.ownBlock = some j → vc.ownBlock ≠ some j) : St2 base Y Y vb vc vb xs vc ys none none :=
  ⟨Kept.refl _ _, r1, r2, fun j h => .inl h, fun j h => .inl h, d, fun g h => (by cases h), fun g h => (by cases h)⟩
theorem St2.b1 (h : St2 base Y W vb vc v1 xs v2 ys none o2) : St2 base Y (W.alloc (.cells #[.int .u8 0] 5)) vb vc v1 xs v2 ys (some W.heap.size) o2 := by
  have k := (Kept.refl (fun _ => False) W).alloc (.cells #[.int .u8 0] 5)
  refine ⟨h.k.alloc _, ow_kept h.r1 k (fun _ _ h => h), ow_kept h.r2 k (fun _ _ h => h), h.f1, h.f2, h.d, fun g e => ?_, fun g e => ⟨(h.l2 g e).1.alloc _, (h.l2 g e).2⟩⟩
  have e' : W.heap.size = g := Option.some.inj e
  subst e'
  exact ⟨At.new W _ _, fun e => by have := (ow_lt h.r1 _ e).2; omega, fun e => by have := (ow_lt h.r2 _ e).2; omega⟩
theorem St2.b2 (h : St2 base Y W vb vc v1 xs v2 ys o1 none) : St2 base Y (W.alloc (.cells #[.bool false] 4)) vb vc v1 xs v2 ys o1 (some W.heap.size) := by
  have k := (Kept.refl (fun _ => False) W).alloc (.cells #[.bool false] 4)
  refine ⟨h.k.alloc _, ow_kept h.r1 k (fun _ _ h => h), ow_kept h.r2 k (fun _ _ h => h), h.f1, h.f2, h.d, fun g e => ⟨(h.l1 g e).1.alloc _, (h.l1 g e).2⟩, fun g e => ?_⟩
  have e' : W.heap.size = g := Option.some.inj e
  subst e'
  exact ⟨At.new W _ _, fun e => by have := (ow_lt h.r1 _ e).2; omega, fun e => by have := (ow_lt h.r2 _ e).2; omega⟩
variable {ops : Array Oper} {o : Oper} {a : Act} {Q : Exit → Act → World → Prop} {E : Prop} {K : Act → World → Prop}
theorem lit_src {T : TypeId} {g : Nat} {z : Value} (h : At W g T [z]) : 0 < 1 → ∃ ad, some (⟨g, 0, none⟩ : Addr) = some ad ∧ ∀ j u, [z][j]? = some u → W.cell? (ad.add j) = some u := fun _ => ⟨_, rfl, fun j u hj => by rw [Addr.add_lit, Nat.zero_add, h.cell]; exact hj⟩
theorem St2.a1 {g : Nat} (h : St2 base Y W vb vc v1 xs v2 ys (some g) o2) (hb : base ≤ W.heap.size) (hgd : o.guard = none) (s x : Operand) (ho : o.op = .call { callee := .builtin .append, args := #[s, x], argTypes := #[22, 22] }) (hs : a.eval s = v1)
    (hx : a.eval x = .slice (some ⟨g, 0, none⟩) 1 1) (hN : xs.length ≤ 2000000) (n1 : Nat) (hn1 : n1 = xs.length + 1)
    (hK : ∀ A' c' W', St2 base Y W' vb vc (.slice A' n1 c') (xs ++ [.int .u8 0]) v2 ys none o2 → K (a.put o.dst (.slice A' n1 c')) W') : if Region.wanted o (yielded ops a.tmps) = true then Oper.wp Tryz.prog o a W K Q else E := by
  subst hn1
  have L := h.l1 g rfl
  refine step_app1 o8 hgd s x ho base v1 xs hs h.r1 _ 1 1 hx [.int .u8 0] rfl (lit_src L.1) (fun u hu => by rw [List.mem_singleton] at hu; subst hu; rfl) (by omega) hb ?_
  intro v' w' hown hg hv _
  obtain ⟨A', c', e, _, _, _⟩ := ow_open hown
  have el : (xs ++ [Value.int .u8 0]).length = xs.length + 1 := by simp
  rw [el] at e
  subst e
  have hgk := grown_kept hg
  have hfr : ∀ j, (Value.slice A' (xs.length + 1) c').ownBlock = some j → v1.ownBlock = some j ∨ j = W.heap.size := fun j hj => hv.imp (fun e => by rw [← e]; exact hj) fun e => by rw [e] at hj; exact (Option.some.inj hj).symm
  refine hK A' c' w' ⟨h.k.trans' hgk fun j hj => (h.f1 j hj).imp .inl (fun e => e), hown, ow_kept h.r2 hgk fun j hj e => h.d j e hj, fun j hj => ?_, h.f2, fun j hj e => ?_, fun _ e => (by cases e), fun g2 e2 => ?_⟩
  · rcases hfr j hj with e | e
    · exact h.f1 j e
    · exact .inr (by have := h.k.size; omega)
  · rcases hfr j hj with e' | e'
    · exact h.d j e' e
    · have := (ow_lt h.r2 j e).2; omega
  · have L2 := h.l2 g2 e2
    refine ⟨L2.1.kept hgk L2.2.1, fun e => ?_, L2.2.2⟩
    rcases hfr g2 e with e' | e'
    · exact L2.2.1 e'
    · have := L2.1.lt; omega
theorem St2.a2 {g : Nat} (h : St2 base Y W vb vc v1 xs v2 ys o1 (some g)) (hb : base ≤ W.heap.size) (hgd : o.guard = none) (s x : Operand) (ho : o.op = .call { callee := .builtin .append, args := #[s, x], argTypes := #[47, 47] }) (hs : a.eval s = v2)
    (hx : a.eval x = .slice (some ⟨g, 0, none⟩) 1 1) (hN : ys.length ≤ 2000000) (n1 : Nat) (hn1 : n1 = ys.length + 1)
    (hK : ∀ A' c' W', St2 base Y W' vb vc v1 xs (.slice A' n1 c') (ys ++ [.bool false]) o1 none → K (a.put o.dst (.slice A' n1 c')) W') : if Region.wanted o (yielded ops a.tmps) = true then Oper.wp Tryz.prog o a W K Q else E := by
  subst hn1
  have L := h.l2 g rfl
  refine step_app1 oB hgd s x ho base v2 ys hs h.r2 _ 1 1 hx [.bool false] rfl (lit_src L.1) (fun u hu => by rw [List.mem_singleton] at hu; subst hu; rfl) (by omega) hb ?_
  intro v' w' hown hg hv _
  obtain ⟨A', c', e, _, _, _⟩ := ow_open hown
  have el : (ys ++ [Value.bool false]).length = ys.length + 1 := by simp
  rw [el] at e
  subst e
  have hgk := grown_kept hg
  have hfr : ∀ j, (Value.slice A' (ys.length + 1) c').ownBlock = some j → v2.ownBlock = some j ∨ j = W.heap.size := fun j hj => hv.imp (fun e => by rw [← e]; exact hj) fun e => by rw [e] at hj; exact (Option.some.inj hj).symm
  refine hK A' c' w' ⟨h.k.trans' hgk fun j hj => (h.f2 j hj).imp .inr (fun e => e), ow_kept h.r1 hgk fun j hj e => h.d j hj e, hown, h.f1, fun j hj => ?_, fun j hj e => ?_, fun g2 e2 => ?_, fun _ e => (by cases e)⟩
  · rcases hfr j hj with e | e
    · exact h.f2 j e
    · exact .inr (by have := h.k.size; omega)
  · rcases hfr j e with e' | e'
    · exact h.d j hj e'
    · have := (ow_lt h.r1 j hj).2; omega
  · have L2 := h.l1 g2 e2
    refine ⟨L2.1.kept hgk L2.2.2, L2.2.1, fun e => ?_⟩
    rcases hfr g2 e with e' | e'
    · exact L2.2.2 e'
    · have := L2.1.lt; omega
end
/-- What stands behind both stores. -/
theorem Rc.pad {Y W : World} {base q m1 c1 c2 : Nat} {vb vc : Value} {A1 A2 : Option Addr} {B : List Int} {C : List Bool} {S : BS} (hc : Rc Y base q vb vc B C S) (hl : C.length < 2048)
    (h : St2 base Y W vb vc (.slice A1 m1 c1) (B.map (Value.int .u8) ++ [.int .u8 0]) (.slice A2 m1 c2) (C.map Value.bool ++ [.bool false]) none none) :
    Rc ((W.setCell ⟨q, 5, none⟩ (.slice A2 m1 c2)).setCell ⟨q, 4, none⟩ (.slice A1 m1 c1)) base q (.slice A1 m1 c1) (.slice A2 m1 c2) (B ++ [0]) (C ++ [false]) S ∧ Kept (rO q vb vc) Y ((W.setCell ⟨q, 5, none⟩ (.slice A2 m1 c2)).setCell ⟨q, 4, none⟩ (.slice A1 m1 c1)) ∧
    ∀ j, rO q (.slice A1 m1 c1) (.slice A2 m1 c2) j → rO q vb vc j ∨ Y.heap.size ≤ j := by
  have hq := hc.at_.lt
  have kS : Kept (fun b => b = q) W ((W.setCell ⟨q, 5, none⟩ (.slice A2 m1 c2)).setCell ⟨q, 4, none⟩ (.slice A1 m1 c1)) := ((Kept.refl (fun b => b = q) W).setCell (p := ⟨q, 5, none⟩) (.inl rfl) _).setCell (p := ⟨q, 4, none⟩) (.inl rfl) _
  have n1 : ∀ j, (Value.slice A1 m1 c1).ownBlock = some j → ¬ j = q := fun j hj e => by
    rcases h.f1 j hj with h' | h'
    · exact hc.n1 (by rw [← e]; exact h')
    · omega
  have n2 : ∀ j, (Value.slice A2 m1 c2).ownBlock = some j → ¬ j = q := fun j hj e => by
    rcases h.f2 j hj with h' | h'
    · exact hc.n2 (by rw [← e]; exact h')
    · omega
  have e1 : (B ++ [0]).map (Value.int .u8) = B.map (Value.int .u8) ++ [.int .u8 0] := by simp
  have e2 : (C ++ [false]).map Value.bool = C.map Value.bool ++ [.bool false] := by simp
  have aW := hc.at_.kept h.k (fun e => e.elim hc.n1 hc.n2)
  refine ⟨⟨(aW.set 5 (.slice A2 m1 c2)).set 4 (.slice A1 m1 c1), ow_own (by rw [e1]; exact ow_kept h.r1 kS n1) (hc.ob.byt.app (Byt.one (by omega))), by rw [e2]; exact ow_kept h.r2 kS n2, fun e => n1 q e rfl, fun e => n2 q e rfl, h.d, hc.bq, hc.rm.pad hl⟩, ?_, ?_⟩
  · exact (h.k.mono fun j hj => .inl (.inr hj)).trans' kS fun j hj => .inl (.inl hj)
  · rintro j (rfl | hj | hj)
    · exact .inl (.inl rfl)
    · exact (h.f1 j hj).imp (fun e => .inr (.inl e)) id
    · exact (h.f2 j hj).imp (fun e => .inr (.inr e)) id
end
section
set_option linter.unusedVariables false
section
variable {P : Program} {ops : Array Oper} {Q : Exit → Act → World → Prop} {md : Region.Mode} {S S' : World → Prop} {D : Nat}
/-- Whatever comes up next; S holds behind it as long as D has not come up. -/
def wpTail (P : Program) (md : Region.Mode) (ops : Array Oper) (Q : Exit → Act → World → Prop) (S : World → Prop) (D : Nat) : Nat → Array Bool → Act → World → Prop
  | 0, l, a, w => Region.ready md ops l = [] ∧ Q .normal a w
  | f + 1, l, a, w => (Region.ready md ops l = [] → Q .normal a w) ∧
    ∀ i ∈ Region.ready md ops l, wpOp P ops Q i (fun a' w' => ((l.setIfInBounds i true).getD D true = false → S w') ∧ wpTail P md ops Q S D f (l.setIfInBounds i true) a' w') a w
theorem wpTail.any : ∀ (f : Nat) (l : Array Bool) (a : Act) (w : World), wpTail P md ops Q S D f l a w → wpAny P md ops Q f l a w
  | 0, _, _, _, h => h
  | f + 1, _, _, _, h => ⟨h.1, fun i hi => wpOp_mono (fun a' w' k => wpTail.any f _ a' w' k.2) (h.2 i hi)⟩
theorem wp_region_tail {id : Nat} {a : Act} {w : World} (hm : P.follows .mixedOrders = true) (h : wpTail P .any ops Q S D ops.size (Array.replicate ops.size false) a w.drew) : (Code.region id ops true).wp P Q a w :=
  wp_region_any hm (wpTail.any _ _ _ _ h)
theorem unlisted {l : Array Bool} {d : Nat} (h : l.getD d true = false) : l.getD d false = false := by
  rcases Nat.lt_or_ge d l.size with h' | h'
  · simp [h'] at h ⊢; exact h
  · simp [Array.getElem?_eq_none h'] at h
/-- Operation i goes first, if it yields v wherever S' holds, and S' holds as long as none of Ds has come up, each of which waits for i. -/
theorem wpTail.first {i : Nat} {oi : Oper} {v : Value} (hi : ops[i]? = some oi) (hsel : ∀ (j : Nat) (o : Oper) cs b, ops[j]? = some o → o.op ≠ .select cs b) (hQ : ∀ c a w, Q (.panic c) (a.put oi.dst v) w → Q (.panic c) a w)
    (hiD : i ≠ D) (Ds : List Nat) (hcl : ∀ d ∈ Ds, ∀ o, ops[d]? = some o → ∃ e ∈ o.after, Region.binds md e = true ∧ (e.on = i ∨ e.on ∈ Ds))
    (H2 : ∀ (l : Array Bool) (w : World), (∀ d ∈ Ds, l.getD d true = false) → (l.getD D true = false → S w) → S' w) :
    ∀ (f : Nat) (l : Array Bool) (a : Act) (w : World), (∀ j oj, ops[j]? = some oj → j ≠ i → l.getD j true = false → (∀ e ∈ oj.after, Region.binds md e = true → e.on ≠ i) → oi.apart ops oj = true) →
      i ∈ Region.ready md ops l → (∀ d ∈ Ds, l.getD d true = false) → YieldsIf P ops S' oi v a → (l.getD D true = false → S w) →
      wpTail P md ops Q S D f (l.setIfInBounds i true) (a.put oi.dst v) w → wpTail P md ops Q S D (f + 1) l a w := by
  have own : ∀ (l : Array Bool) (w : World), (l.getD D true = false → S w) → ((l.setIfInBounds i true).getD D true = false → S w) := fun l w h e => h (by rw [getD_set_ne true hiD] at e; exact e)
  intro f
  induction f with
  | zero =>
    intro l a w _ hr hD hy hS H
    refine ⟨fun h => (by rw [h] at hr; cases hr), fun j hj => ?_⟩
    rcases Nat.decEq j i with hne | rfl
    · have := ready_mono hj hne
      rw [H.1] at this
      cases this
    · exact hy.wpOp hi (H2 l w hD hS) ⟨own l w hS, H⟩
  | succ f ih =>
    intro l a w hfree hr hD hy hS H
    refine ⟨fun h => (by rw [h] at hr; cases hr), fun j hj => ?_⟩
    rcases Nat.decEq j i with hne | rfl
    · obtain ⟨hjun, oj, hoj, hall⟩ := mem_ready.1 hj
      have iun := unlisted (mem_ready.1 hr).1
      have hnot : ∀ e ∈ oj.after, Region.binds md e = true → e.on ≠ i := fun e he hb heq => by
        have := hall e he hb
        rw [heq, iun] at this
        cases this
      have hjD : ∀ d ∈ Ds, j ≠ d := fun d hd e => by
        subst e
        obtain ⟨x, hx, hb, ho⟩ := hcl j hd oj hoj
        have := hall x hx hb
        rcases ho with ho | ho
        · rw [ho, iun] at this; cases this
        · rw [unlisted (hD _ ho)] at this; cases this
      have k := wpOp_putIf hoj (hfree j oj hoj hne hjun hnot) (fun cs b => hsel i oi cs b hi) (fun cs b => hsel j oj cs b hoj) hQ hy (H.2 j (ready_mono hj hne))
      refine wpOp_mono (fun a' w' h3 => ?_) k
      have hS' : (l.setIfInBounds j true).getD D true = false → S w' := fun e => h3.2.1 (by rw [Array.setIfInBounds_comm _ _ (Ne.symm hne), getD_set_ne true hiD]; exact e)
      refine ⟨hS', ih (l.setIfInBounds j true) a' w' (fun m om hm hmi hun hno => hfree m om hm hmi ?_ hno) (ready_mono hr (Ne.symm hne)) (fun d hd => by rw [getD_set_ne true (hjD d hd)]; exact hD d hd) h3.1 hS' ?_⟩
      · rcases Nat.decEq j m with h | rfl
        · rw [getD_set_ne true h] at hun; exact hun
        · exact hjun
      · rw [Array.setIfInBounds_comm _ _ hne]
        exact h3.2.2
    · exact hy.wpOp hi (H2 l w hD hS) ⟨own l w hS, H⟩
def waits (md : Region.Mode) (ops : Array Oper) (i : Nat) (Ds : List Nat) : Bool := Ds.all fun d => match ops[d]? with | some o => o.after.toList.any fun e => Region.binds md e && (e.on == i || Ds.contains e.on) | none => true
theorem waits_spec {i : Nat} {Ds : List Nat} (h : waits md ops i Ds = true) : ∀ d ∈ Ds, ∀ o, ops[d]? = some o → ∃ e ∈ o.after, Region.binds md e = true ∧ (e.on = i ∨ e.on ∈ Ds) := fun d hd o ho => by
  have h1 := List.all_eq_true.1 h d hd
  simp only [ho] at h1
  obtain ⟨e, he, hb⟩ := List.any_eq_true.1 h1
  simp only [Bool.and_eq_true, Bool.or_eq_true, beq_iff_eq, List.contains_iff_mem] at hb
  exact ⟨e, Array.mem_toList_iff.1 he, hb⟩
/-- What yields anywhere is taken. -/
theorem tail_pure (i : Nat) (dst : Option Tmp) {oi : Oper} {v : Value} {f : Nat} {l : Array Bool} {a : Act} {w : World} (hi : ops[i]? = some oi) (hy : YieldsIf P ops (fun _ => True) oi v a) (hS : l.getD D true = false → S w) (h : wpTail P md ops Q S D f (l.setIfInBounds i true) (a.put dst v) w)
    (hd : oi.dst = dst := by rfl) (hs : Region.noSelect ops = true := by kernel_rfl) (hf : Region.free md ops l i = true := by kernel_rfl) (hr : (Region.ready md ops l).contains i = true := by kernel_rfl) (hiD : i ≠ D := by decide)
    (hQ : ∀ c a w, Q (.panic c) (a.put dst v) w → Q (.panic c) a w := by exact fun _ _ _ h => h) : wpTail P md ops Q S D (f + 1) l a w := by
  subst hd
  exact wpTail.first hi (Region.noSelect_spec hs) hQ hiD [] (fun _ h => by cases h) (fun _ _ _ _ => trivial) f l a w (Region.free_spec hi hf) (by simpa using hr) (fun _ h => by cases h) hy hS h
/-- The like, behind D. -/
theorem tail_late (i : Nat) (dst : Option Tmp) {oi : Oper} {v : Value} {f : Nat} {l : Array Bool} {a : Act} {w : World} (hi : ops[i]? = some oi) (hy : YieldsIf P ops (fun _ => True) oi v a) (h : wpTail P md ops Q S D f (l.setIfInBounds i true) (a.put dst v) w)
    (hD : l.getD D true = true := by kernel_rfl)
    (hd : oi.dst = dst := by rfl) (hs : Region.noSelect ops = true := by kernel_rfl) (hf : Region.free md ops l i = true := by kernel_rfl) (hr : (Region.ready md ops l).contains i = true := by kernel_rfl) (hiD : i ≠ D := by decide)
    (hQ : ∀ c a w, Q (.panic c) (a.put dst v) w → Q (.panic c) a w := by exact fun _ _ _ h => h) : wpTail P md ops Q S D (f + 1) l a w :=
  tail_pure i dst hi hy (fun e => by rw [hD] at e; cases e) h hd hs hf hr hiD hQ
/-- What yields where S holds is taken, if D waits for it by way of Ds. -/
theorem tail_load (i : Nat) (dst : Option Tmp) (Ds : List Nat) {oi : Oper} {v : Value} {f : Nat} {l : Array Bool} {a : Act} {w : World} (hi : ops[i]? = some oi) (hy : YieldsIf P ops S oi v a) (hS : S w) (h : wpTail P md ops Q S D f (l.setIfInBounds i true) (a.put dst v) w)
    (hd : oi.dst = dst := by rfl) (hs : Region.noSelect ops = true := by kernel_rfl) (hf : Region.free md ops l i = true := by kernel_rfl) (hr : (Region.ready md ops l).contains i = true := by kernel_rfl) (hiD : i ≠ D := by decide)
    (hw : waits md ops i Ds = true := by kernel_rfl) (hDD : Ds.contains D = true := by rfl) (hun : (Ds.all fun d => !(l.getD d true)) = true := by kernel_rfl)
    (hQ : ∀ c a w, Q (.panic c) (a.put dst v) w → Q (.panic c) a w := by exact fun _ _ _ h => h) : wpTail P md ops Q S D (f + 1) l a w := by
  subst hd
  refine wpTail.first hi (Region.noSelect_spec hs) hQ hiD Ds (waits_spec hw) (fun l w h1 h2 => h2 (h1 D (by simpa using hDD))) f l a w (Region.free_spec hi hf) (by simpa using hr) (fun d hd => ?_) hy (fun _ => hS) h
  have := List.all_eq_true.1 hun d hd
  simpa using this
def AllTail (P : Program) (md : Region.Mode) (ops : Array Oper) (Q : Exit → Act → World → Prop) (S : World → Prop) (D f : Nat) (l : Array Bool) (a : Act) (w : World) (rs : List Nat) : Prop :=
  ∀ i ∈ rs, wpOp P ops Q i (fun a' w' => ((l.setIfInBounds i true).getD D true = false → S w') ∧ wpTail P md ops Q S D f (l.setIfInBounds i true) a' w') a w
theorem AllTail.nil {f : Nat} {l : Array Bool} {a : Act} {w : World} : AllTail P md ops Q S D f l a w [] := fun _ h => by cases h
/-- One that comes up ahead of D. -/
theorem AllTail.cons {f : Nat} {l : Array Bool} {a : Act} {w : World} {i : Nat} {o : Oper} {rs : List Nat} (ho : ops[i]? = some o)
    (h : ∀ K' : Act → World → Prop, Shut (∀ a w, S w → (S w → wpTail P md ops Q S D f (l.setIfInBounds i true) a w) → K' a w) → if Region.wanted o (yielded ops a.tmps) = true then Oper.wp P o a w K' Q else K' (a.put o.dst undef) w)
    (hs : AllTail P md ops Q S D f l a w rs) : AllTail P md ops Q S D f l a w (i :: rs) := fun j hj => by
  rcases List.mem_cons.1 hj with rfl | hj
  · exact wpOp_step ho (fun K' hK => h K' (fun a w hS hW => hK a w ⟨fun _ => hS, hW hS⟩))
  · exact hs j hj
/-- D itself, or one behind it. -/
theorem AllTail.late {f : Nat} {l : Array Bool} {a : Act} {w : World} {i : Nat} {o : Oper} {rs : List Nat} (ho : ops[i]? = some o) (hD : (l.setIfInBounds i true).getD D true = true)
    (h : ∀ K' : Act → World → Prop, Shut (∀ a w, wpTail P md ops Q S D f (l.setIfInBounds i true) a w → K' a w) → if Region.wanted o (yielded ops a.tmps) = true then Oper.wp P o a w K' Q else K' (a.put o.dst undef) w)
    (hs : AllTail P md ops Q S D f l a w rs) : AllTail P md ops Q S D f l a w (i :: rs) := fun j hj => by
  rcases List.mem_cons.1 hj with rfl | hj
  · exact wpOp_step ho (fun K' hK => h K' (fun a w hW => hK a w ⟨fun e => (by rw [hD] at e; cases e), hW⟩))
  · exact hs j hj
theorem wpTail.ready {rs : List Nat} {f : Nat} {l : Array Bool} {a : Act} {w : World} (hr : Region.ready md ops l = rs) (hne : rs ≠ []) (h : AllTail P md ops Q S D f l a w rs) : wpTail P md ops Q S D (f + 1) l a w :=
  ⟨fun h0 => absurd (hr ▸ h0) hne, hr ▸ h⟩
theorem wpTail.done {l : Array Bool} {a : Act} {w : World} (hr : Region.ready md ops l = []) (h : Q .normal a w) : ∀ f, wpTail P md ops Q S D f l a w
  | 0 => ⟨hr, h⟩
  | _ + 1 => ⟨fun _ => h, by rw [hr]; simp⟩
end
end
section
set_option linter.unusedVariables false
set_option linter.unusedSimpArgs false
open Go.RowKit
structure Bc (w : World) (base p ps : Nat) (vs vw : Value) (l : RL) (W : List Int) (S : BS) : Prop where
  at_ : At w p 74 [.int .u64 S.rd, .int .u64 S.hi, .int .u64 S.fi, .bool S.en, .pointer (some ⟨ps, 0, none⟩), vw]
  set_ : SetV w base ps 2048 vs l
  own : Own w base 5 vw W
  n1 : p ≠ ps
  n2 : vs.ownBlock ≠ some p
  n3 : vw.ownBlock ≠ some p
  n4 : vw.ownBlock ≠ some ps
  n5 : ∀ k, vs.ownBlock = some k → vw.ownBlock ≠ some k
  bp : base ≤ p
  pm : Pm S.rd l W S.g
/-- The blocks of a buffer. -/
def bO (p ps : Nat) (vs vw : Value) : Nat → Prop := fun b => b = p ∨ b = ps ∨ vs.ownBlock = some b ∨ vw.ownBlock = some b
section
variable {w w' : World} {base p ps : Nat} {vs vw : Value} {l : RL} {W : List Int} {S : BS}
theorem Bc.lt (h : Bc w base p ps vs vw l W S) : ∀ b, bO p ps vs vw b → base ≤ b ∧ b < w.heap.size := by
  rintro b (rfl | rfl | hb | hb)
  · exact ⟨h.bp, h.at_.lt⟩
  · exact ⟨h.set_.bp, h.set_.at_.lt⟩
  · exact h.set_.own.lt b hb
  · exact h.own.block_lt b hb
theorem Bc.kept {T : Nat → Prop} (h : Bc w base p ps vs vw l W S) (k : Kept T w w') (hs : ∀ b, bO p ps vs vw b → ¬ T b) : Bc w' base p ps vs vw l W S :=
  { h with
    at_ := h.at_.kept k (hs p (.inl rfl))
    set_ := h.set_.kept k (hs ps (.inr (.inl rfl))) fun j hj => hs j (.inr (.inr (.inl hj)))
    own := h.own.kept k fun j hj => hs j (.inr (.inr (.inr hj))) }
theorem Bc.drewN (h : Bc w base p ps vs vw l W S) (n : Nat) : Bc (w.drewN n) base p ps vs vw l W S := h.kept ((Kept.refl (fun _ => False) w).drewN n) fun _ _ h => h
theorem Bc.c0 (h : Bc w base p ps vs vw l W S) : w.cell? ⟨p, 0, none⟩ = some (.int .u64 S.rd) := by rw [h.at_.cell]; rfl
theorem Bc.c1 (h : Bc w base p ps vs vw l W S) : w.cell? ⟨p, 1, none⟩ = some (.int .u64 S.hi) := by rw [h.at_.cell]; rfl
theorem Bc.c2 (h : Bc w base p ps vs vw l W S) : w.cell? ⟨p, 2, none⟩ = some (.int .u64 S.fi) := by rw [h.at_.cell]; rfl
theorem Bc.c3 (h : Bc w base p ps vs vw l W S) : w.cell? ⟨p, 3, none⟩ = some (.bool S.en) := by rw [h.at_.cell]; rfl
theorem Bc.c4 (h : Bc w base p ps vs vw l W S) : w.cell? ⟨p, 4, none⟩ = some (.pointer (some ⟨ps, 0, none⟩)) := by rw [h.at_.cell]; rfl
theorem Bc.c5 (h : Bc w base p ps vs vw l W S) : w.cell? ⟨p, 5, none⟩ = some vw := by rw [h.at_.cell]; rfl
end
/-- A buffer, and the blocks that it has. -/
def Bf (w : World) (base p : Nat) (O : Nat → Prop) (S : BS) : Prop := ∃ ps vs vw l W, O = bO p ps vs vw ∧ Bc w base p ps vs vw l W S
section
variable {w w' : World} {base p : Nat} {O : Nat → Prop} {S : BS}
theorem Bf.lt (h : Bf w base p O S) : ∀ b, O b → base ≤ b ∧ b < w.heap.size := by
  obtain ⟨ps, vs, vw, l, W, rfl, h⟩ := h
  exact h.lt
theorem Bf.kept {T : Nat → Prop} (h : Bf w base p O S) (k : Kept T w w') (hs : ∀ b, O b → ¬ T b) : Bf w' base p O S := by
  obtain ⟨ps, vs, vw, l, W, rfl, h⟩ := h
  exact ⟨ps, vs, vw, l, W, rfl, h.kept k hs⟩
theorem Bf.below (h : Bf w base p O S) (k : Below w.heap.size w w') : Bf w' base p O S := h.kept (Kept.of_below k (fun _ => False)) fun _ _ h => h
theorem Bf.drewN (h : Bf w base p O S) (n : Nat) : Bf (w.drewN n) base p O S := h.kept ((Kept.refl (fun _ => False) w).drewN n) fun _ _ h => h
end
/-- What a call that changes a buffer leaves. -/
def BPost (r : Value) (base p : Nat) (O : Nat → Prop) (S' : BS) (w : World) (e : Ending) (w' : World) : Prop :=
  e = .returned r ∧ ∃ O', Bf w' base p O' S' ∧ Kept O w w' ∧ ∀ j, O' j → O j ∨ w.heap.size ≤ j
/-- What New leaves. -/
def INew (w : World) (e : Ending) (w' : World) : Prop := ∃ p, e = .returned (.pointer (some ⟨p, 0, none⟩)) ∧ (∃ O, Bf w' w.heap.size p O bs0) ∧ Below w.heap.size w w'
set_option maxRecDepth 100000 in
theorem inew_any (w : World) : Calls Tryz.prog 11 #[] w (INew w) := by
  have HN := Lib.hid (new_any 2048 w (by omega))
  have HF : Hid (∀ w1, SetV w1 w.heap.size w.heap.size 2048 (.slice none 0 0) [] → Below w.heap.size w w1 → ∃ O, Bf (w1.alloc (.cells #[.int .u64 0, .int .u64 0, .int .u64 0, .bool false, .pointer (some ⟨w.heap.size, 0, none⟩), .slice none 0 0] 74)) w.heap.size w1.heap.size O bs0) := Lib.hid (by
    intro w1 hs hb
    have hlt := hs.at_.lt
    refine ⟨_, w.heap.size, .slice none 0 0, .slice none 0 0, [], [], rfl, ⟨At.new w1 _ _, hs.kept ((Kept.refl (fun _ => False) w1).alloc _) (fun h => h) (fun _ _ h => h), Own.none_ _ _ _, by omega, (by intro h; cases h), (by intro h; cases h), (by intro h; cases h), (by intro k h; cases h), hb.size, pm0⟩⟩)
  go_enter Tryz.func11, Tryz.ntmps11
  go_wp2_with (go_at_call 28; refine HN.out.mono ?_; rintro e w1 ⟨rfl, hs1, hb1⟩; have HO := Lib.hid (HF.out w1 hs1 hb1); have hb2 := hb1.alloc hb1.size (.cells #[.int .u64 0, .int .u64 0, .int .u64 0, .bool false, .pointer (some ⟨w.heap.size, 0, none⟩), .slice none 0 0] 74))
  go_ret
  exact ⟨_, rfl, HO.out, hb2⟩
theorem iread_any {w : World} {base p : Nat} {O : Nat → Prop} {S : BS} (h : Bf w base p O S) : Calls Tryz.prog 59 #[.pointer (some ⟨p, 0, none⟩)] w fun e w' => e = .returned (.int .u64 S.rd) ∧ w' = w := by
  obtain ⟨ps, vs, vw, l, W, _, h⟩ := h
  have h0 := h.c0
  clear h
  go_enter Tryz.func59, Tryz.ntmps59
  go_wp2
  go_ret
  exact ⟨rfl, rfl⟩
theorem ihigh_any {w : World} {base p : Nat} {O : Nat → Prop} {S : BS} (h : Bf w base p O S) : Calls Tryz.prog 58 #[.pointer (some ⟨p, 0, none⟩)] w fun e w' => e = .returned (.int .u64 S.hi) ∧ w' = w := by
  obtain ⟨ps, vs, vw, l, W, _, h⟩ := h
  have h0 := h.c1
  clear h
  go_enter Tryz.func58, Tryz.ntmps58
  go_wp2
  go_ret
  exact ⟨rfl, rfl⟩
theorem ifin_any {w : World} {base p : Nat} {O : Nat → Prop} {S : BS} (h : Bf w base p O S) : Calls Tryz.prog 83 #[.pointer (some ⟨p, 0, none⟩)] w fun e w' => e = .returned (.tuple #[.int .u64 S.fi, .bool S.en]) ∧ ∃ d, w' = w.drewN d := by
  obtain ⟨ps, vs, vw, l, W, _, h⟩ := h
  have h0 := h.c2
  have h1 := h.c3
  clear h
  go_enter Tryz.func83, Tryz.ntmps83
  go_wp2
  go_quiet (fail)
  go_wp2
  go_ret2
  exact ⟨rfl, _, rfl⟩
/-- What speaks against a piece up to n. -/
def agB (S : BS) (n : Nat) (fin : Bool) : Bool := (S.en && (decide (S.fi < n) || (fin && !decide (n = S.fi)))) || (fin && decide (n < S.hi))
set_option maxHeartbeats 2000000 in
theorem iag_any {w : World} {base p : Nat} {O : Nat → Prop} {S : BS} (h : Bf w base p O S) (n : Nat) (fin : Bool) : Calls Tryz.prog 80 #[.pointer (some ⟨p, 0, none⟩), .int .u64 n, .bool fin] w fun e w' => e = .returned (.bool (agB S n fin)) ∧ w' = w := by
  obtain ⟨ps, vs, vw, l, W, _, h⟩ := h
  have h1 := h.c1
  have h2 := h.c2
  have h3 := h.c3
  clear h
  unfold agB
  obtain ⟨rd, hi, fi, en, g⟩ := S
  simp only at h1 h2 h3 ⊢
  cases en <;> cases fin
  · go_enter Tryz.func80, Tryz.ntmps80
    go_wp2
    go_ret
    exact ⟨by simp, rfl⟩
  · go_enter Tryz.func80, Tryz.ntmps80
    go_wp2
    go_ret
    exact ⟨by simp, rfl⟩
  · by_cases hc : fi < n
    · have hcz : (fi : Int) < (n : Int) := by omega
      go_enter Tryz.func80, Tryz.ntmps80
      go_wp2
      go_ret
      exact ⟨by simp [hc], rfl⟩
    · have hcz : ¬ (fi : Int) < (n : Int) := by omega
      go_enter Tryz.func80, Tryz.ntmps80
      go_wp2
      go_ret
      exact ⟨by simp [hc], rfl⟩
  · rcases Nat.lt_trichotomy fi n with hc | rfl | hc
    · have hcz : (fi : Int) < (n : Int) := by omega
      go_enter Tryz.func80, Tryz.ntmps80
      go_wp2
      go_ret
      exact ⟨by simp [hc], rfl⟩
    · have hcz : ¬ (fi : Int) < (fi : Int) := by omega
      go_enter Tryz.func80, Tryz.ntmps80
      go_wp2
      go_ret
      exact ⟨by simp, rfl⟩
    · have hcz : ¬ (fi : Int) < (n : Int) := by omega
      have hne : ¬ (n : Int) = (fi : Int) := by omega
      have hnn : ¬ n = fi := by omega
      go_enter Tryz.func80, Tryz.ntmps80
      go_wp2
      go_ret
      exact ⟨by simp [hnn], rfl⟩
end
end Go.Proofs.YtphpdaldplkgmaaGreat
