/-
  What may be of a frame (frame.numbersRight, frame.Right), for every frame.
-/
import Derived.Test.YtahalbmcijbbmaaMq11
import Derived.Deep.RegionHeld
namespace Go.Proofs.Ytahalbmcijbbmaa
section
set_option linter.unusedVariables false
set_option linter.unusedSimpArgs false
open Go.RowKit
def smB (x : Int) : Bool := decide (x ≤ 4611686018427387903)
def nrB (m : FN) : Bool := smB m.s && smB m.o && smB m.l && smB m.c && smB m.f && smB m.q && smB m.y && decide (m.o ≤ 1099511627776) && decide (m.f ≤ 1099511627776) && decide (m.l ≤ glS m)
/-- The first k of a frame's numbers are small. -/
def okTo (m : FN) (k : Nat) : Prop := (0 < k → m.s ≤ 4611686018427387903) ∧ (1 < k → m.o ≤ 4611686018427387903) ∧ (2 < k → m.l ≤ 4611686018427387903) ∧ (3 < k → m.c ≤ 4611686018427387903) ∧ (4 < k → m.f ≤ 4611686018427387903) ∧ (5 < k → m.q ≤ 4611686018427387903) ∧ (6 < k → m.y ≤ 4611686018427387903)
theorem wpList_ix {P : Program} {ops : Array Oper} {rest : List Oper} {a : Act} {w : World} {Q : Exit → Act → World → Prop} {dst : Option Tmp} {x ix : Operand} {ty t : TypeId} {pos : String} {after : Array Edge} (v : Value)
    (h0 : ∀ W, (Instr.index ty (a.eval x) (a.eval ix)).run P W = .ok v W) (h : wpList P ops Q rest (a.put dst v) w) : wpList P ops Q (⟨dst, .index ty x ix, t, pos, after, none⟩ :: rest) a w := by
  refine wpList_plain rfl fun K hK => ?_
  unfold Oper.wp
  simp [execOp, h0, Result.andThen]
  exact hK _ _ h
theorem ix_at (cs : Array Value) (j : Nat) (x : Value) (hj : j < 7) (hx : cs[j]? = some x) (W : World) :
    (Instr.index 106 (.agg cs) (.int .i64 j)).run Try.prog W = .ok x W := by
  have hz : (Try.prog.info? 22).map (·.size) = some 1 := by kernel_rfl
  cases hq : Try.prog.info? 22 with
  | none => simp [hq] at hz
  | some i =>
    have hs : i.size = 1 := by simpa [hq] using hz
    have h1 : ¬ 7 ≤ j := by omega
    have hu := Try.underlying106
    have hu2 := Try.underlying22
    simp [Instr.index, asIntOf, run_underlying hu, run_underlying hu2, sizeOf, typeInfo, hq, hs, h1, part, isAgg, hx]
/-- wpAnyH_take with the slot written out. -/
theorem take_dst {P : Program} {md : Region.Mode} {ops : Array Oper} {Q : Exit → Act → World → Prop} {S : World → Prop} {i : Nat} {oi : Oper} {dst : Option Tmp} {v : Value} {fuel : Nat} {listed : Array Bool} {a : Act} {w : World} (hi : ops[i]? = some oi) (hd : oi.dst = dst)
    (hs : Region.noSelect ops = true) (hf : Region.free md ops listed i = true) (hr : (Region.ready md ops listed).contains i = true)
    (hQ : ∀ c a w, Q (.panic c) (a.put dst v) w → Q (.panic c) a w) (hy : YieldsIf P ops S oi v a) (hS : S w)
    (h : wpAnyH P md ops Q S fuel (listed.setIfInBounds i true) (a.put dst v) w) : wpAnyH P md ops Q S (fuel + 1) listed a w := by
  subst hd
  exact wpAnyH_take hi hs hf hr hQ hy hS h
/-- .. with less to write. -/
theorem tkp {P : Program} {md : Region.Mode} {ops : Array Oper} {Q : Exit → Act → World → Prop} {S : World → Prop} (i : Nat) (dst : Option Tmp) {oi : Oper} {v : Value} {fuel : Nat} {listed : Array Bool} {a : Act} {w : World} (hi : ops[i]? = some oi)
    (hy : YieldsIf P ops S oi v a) (hS : S w) (h : wpAnyH P md ops Q S fuel (listed.setIfInBounds i true) (a.put dst v) w)
    (hd : oi.dst = dst := by rfl) (hs : Region.noSelect ops = true := by kernel_rfl) (hf : Region.free md ops listed i = true := by kernel_rfl) (hr : (Region.ready md ops listed).contains i = true := by kernel_rfl)
    (hQ : ∀ c a w, Q (.panic c) (a.put dst v) w → Q (.panic c) a w := by exact fun _ _ _ h => h) : wpAnyH P md ops Q S (fuel + 1) listed a w :=
  take_dst hi hd hs hf hr hQ hy hS h
theorem fr_info : (Try.prog.info? 46).map (·.size) = some 19 := by kernel_rfl
theorem yl_fr {ops : Array Oper} {S : World → Prop} {op : Oper} {a : Act} (x : Operand) (ho : op.op = .load 46 x) (b : Nat) (hx : a.eval x = .pointer (some ⟨b, 0, none⟩)) (L : List Value) (hS : ∀ w, S w → w.rangeAt b 0 L) (hl : L.length = 19)
    (hw : Region.wanted op (yielded ops a.tmps) = true) : YieldsIf Try.prog ops S op (.agg L.toArray) a :=
  yieldsIf_load_mid hw _ x ho b 0 hx L _ hS Try.underlying46 rfl (by rw [hl]; exact fr_info)
theorem nr_S (g : Nat) (k s o l c f q y c0 c1 c2 c3 c4 c5 c6 c7 : Int) (fin : Bool) (dA rA : Option Addr) (dn dc rn rc : Nat) (w' : World)
    (h : At w' g 46 [.int .i64 k, .int .u64 s, .int .u64 o, .slice dA dn dc, .bool fin, .int .u64 l, .int .u64 c, .int .u64 f, .int .u64 q, .int .u64 y, .slice rA rn rc,
      .int .u8 c0, .int .u8 c1, .int .u8 c2, .int .u8 c3, .int .u8 c4, .int .u8 c5, .int .u8 c6, .int .u8 c7]) :
    w'.cell? ⟨g, 2, none⟩ = some (.int .u64 o) ∧ w'.cell? ⟨g, 7, none⟩ = some (.int .u64 f) ∧ w'.cell? ⟨g, 5, none⟩ = some (.int .u64 l) ∧ w'.rangeAt g 0 [.int .i64 k, .int .u64 s, .int .u64 o, .slice dA dn dc, .bool fin, .int .u64 l, .int .u64 c, .int .u64 f, .int .u64 q, .int .u64 y, .slice rA rn rc, .int .u8 c0, .int .u8 c1, .int .u8 c2, .int .u8 c3, .int .u8 c4, .int .u8 c5, .int .u8 c6, .int .u8 c7] :=
  ⟨h.cell 2, h.cell 7, h.cell 5, h.rangeAt⟩
theorem nrB_all (m : FN) (h : okTo m 7) : nrB m = (decide (m.o ≤ 1099511627776) && decide (m.f ≤ 1099511627776) && decide (m.l ≤ glS m)) := by
  obtain ⟨h0, h1, h2, h3, h4, h5, h6⟩ := h
  simp [nrB, smB, h0, h1, h2, h3, h4, h5, h6]
theorem nrB_bad (m : FN) (h : ¬ (m.s ≤ 4611686018427387903 ∧ m.o ≤ 4611686018427387903 ∧ m.l ≤ 4611686018427387903 ∧ m.c ≤ 4611686018427387903 ∧ m.f ≤ 4611686018427387903 ∧ m.q ≤ 4611686018427387903 ∧ m.y ≤ 4611686018427387903)) : nrB m = false := by
  cases hb : nrB m with
  | false => rfl
  | true =>
    refine absurd ?_ h
    simp [nrB, smB] at hb
    obtain ⟨⟨⟨⟨⟨⟨⟨⟨⟨a, b⟩, c⟩, d⟩, e⟩, f⟩, g⟩, _⟩, _⟩, _⟩ := hb
    exact ⟨a, b, c, d, e, f, g⟩
set_option maxRecDepth 100000 in
set_option maxHeartbeats 1000000 in
theorem nr_any (m : FN) (d r : Sl) (w : World) (hwf : m.wf) : Calls Try.prog 44 #[frV m d r] w (FrPost (.bool (nrB m)) w) := by
  have hnum := numbers_any m d r
  have hgl := gl_any m d r
  have hall := nrB_all m
  have hbad := nrB_bad m
  obtain ⟨k, s, o, fin, l, c, f, q, y, c0, c1, c2, c3, c4, c5, c6, c7⟩ := m
  obtain ⟨dA, dn, dc⟩ := d
  obtain ⟨rA, rn, rc⟩ := r
  obtain ⟨k0, k1, s0, s1, o0, o1, l0, l1, c0', c1', f0, f1, q0, q1, y0, y1, cid⟩ := hwf
  simp only at k0 k1 s0 s1 o0 o1 l0 l1 c0' c1' f0 f1 q0 q1 y0 y1
  simp only at hbad
  clear cid
  simp only [frV, frL] at hnum hgl ⊢
  have HN := Lib.hid hnum
  have HG := Lib.hid hgl
  have HA := Lib.hid hall
  have HB := Lib.hid hbad
  obtain ⟨L, hL⟩ : ∃ L : List Value, L = [.int .i64 k, .int .u64 s, .int .u64 o, .slice dA dn dc, .bool fin, .int .u64 l, .int .u64 c, .int .u64 f, .int .u64 q, .int .u64 y, .slice rA rn rc,
      .int .u8 c0, .int .u8 c1, .int .u8 c2, .int .u8 c3, .int .u8 c4, .int .u8 c5, .int .u8 c6, .int .u8 c7] := ⟨_, rfl⟩
  have HL := Lib.hid hL
  clear hnum hgl hall hbad
  have hA0 : At (w.alloc (.cells L.toArray 46)) w.heap.size 46 L := At.new w _ L
  have hB0 : Below w.heap.size w (w.alloc (.cells L.toArray 46)) := (Below.refl _ _).alloc (Nat.le_refl _) _
  have hs0 : (w.alloc (.cells L.toArray 46)).heap.size = w.heap.size + 1 := by simp
  subst hL
  have HA0 := Lib.hid hA0
  have HB0 := Lib.hid hB0
  have HS0 := Lib.hid hs0
  clear hA0 hB0 hs0
  go_enter Try.func44, Try.ntmps44
  go_wp2_with (first | ((with_reducible refine at_ld ?_); refine ld_fr _ _ (by rfl) HA0.out (by rfl) ?_) | fail)
  refine (HN.out _).mono ?_
  rintro e w1 ⟨rfl, hb1⟩
  have hA1 := HA0.out.below hb1 (by rw [HS0.out]; omega)
  have hB1 : Below w.heap.size w w1 := HB0.out.trans (hb1.mono (by rw [HS0.out]; omega))
  have hp1 : w.heap.size < w1.heap.size := hA1.lt
  clear hb1
  have HA1 := Lib.hid hA1
  have HB1 := Lib.hid hB1
  clear hA1 hB1
  go_wp2_with fail
  go_loop [7] (fun i => ∃ j : Nat, j ≤ 7 ∧ i = .int .i64 j ∧ Hid (okTo ⟨k, s, o, fin, l, c, f, q, y, c0, c1, c2, c3, c4, c5, c6, c7⟩ j)) (fun i => 7 - (intOf i).toNat)
  case atStart => exact ⟨0, by omega, rfl, Lib.hid (by unfold okTo; simp)⟩
  case round =>
    obtain ⟨j, hj, rfl, hok⟩ := hrel
    have hjc : j = 0 ∨ j = 1 ∨ j = 2 ∨ j = 3 ∨ j = 4 ∨ j = 5 ∨ j = 6 ∨ j = 7 := by omega
    rcases hjc with rfl | rfl | rfl | rfl | rfl | rfl | rfl | rfl
    --ROUNDS
    · go_wp2_with (refine wpList_ix (ty := 106) _ (fun W => ix_at _ 0 _ (by omega) rfl W) ?_)
      all_goals first
        | (go_ret; exact ⟨by rw [HB.out (by omega)]; rfl, HB1.out⟩)
        | (go_round
           case rel => exact ⟨1, by omega, rfl, Lib.hid (by have h := hok.out; simp [okTo] at h ⊢; omega)⟩
           case measure => simp [intOf])
    · go_wp2_with (refine wpList_ix (ty := 106) _ (fun W => ix_at _ 1 _ (by omega) rfl W) ?_)
      all_goals first
        | (go_ret; exact ⟨by rw [HB.out (by omega)]; rfl, HB1.out⟩)
        | (go_round
           case rel => exact ⟨2, by omega, rfl, Lib.hid (by have h := hok.out; simp [okTo] at h ⊢; omega)⟩
           case measure => simp [intOf])
    · go_wp2_with (refine wpList_ix (ty := 106) _ (fun W => ix_at _ 2 _ (by omega) rfl W) ?_)
      all_goals first
        | (go_ret; exact ⟨by rw [HB.out (by omega)]; rfl, HB1.out⟩)
        | (go_round
           case rel => exact ⟨3, by omega, rfl, Lib.hid (by have h := hok.out; simp [okTo] at h ⊢; omega)⟩
           case measure => simp [intOf])
    · go_wp2_with (refine wpList_ix (ty := 106) _ (fun W => ix_at _ 3 _ (by omega) rfl W) ?_)
      all_goals first
        | (go_ret; exact ⟨by rw [HB.out (by omega)]; rfl, HB1.out⟩)
        | (go_round
           case rel => exact ⟨4, by omega, rfl, Lib.hid (by have h := hok.out; simp [okTo] at h ⊢; omega)⟩
           case measure => simp [intOf])
    · go_wp2_with (refine wpList_ix (ty := 106) _ (fun W => ix_at _ 4 _ (by omega) rfl W) ?_)
      all_goals first
        | (go_ret; exact ⟨by rw [HB.out (by omega)]; rfl, HB1.out⟩)
        | (go_round
           case rel => exact ⟨5, by omega, rfl, Lib.hid (by have h := hok.out; simp [okTo] at h ⊢; omega)⟩
           case measure => simp [intOf])
    · go_wp2_with (refine wpList_ix (ty := 106) _ (fun W => ix_at _ 5 _ (by omega) rfl W) ?_)
      all_goals first
        | (go_ret; exact ⟨by rw [HB.out (by omega)]; rfl, HB1.out⟩)
        | (go_round
           case rel => exact ⟨6, by omega, rfl, Lib.hid (by have h := hok.out; simp [okTo] at h ⊢; omega)⟩
           case measure => simp [intOf])
    · go_wp2_with (refine wpList_ix (ty := 106) _ (fun W => ix_at _ 6 _ (by omega) rfl W) ?_)
      all_goals first
        | (go_ret; exact ⟨by rw [HB.out (by omega)]; rfl, HB1.out⟩)
        | (go_round
           case rel => exact ⟨7, by omega, rfl, Lib.hid (by have h := hok.out; simp [okTo] at h ⊢; omega)⟩
           case measure => simp [intOf])
    · have HE := Lib.hid (HA.out hok.out)
      have e2 := HA1.out.cell 2
      have e7 := HA1.out.cell 7
      have e5 := HA1.out.cell 5
      simp only [List.getElem?_cons_succ, List.getElem?_cons_zero] at e2 e7 e5
      rcases Int.lt_or_le 1099511627776 o with ho | ho
      · have hd : decide (o ≤ 1099511627776) = false := by simp; omega
        have HR : Hid (nrB ⟨k, s, o, fin, l, c, f, q, y, c0, c1, c2, c3, c4, c5, c6, c7⟩ = false) := Lib.hid (by rw [HE.out]; simp; omega)
        go_wp2
        go_quiet (fail)
        go_wp2
        go_ret
        exact ⟨by rw [HR.out]; rfl, belowN HB1.out _⟩
      · have hd : decide (o ≤ 1099511627776) = true := by simp; omega
        rcases Int.lt_or_le 1099511627776 f with hf | hf
        · have hd2 : decide (f ≤ 1099511627776) = false := by simp; omega
          have HR : Hid (nrB ⟨k, s, o, fin, l, c, f, q, y, c0, c1, c2, c3, c4, c5, c6, c7⟩ = false) := Lib.hid (by rw [HE.out]; simp; omega)
          go_wp2
          go_quiet (fail)
          go_wp2
          go_ret
          exact ⟨by rw [HR.out]; rfl, belowN HB1.out _⟩
        · have hd2 : decide (f ≤ 1099511627776) = true := by simp; omega
          have HR : Hid (nrB ⟨k, s, o, fin, l, c, f, q, y, c0, c1, c2, c3, c4, c5, c6, c7⟩ = decide (l ≤ glS ⟨k, s, o, fin, l, c, f, q, y, c0, c1, c2, c3, c4, c5, c6, c7⟩)) := Lib.hid (by rw [HE.out]; simp [ho, hf])
          obtain ⟨G, hG⟩ : ∃ G, glS ⟨k, s, o, fin, l, c, f, q, y, c0, c1, c2, c3, c4, c5, c6, c7⟩ = G := ⟨_, rfl⟩
          rw [hG] at HR HG
          clear hG
          go_wp2
          refine wp_region_held_drew (S := (fun w' => w'.cell? ⟨w.heap.size, 2, none⟩ = some (.int .u64 o) ∧ w'.cell? ⟨w.heap.size, 7, none⟩ = some (.int .u64 f) ∧ w'.cell? ⟨w.heap.size, 5, none⟩ = some (.int .u64 l) ∧ w'.rangeAt w.heap.size 0 [.int .i64 k, .int .u64 s, .int .u64 o, .slice dA dn dc, .bool fin, .int .u64 l, .int .u64 c, .int .u64 f, .int .u64 q, .int .u64 y, .slice rA rn rc, .int .u8 c0, .int .u8 c1, .int .u8 c2, .int .u8 c3, .int .u8 c4, .int .u8 c5, .int .u8 c6, .int .u8 c7])) (by kernel_rfl) (nr_S _ _ _ _ _ _ _ _ _ _ _ _ _ _ _ _ _ _ _ _ _ _ _ _ _ HA1.out.drew) (fun hHeld => ?_)
          refine tkp 0 (some 13) (v := ?_) rfl (Or.inl ⟨by rfl, ?_⟩) (by assumption) ?_
          rotate_left
          · intro w hSw; (try dsimp only at hSw); go_simp; first | done | (with_reducible rfl)
          simp only [Act.put, List.setIfInBounds_toArray, List.set_cons_zero, List.set_cons_succ]
          refine tkp 1 (some 14) (v := ?_) rfl (Or.inl ⟨by rfl, ?_⟩) (by assumption) ?_
          rotate_left
          · intro w hSw; (try dsimp only at hSw); go_simp; first | done | (with_reducible rfl)
          simp only [Act.put, List.setIfInBounds_toArray, List.set_cons_zero, List.set_cons_succ]
          refine tkp 2 (some 15) (v := ?_) rfl (Or.inl ⟨by rfl, ?_⟩) (by assumption) ?_
          rotate_left
          · intro w hSw; (try dsimp only at hSw); go_simp; first | done | (with_reducible rfl)
          simp only [Act.put, List.setIfInBounds_toArray, List.set_cons_zero, List.set_cons_succ]
          refine tkp 3 (some 16) (v := ?_) rfl (Or.inl ⟨by rfl, ?_⟩) (by assumption) ?_
          rotate_left
          · intro w hSw; (try dsimp only at hSw); go_simp; first | done | (with_reducible rfl)
          simp only [Act.put, List.setIfInBounds_toArray, List.set_cons_zero, List.set_cons_succ]
          refine tkp 4 (some 17) (v := ?_) rfl (Or.inl ⟨by rfl, ?_⟩) (by assumption) ?_
          rotate_left
          · intro w hSw; (try dsimp only at hSw); go_simp; first | done | (with_reducible rfl)
          simp only [Act.put, List.setIfInBounds_toArray, List.set_cons_zero, List.set_cons_succ]
          refine tkp 5 (some 18) (v := ?_) rfl (Or.inl ⟨by rfl, ?_⟩) (by assumption) ?_
          rotate_left
          · intro w hSw; (try dsimp only at hSw); go_simp; first | done | (with_reducible rfl)
          simp only [Act.put, List.setIfInBounds_toArray, List.set_cons_zero, List.set_cons_succ]
          refine tkp 6 (some 19) (v := ?_) rfl (Or.inl ⟨by rfl, ?_⟩) (by assumption) ?_
          rotate_left
          · intro w hSw; (try dsimp only at hSw); go_simp; first | done | (with_reducible rfl)
          simp only [Act.put, List.setIfInBounds_toArray, List.set_cons_zero, List.set_cons_succ]
          refine tkp 7 (some 20) (v := ?_) rfl (Or.inl ⟨by rfl, ?_⟩) (by assumption) ?_
          rotate_left
          · intro w hSw; (try dsimp only at hSw); go_simp; first | done | (with_reducible rfl)
          simp only [Act.put, List.setIfInBounds_toArray, List.set_cons_zero, List.set_cons_succ]
          refine tkp 8 (some 21) (v := ?_) rfl (Or.inl ⟨by rfl, ?_⟩) (by assumption) ?_
          rotate_left
          · intro w hSw; (try dsimp only at hSw); go_simp; first | done | (with_reducible rfl)
          simp only [Act.put, List.setIfInBounds_toArray, List.set_cons_zero, List.set_cons_succ]
          refine tkp 9 (some 22) (v := ?_) rfl (Or.inl ⟨by rfl, ?_⟩) (by assumption) ?_
          rotate_left
          · intro w hSw; (try dsimp only at hSw); go_simp; first | done | (with_reducible rfl)
          simp only [Act.put, List.setIfInBounds_toArray, List.set_cons_zero, List.set_cons_succ]
          refine tkp 10 (some 23) (v := ?_) rfl (Or.inl ⟨by rfl, ?_⟩) (by assumption) ?_
          rotate_left
          · intro w hSw; (try dsimp only at hSw); go_simp; first | done | (with_reducible rfl)
          simp only [Act.put, List.setIfInBounds_toArray, List.set_cons_zero, List.set_cons_succ]
          refine take_dst (i := 11) (dst := some 24) rfl rfl (by kernel_rfl) (by kernel_rfl) (by kernel_rfl) (fun _ _ _ h => h) (v := ?_) ?_ (by assumption) ?_
          rotate_left
          · refine yl_fr ?ylx11 ?ylo11 ?ylb11 ?ylp11 ?ylL11 ?ylS11 ?yll11 ?ylw11
            case ylo11 => rfl
            case ylp11 => rfl
            case ylS11 => intro w hSw; (try dsimp only at hSw); go_split_ands; assumption
            case yll11 => rfl
            case ylw11 => rfl
          simp only [Act.put, List.setIfInBounds_toArray, List.set_cons_zero, List.set_cons_succ]
          refine wpAnyH_ready (rs := [12]) (by kernel_rfl) (by simp) ?_
          refine AllReadyH.cons rfl (fun K hK => ?_) AllReadyH.nil
          go_simp
          go_wp2_with ((go_at_call 61; refine (HG.out _).mono ?_; rintro e w2 ⟨rfl, hb2⟩; have hA2 := HA1.out.drew.below hb2 hp1))
          refine hK.out _ _ (nr_S _ _ _ _ _ _ _ _ _ _ _ _ _ _ _ _ _ _ _ _ _ _ _ _ _ hA2) (fun hHeld => ?_)
          clear hK K
          refine tkp 13 (some 26) (v := ?_) rfl (Or.inl ⟨by rfl, ?_⟩) (by assumption) ?_
          rotate_left
          · intro w hSw; (try dsimp only at hSw); go_simp; first | done | (with_reducible rfl)
          simp only [Act.put, List.setIfInBounds_toArray, List.set_cons_zero, List.set_cons_succ]
          refine tkp 14 (some 27) (v := ?_) rfl (Or.inl ⟨by rfl, ?_⟩) (by assumption) ?_
          rotate_left
          · intro w hSw; (try dsimp only at hSw); go_simp; first | done | (with_reducible rfl)
          simp only [Act.put, List.setIfInBounds_toArray, List.set_cons_zero, List.set_cons_succ]
          refine tkp 15 (some 2) (v := ?_) rfl (Or.inl ⟨by rfl, ?_⟩) (by assumption) ?_
          rotate_left
          · intro w hSw; (try dsimp only at hSw); go_simp; first | done | (with_reducible rfl)
          simp only [Act.put, List.setIfInBounds_toArray, List.set_cons_zero, List.set_cons_succ]
          refine wpAnyH_done (by kernel_rfl) ?_ _
          all_goals
            go_wp2
            go_ret
            exact ⟨by rw [HR.out]; rfl, (below_drew HB1.out).trans (Below.mono hb2 (by have := HB1.out.size; show w.heap.size ≤ w1.heap.size; omega))⟩
end
section
set_option linter.unusedVariables false
set_option linter.unusedSimpArgs false
open Go.RowKit
def rightB (m : FN) (ds : List Int) (rs : RS) : Bool := knownB m.k && nrB (askN m) && drB (askN m) (askDs m.k ds).length && (m.k != 2 || rrB rs)
section
variable {ops : Array Oper} {rest : List Oper} {a : Act} {w : World} {Q : Exit → Act → World → Prop} {dst : Option Tmp} {x y : Operand} {t : TypeId} {pos : String} {after : Array Edge} {g : Option (Nat × Bool)}
/-- A whole frame's load, its guard met. -/
theorem ld_fr_g (p : Nat) (l : List Value) (hg : Region.wanted ⟨dst, .load 46 x, t, pos, after, g⟩ (yielded ops a.tmps) = true) (hx : a.eval x = .pointer (some ⟨p, 0, none⟩)) (hA : At w p 46 l) (hl : l.length = 19)
    (h : wpList Try.prog ops Q rest (a.put dst (.agg l.toArray)) w) : wpList Try.prog ops Q (⟨dst, .load 46 x, t, pos, after, g⟩ :: rest) a w := by
  refine wpList_step fun K hK => ?_
  rw [if_pos hg]
  exact wp_load_mid _ _ rfl p 0 hx l _ hA.rangeAt Try.underlying46 rfl (by rw [hl]; exact fr_info) (hK _ _ h)
end
theorem askD_n {w : World} {P : Nat → Prop} {d : Sl} {ds : List Int} (k : Int) (h : InD w P d ds) : (askD k d).n = (askDs k ds).length := by
  unfold askD askDs
  split
  · exact h.rd.len.symm
  · rfl
set_option maxRecDepth 100000 in
set_option maxHeartbeats 1000000 in
theorem right_any (P : Nat → Prop) (m : FN) (d r : Sl) (ds : List Int) (rs : RS) (w : World) (hf : Fits w P m d r ds rs) : Calls Try.prog 30 #[frV m d r] w (FrPost (.bool (rightB m ds rs)) w) := by
  have hak := hf.ask
  have hdn := askD_n m.k hf.dt
  obtain ⟨m', hm'⟩ : ∃ m', askN m = m' := ⟨_, rfl⟩
  obtain ⟨d', hd'⟩ : ∃ x, askD m.k d = x := ⟨_, rfl⟩
  obtain ⟨r', hr'⟩ : ∃ x, askR m.k r = x := ⟨_, rfl⟩
  obtain ⟨ds', hds'⟩ : ∃ x, askDs m.k ds = x := ⟨_, rfl⟩
  obtain ⟨rs', hrs'⟩ : ∃ x, askRs m.k rs = x := ⟨_, rfl⟩
  have hkk : m'.k = m.k := by rw [← hm']; exact askN_k m
  have hrr : m.k = 2 → rs' = rs := fun h => by rw [← hrs']; unfold askRs; rw [if_pos h]
  have hR : rightB m ds rs = (knownB m.k && nrB m' && drB m' ds'.length && (m.k != 2 || rrB rs')) := by
    unfold rightB
    rw [hm', hds']
    by_cases h : m.k = 2
    · rw [hrr h]
    · have : (m.k != 2) = true := by simpa using h
      rw [this]; simp
  have hC := asked_any m d r
  unfold AskedPost at hC
  rw [hm', hd', hr'] at hC
  rw [hm', hd', hr', hds', hrs'] at hak
  rw [hd', hds'] at hdn
  clear hm' hd' hr' hds' hrs' hrr
  obtain ⟨kb, hkb⟩ : ∃ x, knownB m.k = x := ⟨_, rfl⟩
  rw [hkb] at hC hR
  clear hkb hf
  have HC := Lib.hid hC
  have HR := Lib.hid hR
  have HD := Lib.hid hdn
  have HK := Lib.hid hkk
  obtain ⟨k1, hk1⟩ : ∃ x, m.k = x := ⟨_, rfl⟩
  rw [hk1] at HR HK
  clear hC hR hdn hk1 hkk
  have hA0 : At (w.alloc (.cells (frL m d r).toArray 46)) w.heap.size 46 (frL m d r) := At.new w _ _
  have hB0 : Below w.heap.size w (w.alloc (.cells (frL m d r).toArray 46)) := (Below.refl _ _).alloc (Nat.le_refl _) _
  have hs0 : (w.alloc (.cells (frL m d r).toArray 46)).heap.size = w.heap.size + 1 := by simp
  have HA0 := Lib.hid hA0
  have HB0 := Lib.hid hB0
  have HS0 := Lib.hid hs0
  clear hA0 hB0 hs0
  obtain ⟨L, hL⟩ : ∃ L, frL m d r = L := ⟨_, rfl⟩
  have hLl : L.length = 19 := by rw [← hL]; rfl
  have hfv : frV m d r = .agg L.toArray := by rw [← hL]; rfl
  rw [hL] at HA0 HB0 HS0
  rw [hfv] at HC ⊢
  clear hL hfv
  have HLl := Lib.hid hLl
  clear hLl
  have HNR := Lib.hid (fun W => nr_any m' d' r' W hak.wf)
  have HDR := Lib.hid (fun (W : World) (h1 : m'.o ≤ 1099511627776) => dr_any m' d' r' W hak.wf.o0 h1 hak.dt.lc hak.dt.cm)
  have HFI := Lib.hid hak
  clear hak
  obtain ⟨L', hL'⟩ : ∃ L, frL m' d' r' = L := ⟨_, rfl⟩
  have hLl' : L'.length = 19 := by rw [← hL']; rfl
  have hone : L'.all (·.oneCell') = true := by rw [← hL']; rfl
  have hc0 : L'[0]? = some (.int .i64 m'.k) := by rw [← hL']; rfl
  have hc10 : L'[10]? = some (.slice r'.A r'.n r'.c) := by rw [← hL']; rfl
  have hfv' : frV m' d' r' = .agg L'.toArray := by rw [← hL']; rfl
  rw [hfv'] at HC HNR HDR
  clear hL' hfv'
  have HLl' := Lib.hid hLl'
  have HO := Lib.hid hone
  have HC0 := Lib.hid hc0
  have HC10 := Lib.hid hc10
  clear hLl' hone hc0 hc10
  have hnb : nrB m' = true → m'.o ≤ 1099511627776 := fun h => by
    simp [nrB] at h; exact h.1.1.2
  obtain ⟨nb, hnb'⟩ : ∃ x, nrB m' = x := ⟨_, rfl⟩
  rw [hnb'] at hnb HNR HR
  rw [HD.out] at HDR
  obtain ⟨db, hdb'⟩ : ∃ x, drB m' ds'.length = x := ⟨_, rfl⟩
  rw [hdb'] at HDR HR
  clear hnb' hdb'
  obtain ⟨kk, hkk⟩ : ∃ x, m'.k = x := ⟨_, rfl⟩
  rw [hkk] at HK HC0
  have HNB := Lib.hid hnb
  clear hnb hkk
  have hk : (kk == 2) = (k1 == 2) := by rw [HK.out]
  obtain ⟨rA, rn, rc⟩ := r'
  cases kb with
  | false =>
    have HRR : Hid (rightB m ds rs = false) := Lib.hid (by rw [HR.out]; simp)
    go_enter Try.func30, Try.ntmps30
    go_wp2_with (first | ((with_reducible refine at_ld ?_); refine ld_fr_g _ _ (by rfl) (by rfl) HA0.out HLl.out ?_) | fail)
    refine (HC.out _).mono ?_
    rintro e w1 ⟨rfl, hb1⟩
    have hA1 := HA0.out.below hb1 (by rw [HS0.out]; omega)
    have hB1 : Below w.heap.size w w1 := HB0.out.trans (hb1.mono (by rw [HS0.out]; omega))
    have HA1 := Lib.hid hA1
    have HB1 := Lib.hid hB1
    have hp1 : w.heap.size < w1.heap.size := hA1.lt
    clear hb1 hA1 hB1
    go_wp2_with (first | ((with_reducible refine at_st ?_); refine st_at _ _ _ (by rfl) (by rfl) HA1.out HLl.out HLl'.out HO.out ?_; intro w2 hA2 hK2) | ((with_reducible refine at_ld ?_); refine ld_fr_g _ _ (by rfl) (by rfl) hA2 HLl'.out ?_) | fail)
    all_goals
      go_ret
      exact ⟨by rw [HRR.out]; rfl, hK2.below HB1.out (by omega) (fun j hj => by omega)⟩
  | true =>
    go_enter Try.func30, Try.ntmps30
    go_wp2_with (first | ((with_reducible refine at_ld ?_); refine ld_fr_g _ _ (by rfl) (by rfl) HA0.out HLl.out ?_) | fail)
    refine (HC.out _).mono ?_
    rintro e w1 ⟨rfl, hb1⟩
    have hA1 := HA0.out.below hb1 (by rw [HS0.out]; omega)
    have hB1 : Below w.heap.size w w1 := HB0.out.trans (hb1.mono (by rw [HS0.out]; omega))
    have HA1 := Lib.hid hA1
    have HB1 := Lib.hid hB1
    have hp1 : w.heap.size < w1.heap.size := hA1.lt
    clear hb1 hA1 hB1
    go_wp2_with (first | ((with_reducible refine at_st ?_); refine st_at _ _ _ (by rfl) (by rfl) HA1.out HLl.out HLl'.out HO.out ?_; intro w2 hA2 hK2) | ((with_reducible refine at_ld ?_); refine ld_fr_g _ _ (by rfl) (by rfl) hA2 HLl'.out ?_) | fail)
    have hB2 : Below w.heap.size w w2 := hK2.below HB1.out (by omega) (fun j hj => by omega)
    have hp2 : w.heap.size < w2.heap.size := hA2.lt
    have HA2 := Lib.hid hA2
    have HB2 := Lib.hid hB2
    have HF2 := Lib.hid (HFI.out.below hB2)
    clear hA2 hB2 hK2 hp1
    refine (HNR.out _).mono ?_
    rintro e w3 ⟨rfl, hb3⟩
    have hA3 := HA2.out.below hb3 hp2
    have hB3 : Below w.heap.size w w3 := HB2.out.trans (hb3.mono (by omega))
    have hp3 : w.heap.size < w3.heap.size := hA3.lt
    have HF3 := Lib.hid (HF2.out.below hb3)
    have HA3 := Lib.hid hA3
    have HB3 := Lib.hid hB3
    clear hA3 hB3 hb3
    cases nb with
    | false =>
      have HRR : Hid (rightB m ds rs = false) := Lib.hid (by rw [HR.out]; simp)
      go_wp2_with fail
      all_goals
        go_ret
        exact ⟨by rw [HRR.out]; rfl, HB3.out⟩
    | true =>
      go_wp2_with (first | ((with_reducible refine at_ld ?_); refine ld_fr_g _ _ (by rfl) (by rfl) HA3.out HLl'.out ?_) | fail)
      refine (HDR.out _ (HNB.out (by trivial))).mono ?_
      rintro e w4 ⟨rfl, hb4⟩
      have hA4 := HA3.out.below hb4 hp3
      have hB4 : Below w.heap.size w w4 := HB3.out.trans (hb4.mono (by omega))
      have HF4 := Lib.hid (HF3.out.below hb4)
      have e0 := (hA4.cell 0).trans HC0.out
      have e10 := (hA4.cell 10).trans HC10.out
      have HB4 := Lib.hid hB4
      clear hA4 hB4 hb4
      cases db with
      | false =>
        have HRR : Hid (rightB m ds rs = false) := Lib.hid (by rw [HR.out]; simp)
        go_wp2_with fail
        all_goals
          go_ret
          exact ⟨by rw [HRR.out]; rfl, HB4.out⟩
      | true =>
        cases h2 : (k1 == 2) with
        | false =>
          have hk2 : (kk == 2) = false := hk.trans h2
          have hk3 : (kk != 2) = true := by simp only [bne, hk2]; rfl
          have HRR : Hid (rightB m ds rs = true) := Lib.hid (by rw [HR.out]; simp [bne, h2])
          clear hk h2
          go_wp2_with fail
          all_goals
            go_ret
            exact ⟨by rw [HRR.out]; rfl, HB4.out⟩
        | true =>
          have hk2 : (kk == 2) = true := hk.trans h2
          have hk3 : (kk != 2) = false := by simp only [bne, hk2]; rfl
          have HRR : Hid (rightB m ds rs = rrB rs') := Lib.hid (by rw [HR.out]; simp [bne, h2])
          clear hk h2
          go_wp2_with fail
          refine (rr_any _ ⟨rA, rn, rc⟩ _ _ HF4.out.rg).mono ?_
          rintro e w5 ⟨rfl, hb5⟩
          go_wp2_with fail
          all_goals
            go_ret
            exact ⟨by rw [HRR.out]; rfl, HB4.out.trans (hb5.mono HB4.out.size)⟩
end
end Go.Proofs.Ytahalbmcijbbmaa
