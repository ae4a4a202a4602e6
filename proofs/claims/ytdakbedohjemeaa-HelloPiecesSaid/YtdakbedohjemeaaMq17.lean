/-
  Two sides of the law's own (Tw); the law's known.
-/
import Derived.Test.YtdakbedohjemeaaYo
import Derived.Test.YtdakbedohjemeaaPz
import Derived.Lib.SlBytesConst
import Derived.Test.YtdakbedohjemeaaMq8
import Derived.Test.YtdakbedohjemeaaA8
import Derived.Laws.StructEq
namespace Go.Proofs.Ytdakbedohjemeaa
section
set_option linter.unusedVariables false
set_option linter.unusedSimpArgs false
open Go.RowKit Go.ChangeShapes Go.WideShapes Go.Deep
/-- Two sides that the call made behind the world w0; F: blocks that they have nothing to do with. -/
structure Tw (w0 W : World) (p q : Nat) (X Y : HS) (F : Nat → Prop) : Prop where
  okx : X.ok
  oky : Y.ok
  bf : ∃ Ox Oy, Hm W w0.heap.size p Ox X ∧ Hm W w0.heap.size q Oy Y ∧ (∀ b, Ox b → ¬ Oy b) ∧ ∀ b, F b → ¬ Ox b ∧ ¬ Oy b ∧ b < W.heap.size
  bl : Below w0.heap.size w0 W
def TwPost (w0 W : World) (p q : Nat) (X' Y' : HS) (F : Nat → Prop) (W' : World) : Prop := Tw w0 W' p q X' Y' F ∧ (∀ b, F b → W'.heap[b]? = W.heap[b]?) ∧ W.heap.size ≤ W'.heap.size
section
variable {w0 W W' W1 : World} {p q : Nat} {X Y X' Y' : HS} {F F' : Nat → Prop}
theorem Tw.swap (h : Tw w0 W p q X Y F) : Tw w0 W q p Y X F := by
  obtain ⟨Ox, Oy, h1, h2, h3, h4⟩ := h.bf
  exact ⟨h.oky, h.okx, ⟨Oy, Ox, h2, h1, fun b hy hx => h3 b hx hy, fun b hb => ⟨(h4 b hb).2.1, (h4 b hb).1, (h4 b hb).2.2⟩⟩, h.bl⟩
theorem Tw.below (h : Tw w0 W p q X Y F) (k : Below W.heap.size W W') : Tw w0 W' p q X Y F := by
  obtain ⟨Ox, Oy, h1, h2, h3, h4⟩ := h.bf
  exact ⟨h.okx, h.oky, ⟨Ox, Oy, h1.below k, h2.below k, h3, fun b hb => ⟨(h4 b hb).1, (h4 b hb).2.1, Nat.lt_of_lt_of_le (h4 b hb).2.2 k.size⟩⟩, h.bl.trans (k.mono h.bl.size)⟩
theorem Tw.drewN (h : Tw w0 W p q X Y F) (n : Nat) : Tw w0 (W.drewN n) p q X Y F := h.below (belowN (Below.refl _ _) n)
theorem Tw.fresh (h : Tw w0 W p q X Y F) (k : Below W.heap.size W W') (hF : ∀ b, F' b → F b ∨ (W.heap.size ≤ b ∧ b < W'.heap.size)) : Tw w0 W' p q X Y F' := by
  obtain ⟨Ox, Oy, h1, h2, h3, h4⟩ := h.bf
  refine ⟨h.okx, h.oky, ⟨Ox, Oy, h1.below k, h2.below k, h3, fun b hb => ?_⟩, h.bl.trans (k.mono h.bl.size)⟩
  rcases hF b hb with h' | ⟨h', h''⟩
  · exact ⟨(h4 b h').1, (h4 b h').2.1, Nat.lt_of_lt_of_le (h4 b h').2.2 k.size⟩
  · exact ⟨fun e => by have := (h1.lt b e).2; omega, fun e => by have := (h2.lt b e).2; omega, h''⟩
/-- A cell of a block beside is set. -/
theorem Tw.set (h : Tw w0 W p q X Y F) {b : Nat} (hb : F b) (hw : w0.heap.size ≤ b) (j : Nat) (u : Value) : Tw w0 (W.setCell ⟨b, j, none⟩ u) p q X Y F := by
  obtain ⟨Ox, Oy, h1, h2, h3, h4⟩ := h.bf
  have k : Kept (· = b) W (W.setCell ⟨b, j, none⟩ u) := (Kept.refl _ _).setAt j u
  exact ⟨h.okx, h.oky, ⟨Ox, Oy, h1.kept k (fun i hi e => (h4 b hb).1 (by rw [← e]; exact hi)), h2.kept k (fun i hi e => (h4 b hb).2.1 (by rw [← e]; exact hi)), h3, fun i hi => ⟨(h4 i hi).1, (h4 i hi).2.1, Nat.lt_of_lt_of_le (h4 i hi).2.2 k.size⟩⟩, k.below h.bl h.bl.size (by intro i hi; omega)⟩
theorem tw_feed (h : Tw w0 W p q X Y F) (k : Below W.heap.size W W1) (space : Int) (A : Option Addr) (n c : Nat) (bs : List Int) (hr : RdP W1 (fun b => F b ∨ W.heap.size ≤ b) A n bs) (hn : n ≤ 140737488355000) :
    Calls Try.prog 20 #[.pointer (some ⟨p, 0, none⟩), .int .i64 space, .slice A n c] W1 fun e w' => e = .returned (.int .i64 (feedX X space bs).code) ∧ TwPost w0 W1 p q (feedX X space bs) Y F w' := by
  obtain ⟨Ox, Oy, h1, h2, h3, h4⟩ := h.bf
  have hx := h1.below k
  have hb := h.bl.trans (k.mono h.bl.size)
  refine (h_feed hx h.okx space A n c bs (hr.mono fun b _ hb e => hb.elim (fun hb => (h4 b hb).1 e) fun hb => by have := (h1.lt b e).2; omega) hn hb.size).mono fun e w' hP => ?_
  obtain ⟨he, O', g1, g2, g3⟩ := hP
  have hs := k.size
  refine ⟨he, ⟨feedX_ok h.okx space bs, h.oky, ⟨O', Oy, g1, (h2.below k).kept g2 (fun j hj e => h3 j e hj), fun b hb e => ?_, fun b hb => ⟨fun e => ?_, (h4 b hb).2.1, ?_⟩⟩, g2.below hb hb.size fun j hj => (h1.lt j hj).1⟩, fun b hb => ?_, g2.size⟩
  · rcases g3 b hb with h' | h'
    · exact h3 b h' e
    · have := (h2.lt b e).2; omega
  · rcases g3 b e with h' | h'
    · exact (h4 b hb).1 h'
    · have := (h4 b hb).2.2; omega
  · exact Nat.lt_of_lt_of_le (Nat.lt_of_lt_of_le (h4 b hb).2.2 hs) g2.size
  · exact g2.block b (Nat.lt_of_lt_of_le (h4 b hb).2.2 hs) (h4 b hb).1
theorem tw_out (h : Tw w0 W p q X Y F) (space : Int) : Calls Try.prog 19 #[.pointer (some ⟨p, 0, none⟩), .int .i64 space] W fun e w' => ∃ v, e = .returned v ∧ Own w' W.heap.size 5 v (outS X space) ∧ Below W.heap.size W w' := by
  obtain ⟨Ox, Oy, h1, _⟩ := h.bf
  exact h_out h1 h.okx space
theorem tw_secret (h : Tw w0 W p q X Y F) (space : Int) : Calls Try.prog 21 #[.pointer (some ⟨p, 0, none⟩), .int .i64 space] W fun e w' => e = .returned (.tuple #[.int .u64 (secS X space).1, .bool (secS X space).2]) ∧ Below W.heap.size W w' := by
  obtain ⟨Ox, Oy, h1, _⟩ := h.bf
  exact h_secret h1 h.okx space
theorem tw_theirs (h : Tw w0 W p q X Y F) : Calls Try.prog 18 #[.pointer (some ⟨p, 0, none⟩)] W fun e w' => e = .returned (.tuple #[pmV X.th, .bool (greetB X)]) ∧ Below W.heap.size W w' := by
  obtain ⟨Ox, Oy, h1, _⟩ := h.bf
  exact h_theirs h1 h.okx
/-- Two that were made one behind the other. -/
theorem tw_of {M : Nat} {Ox Oy : Nat → Prop} (okx : X.ok) (oky : Y.ok) (h1 : Hm W M p Ox X) (hM : w0.heap.size ≤ M) (k : Below W.heap.size W W1) (h2 : Hm W1 W.heap.size q Oy Y) (hb : Below w0.heap.size w0 W1) (hF : ∀ b, F b → b < M) : Tw w0 W1 p q X Y F := by
  have base : ∀ {w : World} {b b' r : Nat} {O : Nat → Prop} {Z : HS}, Hm w b r O Z → b' ≤ b → Hm w b' r O Z := by
    rintro w b b' r O Z ⟨vo, vh, h, rfl⟩ hb
    exact ⟨vo, vh, { h with bp := Nat.le_trans hb h.bp, own := h.own.base_ hb, held := h.held.base_ hb }, rfl⟩
  have hMW : M ≤ W.heap.size := by
    obtain ⟨_, _, h, _⟩ := h1
    exact Nat.le_of_lt (Nat.lt_of_le_of_lt h.bp h.at_.lt)
  refine ⟨okx, oky, ⟨Ox, Oy, base (h1.below k) hM, base h2 (by omega), fun b hx hy => ?_, fun b hb' => ?_⟩, hb⟩
  · have := (h1.lt b hx).2; have := (h2.lt b hy).1; omega
  · have := hF b hb'
    have := k.size
    exact ⟨fun e => by have := (h1.lt b e).1; omega, fun e => by have := (h2.lt b e).1; omega, by omega⟩
end
section
variable {ops : Array Oper} {rest : List Oper} {a : Act} {w : World} {Q : Exit → Act → World → Prop} {dst : Option Tmp} {x y : Operand} {t : TypeId} {pos : String} {after : Array Edge}
theorem at_stcid (h : wpList Try.prog ops Q (⟨dst, .store 24 x y, t, pos, after, none⟩ :: rest) a w) : wpList Try.prog ops Q (⟨dst, .store 24 x y, t, pos, after, none⟩ :: rest) a w := h
end
def c7N : N8 := ⟨7, 0, 0, 0, 0, 0, 0, 0⟩
set_option maxRecDepth 100000 in
theorem first7 : firstS c7N = keyedS 504403158265495552 initialB := by
  unfold firstS
  have : numS c7N.l = 504403158265495552 := by
    have h : b8 504403158265495552 = c7N := by decide
    rw [← h]
    exact num_bytes _ (by omega) (by omega)
  rw [this]
def X0k : HS := hs0 true 5 (rndS 1) .zero
theorem X0k_out : outS (noHeld (coded X0k 10)) 0 = [1, 0, 18, 1, 0, 1, 0, 0, 0, 0, 0, 0, 8, 0, 0, 0, 0, 0, 0, 0, 0] := by decide
end
section
set_option linter.unusedVariables false
set_option linter.unusedSimpArgs false
open Go.RowKit Go.ChangeShapes Go.WideShapes Go.Deep
section
variable {ops : Array Oper} {rest : List Oper} {a : Act} {w : World} {Q : Exit → Act → World → Prop} {dst : Option Tmp} {x y : Operand} {t : TypeId} {pos : String} {after : Array Edge} {g : Option (Nat × Bool)}
theorem ld_cidg (hg : Region.wanted ⟨dst, .load 24 x, t, pos, after, g⟩ (yielded ops a.tmps) = true) (p o : Nat) (m : N8) (hx : a.eval x = .pointer (some ⟨p, o, none⟩)) (hA : w.rangeAt p o (m.l.map (Value.int .u8)))
    (h : wpList Try.prog ops Q rest (a.put dst m.v) w) : wpList Try.prog ops Q (⟨dst, .load 24 x, t, pos, after, g⟩ :: rest) a w := by
  refine wpList_step fun K hK => ?_
  rw [if_pos hg]
  exact wp_load_mid 24 x rfl p o hx (m.l.map (Value.int .u8)) _ hA Try.underlying24 rfl (by rw [show (m.l.map (Value.int .u8)).length = 8 from rfl]; exact cid_info) (hK _ _ h)
end
theorem Rd.litk (w : World) (t : TypeId) (bs : List Int) (hb : Byt bs) (cs : Array Value) (fr : Nat × Nat) (hcs : cs = (bs.map (Value.int .u8)).toArray) :
    Rd (w.alloc (.cells cs t fr)) (w.heap.size + 1) (some ⟨w.heap.size, 0, none⟩) bs.length bs := by
  subst hcs
  refine ⟨rfl, hb, fun hp => ⟨w.heap.size, 0, rfl, by omega, fun i hi => ?_⟩⟩
  have hg : (w.alloc (.cells (bs.map (Value.int .u8)).toArray t fr)).heap[w.heap.size]? = some (.cells (bs.map (Value.int .u8)).toArray t fr) := by
    show (w.heap.push _)[w.heap.size]? = _
    simp
  rw [cell_of_row _ _ _ _ _ fr hg, Nat.zero_add]
  simp [List.getD_eq_getElem?_getD, List.getElem?_eq_getElem hi]
set_option maxRecDepth 100000 in
set_option maxHeartbeats 2000000 in
theorem known19_any (w : World) : Calls Try.prog 12 #[] w fun e w' => e = .returned (.bool true) ∧ Below w.heap.size w w' := by
  have H1 := Lib.hid (fun W => random_any 1 W (by omega) (by omega))
  have H2 := Lib.hid (fun W => h_ask 5 (rndS 1) .zero W (rndS_byt 1) PN.wf_zero rfl (by omega) (by omega))
  have HB0 := Lib.hid (Byt.one (show (0:Int) ≤ 120 ∧ (120:Int) < 256 by omega))
  have HD := Lib.hid (fun W => (show Calls Try.prog 29 #[.int .u64 504403158265495552, .string { data := #[105, 110, 105, 116, 105, 97, 108] }] W _ from rderive_any 504403158265495552 initialB W initialB_byt (by unfold maxLen; simp [initialB]) (by omega) (by omega)))
  have H8 := Lib.hid (fun W => h_first c7N W (by intro x hx; simp [c7N, N8.l] at hx; omega))
  rw [first7] at H8
  generalize keyedS 504403158265495552 initialB = K at *
  have kc := fun (w : World) (C : Array Value) (n c : Nat) => Lib.run_convert_bytes_const (P := Try.prog) w 31 5 C n c Try.underlying31 Try.underlying5
  have hzv : pmV .zero = .agg #[.int .u64 0, .int .u64 0, .int .u64 0, .int .u64 0, .int .u8 0, .int .u8 0, .int .u8 0, .int .u8 0, .int .u8 0, .int .u8 0, .int .u8 0, .int .u8 0] := rfl
  rw [hzv] at H2
  clear hzv
  go_enter Try.func12, Try.ntmps12
  go_wp2_with fail
  refine (H1.out _).mono ?_
  rintro e w1 ⟨rfl, hb1⟩
  go_wp2_with fail
  refine (H2.out _).mono ?_
  rintro e w2 ⟨p, rfl, ⟨O, hm⟩, hb2⟩
  have hb3 := hb1.trans (hb2.mono hb1.size)
  have hOlt := hm.lt
  have ba : Below w2.heap.size w2 (w2.alloc (.cells #[.int .u8 120] 5 (1, 2))) := (Below.refl _ _).alloc (Nat.le_refl _) _
  have hm4 := hm.below ba
  have hb4 := hb3.trans (ba.mono hb3.size)
  have hrow : RdP (w2.alloc (.cells #[.int .u8 120] 5 (1, 2))) (fun b => ¬ O b) (some ⟨w2.heap.size, 0, none⟩) 1 [120] := by
    have h := Rd.litk w2 5 [120] HB0.out #[.int .u8 120] (1, 2) rfl
    exact ⟨h.more (by simp), fun b off _ e => by injection e with e; injection e with e1 e2; subst e1; exact fun h => by have := (hOlt _ h).2; omega⟩
  obtain ⟨w4, hw4⟩ : ∃ W, w2.alloc (.cells #[.int .u8 120] 5 (1, 2)) = W := ⟨_, rfl⟩
  rw [hw4] at hm4 hb4 hrow
  have hm4lt : ∀ j, O j → w.heap.size ≤ j := fun j hj => by have := (hm4.lt j hj).1; have := hb1.size; omega
  have HF := Lib.hid (h_feed hm4 (hs0_ok true 5 (rndS 1) .zero (by omega) (by omega)) 2 _ 1 1 [120] hrow (by omega) (by have := hb2.size; have := ba.size; rw [hw4] at this; omega))
  clear hm ba hm4 hb1 hb2 hb3 hrow hOlt
  go_wp2_with fail
  refine HF.out.mono ?_
  rintro e w5 ⟨rfl, O5, h5, k5, _⟩
  have hb5 := k5.below hb4 hb4.size (by intro j hj; exact (hm4lt j hj))
  have OK5 := feedX_ok (hs0_ok true 5 (rndS 1) .zero (by omega) (by omega)) 2 [120]
  have HO5 := Lib.hid (h_out h5 OK5 0)
  rw [show feedX (hs0 true 5 (rndS 1) .zero) 2 [120] = noHeld (coded X0k 10) from rfl, X0k_out] at HO5
  rw [show (feedX (hs0 true 5 (rndS 1) .zero) 2 [120]).code = 10 from rfl]
  clear h5 k5 OK5 hm4lt
  go_wp2_with fail
  refine HO5.out.mono ?_
  rintro e w6 ⟨v6, rfl, ho6, hb6⟩
  obtain ⟨A6, c6, rfl, s1, s2, s3⟩ := ho6.open_n 21 rfl
  obtain ⟨b6, o6, rfl, hb6l, hc6⟩ := s3.2.2 (by omega)
  have hb7 := hb5.trans (hb6.mono hb5.size)
  have ba7 : Below w6.heap.size w6 (w6.alloc (.cells (N8.zero.l.map (Value.int .u8)).toArray 24)) := (Below.refl _ _).alloc (Nat.le_refl _) _
  have hA7 : At (w6.alloc (.cells (N8.zero.l.map (Value.int .u8)).toArray 24)) w6.heap.size 24 (N8.zero.l.map (Value.int .u8)) := At.new w6 _ _
  have hb8 := hb7.trans (ba7.mono hb7.size)
  have g0 := hc6 0 (by omega)
  have g2' := hc6 2 (by omega)
  have G : ∀ W, Below w6.heap.size w6 W → W.cell? ⟨b6, o6, none⟩ = some (.int .u8 1) ∧ W.cell? ⟨b6, o6 + 2, none⟩ = some (.int .u8 18) := fun W k => ⟨(k.cell (p := ⟨b6, o6, none⟩) hb6l).trans g0, (k.cell (p := ⟨b6, o6 + 2, none⟩) hb6l).trans g2'⟩
  have HG := Lib.hid G
  have HBA := Lib.hid ba7
  have hwg := hb7.size
  clear HO5 ho6 hb6 hc6 g0 g2' G s3 hb5 hb7
  go_wp2_with (first | ((with_reducible refine at_stcid ?_); refine wpList_store_at _ 24 (N8.zero.l.map (Value.int .u8)) (c7N.l.map (Value.int .u8)) (by rfl) (by rfl) hA7 rfl (by rw [show (c7N.l.map (Value.int .u8)).length = 8 from rfl]; exact cid_info) rfl ?_; intro w9 hA9 hk9; have hk9b := hk9.below HBA.out HBA.out.size (by intro j hj; omega); have hb9 := hk9.below hb8 hb8.size (by intro j hj; omega); have ga := (HG.out w9 hk9b).1; have gb := (HG.out w9 hk9b).2; clear hA7 hk9 hk9b) | ((with_reducible refine at_ldcid ?_); refine ld_cidg (by go_simp) _ 0 c7N (by rfl) hA9.rangeAt ?_) | (go_at_call 28; refine (H8.out _).mono ?_; rintro e w10 ⟨rfl, hb10⟩; have hb11 := hb9.trans (hb10.mono hb9.size); clear hb10) | (go_at_call 29; refine (HD.out _).mono ?_; rintro e w12 ⟨rfl, hb12⟩; have hb13 := hb11.trans (hb12.mono hb11.size)) | fail)
  go_ret
  exact ⟨rfl, hb13⟩
end
section
set_option linter.unusedVariables false
open Go.RowKit Go.ChangeShapes Go.WideShapes Go.Deep
theorem run_n8r (d : Nat) (W : World) (m : N8) : (Op.equalIn (d + 2) 24 m.v m.v).run Try.prog W = .ok true W := by
  have hp : Try.prog.plainKey 5 = true := by kernel_rfl
  have hu : Try.prog.underlying 5 = some (.int .u8) := Try.underlying5
  have hc : Try.prog.cellsOf 5 = 1 := by kernel_rfl
  obtain ⟨i, hi⟩ : ∃ i, Try.prog.info? 5 = some i := by
    cases h : Try.prog.info? 5 with
    | some i => exact ⟨i, rfl⟩
    | none => exact absurd (show (Try.prog.info? 5).isSome = true by kernel_rfl) (by rw [h]; simp)
  unfold N8.v
  rw [run_equalIn_array W (d + 1) _ _ (n := 8) Try.underlying24 hi, hc]
  rw [show List.range 8 = [0, 1, 2, 3, 4, 5, 6, 7] from rfl]
  rw [step_items W _ .u8 hp hu d 1 _ _ 0 _ m.a0 m.a0 rfl rfl, if_pos (beq_self_eq_true _)]
  rw [step_items W _ .u8 hp hu d 1 _ _ 1 _ m.a1 m.a1 rfl rfl, if_pos (beq_self_eq_true _)]
  rw [step_items W _ .u8 hp hu d 1 _ _ 2 _ m.a2 m.a2 rfl rfl, if_pos (beq_self_eq_true _)]
  rw [step_items W _ .u8 hp hu d 1 _ _ 3 _ m.a3 m.a3 rfl rfl, if_pos (beq_self_eq_true _)]
  rw [step_items W _ .u8 hp hu d 1 _ _ 4 _ m.a4 m.a4 rfl rfl, if_pos (beq_self_eq_true _)]
  rw [step_items W _ .u8 hp hu d 1 _ _ 5 _ m.a5 m.a5 rfl rfl, if_pos (beq_self_eq_true _)]
  rw [step_items W _ .u8 hp hu d 1 _ _ 6 _ m.a6 m.a6 rfl rfl, if_pos (beq_self_eq_true _)]
  rw [step_items W _ .u8 hp hu d 1 _ _ 7 _ m.a7 m.a7 rfl rfl, if_pos (beq_self_eq_true _)]
  simp [Op.eqItems]
set_option maxRecDepth 100000 in
theorem run_pm (W : World) (p : PN) : (Op.equalIn 10000 26 (pmV p) (pmV p)).run Try.prog W = .ok true W := by
  obtain ⟨i, d, s, m, c⟩ := p
  have h8 : (Op.equalIn 9999 24 c.v c.v).run Try.prog W = .ok true W := run_n8r 9997 W c
  unfold N8.v at h8
  have hs := run_equalIn_struct (P := Try.prog) W 9999 26 (pmL ⟨i, d, s, m, c⟩).toArray (pmL ⟨i, d, s, m, c⟩).toArray (by kernel_rfl) (by kernel_rfl)
  unfold pmV
  rw [show (10000 : Nat) = 9999 + 1 from rfl, hs]
  simp only [Program.fieldsOf, Try.underlying26, Op.eqFields, pmL]
  go_simp
section
variable {ops : Array Oper} {rest : List Oper} {a : Act} {w : World} {Q : Exit → Act → World → Prop}
end
theorem pm_guard : Try.prog.eqGuardType Try.prog.depth 26 = false := by kernel_rfl
end
end Go.Proofs.Ytdakbedohjemeaa
