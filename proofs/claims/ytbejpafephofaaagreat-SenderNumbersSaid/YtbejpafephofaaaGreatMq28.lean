/-
  The document's own Same of two Acks.
-/
import Derived.Test.YtbejpafephofaaaGreatSame
import Derived.IntWalk
import Derived.BigRegion
import Derived.Test.YtbejpafephofaaaGreatMq18
import Derived.Test.YtbejpafephofaaaGreatZv
import Derived.Maps.AppendAt
namespace Go.Proofs.YtbejpafephofaaaGreat
section
set_option linter.unusedVariables false
set_option linter.unusedSimpArgs false
open Go.RowKit
end
section
set_option linter.unusedVariables false
open Go.RowKit
set_option linter.unusedSimpArgs false
theorem rsame_any (P : Nat → Prop) (m m' : FN) (d d' r r' : Sl) (ds ds' : List Int) (rs rs' : RS) (w : World) (hf : Fits w P m d r ds rs) (hf' : Fits w P m' d' r' ds' rs') (hkk : m.k = 0 ∨ m.k = 4 ∨ m.k = 8) :
    Calls Tryz.prog 24 #[frV m d r, frV m' d' r'] w (FrPost (.bool (sameB m m' ds ds' rs rs')) w) := by
  obtain ⟨k, s, o, fin, l, c, f, q, y, c0, c1, c2, c3, c4, c5, c6, c7⟩ := m
  obtain ⟨k', s', o', fin', l', c', f', q', y', c0', c1', c2', c3', c4', c5', c6', c7'⟩ := m'
  by_cases hk : k = k'
  · subst hk
    simp only at hkk
    rcases hkk with rfl | rfl | rfl
    · exact rsame_0 (hf := hf) (hf' := hf')
    · exact rsame_4 (hf := hf) (hf' := hf')
    · exact rsame_8 (hf := hf) (hf' := hf')
  · exact rsame_ne (hf := hf) (hf' := hf') (hk := by simpa [bne] using hk)
end
section
set_option linter.unusedVariables false
set_option linter.unusedSimpArgs false
open Go.RowKit
/-- Both senders, they may be a call apart; a row v that came up since the world Y. -/
def Sv (w0 Y W : World) (q p qm : Nat) (Xp Xd : SS) (G : Nat → Prop) (v : Value) (bs : List Int) : Prop :=
  ∃ O fr dd, Sm w0 W q p Xp (fun b => O b ∨ G b) ∧ Dm w0 W qm O Xd fr dd ∧ I16 Xd fr dd ∧ (∀ b, G b → w0.heap.size ≤ b ∧ ¬ O b) ∧ Own W Y.heap.size 5 v bs ∧ (∀ j, v.ownBlock = some j → ¬ O j) ∧ Y.heap.size ≤ W.heap.size
section
variable {w0 Y W W' : World} {q p qm : Nat} {O : Nat → Prop} {X Xp Xd X' : SS} {fr : List Value} {dd : Bool} {G : Nat → Prop} {v : Value} {bs : List Int}
theorem Tw.sv (h : Tw w0 W q p qm O X fr dd G) : Sv w0 W W q p qm X X G (.slice none 0 0) [] :=
  ⟨O, fr, dd, h.sm, h.dm, h.inv, h.gb, Own.none_ _ _ _, (fun j hj => by cases hj), Nat.le_refl _⟩
theorem Sv.tw (h : Sv w0 Y W q p qm X X G v bs) : ∃ O fr dd, Tw w0 W q p qm O X fr dd G := by
  obtain ⟨O, fr, dd, h1, h2, h3, h4, _⟩ := h
  exact ⟨O, fr, dd, h1, h2, h3, h4⟩
theorem Sv.bl (h : Sv w0 Y W q p qm Xp Xd G v bs) : Below w0.heap.size w0 W := by
  obtain ⟨O, fr, dd, h1, _⟩ := h
  exact h1.bl
theorem Sv.Glt (h : Sv w0 Y W q p qm Xp Xd G v bs) : ∀ b, G b → b < W.heap.size := by
  obtain ⟨O, fr, dd, h1, _⟩ := h
  exact fun b hb => h1.Flt b (.inr hb)
theorem Sv.own (h : Sv w0 Y W q p qm Xp Xd G v bs) : Own W Y.heap.size 5 v bs := by
  obtain ⟨O, fr, dd, h1, h2, h3, h4, h5, _⟩ := h
  exact h5
/-- Blocks came up. -/
theorem Sv.plus {G' : Nat → Prop} (h : Sv w0 Y W q p qm Xp Xd G v bs) (k : Below W.heap.size W W') (hG : ∀ b, G' b → G b ∨ (W.heap.size ≤ b ∧ b < W'.heap.size)) : Sv w0 Y W' q p qm Xp Xd G' v bs := by
  obtain ⟨O, fr, dd, h1, h2, h3, h4, h5, h6, h7⟩ := h
  have hb := h1.bl.size
  refine ⟨O, fr, dd, h1.change (Kept.of_below k _) (fun b hb => hb.elim (fun e => (h2.lt b e).1) fun e => (h4 b e).1) (fun b hb => ?_), h2.below k, h3, fun b hb => ?_, h5.below k (Nat.le_refl _), h6, Nat.le_trans h7 k.size⟩
  · rcases hb with e | e
    · exact .inl (.inl e)
    · exact (hG b e).imp (fun e => .inr e) (fun e => e)
  · rcases hG b hb with e | e
    · exact h4 b e
    · exact ⟨by omega, fun e' => by have := (h2.lt b e').2; omega⟩
/-- A block beside turns. -/
theorem Sv.turn {g : Nat} (h : Sv w0 Y W q p qm Xp Xd G v bs) (hg : G g) (hv : v.ownBlock ≠ some g) (k : Kept (· = g) W W') : Sv w0 Y W' q p qm Xp Xd G v bs := by
  obtain ⟨O, fr, dd, h1, h2, h3, h4, h5, h6, h7⟩ := h
  have hs := h1.other (.inr hg) (h4 g hg).1 k
  exact ⟨O, fr, dd, hs, h2.kept k (fun b hb e => (h4 g hg).2 (e ▸ hb)) hs.bl, h3, h4, h5.kept k fun j hj e => hv (e ▸ hj), h6, Nat.le_trans h7 k.size⟩
theorem sv_prog (h : Sv w0 Y W q p qm X X G v bs) (hL : X.o.bs.length ≤ 700000) (room : Int) (hr2 : room < 9223372036854775808) (more : Nat) (hm : more < 18446744073709551616) :
    Calls Tryz.prog 22 #[.pointer (some ⟨q, 0, none⟩), .int .i64 room, .int .u64 more] W fun e w1 => ∃ L b X' v bs, e = .returned (.tuple #[.agg L.toArray, .bool b]) ∧ NxG X room more L b X' v bs ∧ Sv w0 Y w1 q p qm X' X G v bs ∧ (∀ j, v.ownBlock = some j → W.heap.size ≤ j) ∧ ∀ b, G b → w1.heap[b]? = W.heap[b]? := by
  obtain ⟨O, fr, dd, h1, h2, h3, h4, h5, h6, h7⟩ := h
  refine (sm_next h1 (by omega) room hr2 more hm).mono ?_
  rintro e w1 ⟨L, b, X', v', bs', he, hg, hown, hS, hk, hs⟩
  obtain ⟨k1, k2⟩ := Tw.prog ⟨h1, h2, h3, h4⟩ hS hk hs
  exact ⟨L, b, X', v', bs', he, hg, ⟨O, fr, dd, hS, k1, h3, h4, hown.base_ h7, fun j hj e => by have := (hown.block_lt j hj).1; have := (h2.lt j e).2; omega, Nat.le_trans h7 hs⟩, fun j hj => (hown.block_lt j hj).1, k2⟩
theorem sv_doc (h : Sv w0 Y W q p qm X' X G v bs) (room : Int) (more : Nat) (hm : more < 18446744073709551616) {L : List Value} {b : Bool} (hlim : X.lim < 18446744073709551616) (hg : NxG X room more L b X' v bs) :
    Calls Tryz.prog 23 #[.pointer (some ⟨qm, 0, none⟩), .int .i64 room, .int .u64 more] W fun e w1 => ∃ L2 v2 bs2, e = .returned (.tuple #[.agg L2.toArray, .bool b]) ∧ NxG X room more L2 b X' v2 bs2 ∧ Sv w0 Y w1 q p qm X' X' G v bs ∧ Own w1 W.heap.size 5 v2 bs2 ∧ ∀ b, G b → w1.heap[b]? = W.heap[b]? := by
  obtain ⟨O, fr, dd, h1, h2, h3, h4, h5, h6, h7⟩ := h
  refine (rx_next h2 h3 hlim room more hm).mono ?_
  rintro e w2 ⟨L2, b2, X2, v2, bs2, dd2, he, hg2, hown2, hdd, O', hD, hk, ho⟩
  obtain ⟨rfl, rfl⟩ := hg.det hg2
  obtain ⟨k1, k2⟩ := tw_doc h1 h4 hD hk ho (fun j hj => (h2.lt j hj).1) (by rw [hdd]; exact h3.next h2.ok hg2)
  refine ⟨L2, v2, bs2, he, hg2, ⟨O', fr, dd2, k1.sm, k1.dm, k1.inv, k1.gb, h5.kept hk h6, fun j hj e => ?_, Nat.le_trans h7 hk.size⟩, hown2, k2⟩
  rcases ho j e with h' | h'
  · exact h6 j hj h'
  · have := (h5.block_lt j hj).2; omega
/-- What both told is told alike. -/
theorem nxg_same {room : Int} {more : Nat} {L L2 : List Value} {b : Bool} {v v2 : Value} {bs bs2 : List Int} {B B2 : Nat} (hok : X.ok) (hoo : X.o.ok) (hl : X.o.bs.length ≤ 800000) (h : NxG X room more L b X' v bs) (h2 : NxG X room more L2 b X' v2 bs2) (ho : Own W B 5 v bs) (ho2 : Own W B2 5 v2 bs2) :
    ∃ (m : FN) (d d2 : Sl) (ds : List Int), L = frL m d .nil ∧ L2 = frL m d2 .nil ∧ TurnOk X.id m d ∧ (m.k = 0 ∨ m.k = 4 ∨ m.k = 8) ∧ Fits W (fun _ => True) m d .nil ds [] ∧ Fits W (fun _ => True) m d2 .nil ds [] := by
  have hgn : X.o.gn < 18446744073709551616 := by have := hoo.gl; omega
  rcases h with ⟨rfl, k1, k2, rfl, rfl⟩ | ⟨rfl, k, rfl, rfl⟩ | ⟨rfl, k, rfl, A, c, c1, c2, rfl, rfl, rfl⟩
  · rcases h2 with ⟨_, _, _, rfl, _⟩ | ⟨e, _⟩ | ⟨e, _⟩
    · exact ⟨FN.zero 0, .nil, .nil, [], rfl, rfl, .inl (.inr ⟨by decide, by decide⟩), .inl rfl, ⟨wf_zero 0 (by decide) (by decide), InD.nil_ _ _, InR.nil_ _ _⟩, ⟨wf_zero 0 (by decide) (by decide), InD.nil_ _ _, InR.nil_ _ _⟩⟩
    · cases e
    · cases e
  · rcases h2 with ⟨e, _⟩ | ⟨_, _, rfl, _⟩ | ⟨_, j, _⟩
    · cases e
    · exact ⟨m4 X.id X.code X.o.gn, .nil, .nil, [], rfl, rfl, .inr (.inl ⟨rfl, rfl⟩), .inr (.inl rfl), ⟨m4_wf hok.id hok.code hgn, InD.nil_ _ _, InR.nil_ _ _⟩, ⟨m4_wf hok.id hok.code hgn, InD.nil_ _ _, InR.nil_ _ _⟩⟩
    · have a := k.1; have b := j.1; omega
  · rcases h2 with ⟨e, _⟩ | ⟨_, j, _⟩ | ⟨_, j, _, A2, c3, d1, d2, rfl, rfl, rfl⟩
    · cases e
    · have a := k.1; have b := j.1; omega
    · obtain ⟨q1, q2, q3, q4, q5⟩ := nextR_in hoo (moS room) (lmS X more)
      have hol := hoo.gl
      have hof : (nextR X.o (moS room) (lmS X more)).off + (nextR X.o (moS room) (lmS X more)).n ≤ X.o.bs.length := by omega
      have hlen : ((X.o.bs.drop (nextR X.o (moS room) (lmS X more)).off).take (nextR X.o (moS room) (lmS X more)).n).length = (nextR X.o (moS room) (lmS X more)).n := by
        rw [List.length_take, List.length_drop]; omega
      refine ⟨_, _, _, (X.o.bs.drop (nextR X.o (moS room) (lmS X more)).off).take (nextR X.o (moS room) (lmS X more)).n, rfl, rfl, .inr (.inr ⟨rfl, rfl, ?_, _, rfl, ?_⟩), .inr (.inr rfl), ⟨m8_wf hok.id ?_, ?_, InR.nil_ _ _⟩, ⟨m8_wf hok.id ?_, ?_, InR.nil_ _ _⟩⟩
      · show (nextR X.o (moS room) (lmS X more)).n < _; omega
      · omega
      · omega
      · exact ⟨(ho.rdP hlen).mono fun _ _ _ => trivial, c1, c2, fun e => by subst e; exact ho.nil_cap rfl⟩
      · omega
      · exact ⟨(ho2.rdP hlen).mono fun _ _ _ => trivial, d1, d2, fun e => by subst e; exact ho2.nil_cap rfl⟩
theorem nxg_sameC {room : Int} {more : Nat} {L L2 : List Value} {b : Bool} {v v2 : Value} {bs bs2 : List Int} {B B2 : Nat} (hok : X.ok) (hoo : X.o.ok) (hl : X.o.bs.length ≤ 800000) (h : NxG X room more L b X' v bs) (h2 : NxG X room more L2 b X' v2 bs2) (ho : Own W B 5 v bs) (ho2 : Own W B2 5 v2 bs2) :
    Calls Tryz.prog 24 #[.agg L.toArray, .agg L2.toArray] W (fun e w' => e = .returned (.bool true) ∧ Below W.heap.size W w') ∧ ∃ (m : FN) (d : Sl), L = frL m d .nil ∧ TurnOk X.id m d := by
  obtain ⟨m, d, d2, ds, rfl, rfl, ht, hkk, hf, hf2⟩ := nxg_same hok hoo hl h h2 ho ho2
  refine ⟨?_, m, d, rfl, ht⟩
  have := rsame_any (fun _ => True) m m d d2 .nil .nil ds ds [] [] W hf hf2 hkk
  rw [sameB_refl] at this
  exact this
end
theorem frq_info3 : (Tryz.prog.info? 51).map (fun i => (i.zero, i.size, i.bytes)) = some (some (.agg #[.int .i64 0, .int .u64 0, .int .u64 0, .slice none 0 0, .bool false, .int .u64 0, .int .u64 0, .int .u64 0, .int .u64 0, .int .u64 0, .slice none 0 0,
  .int .u8 0, .int .u8 0, .int .u8 0, .int .u8 0, .int .u8 0, .int .u8 0, .int .u8 0, .int .u8 0]), 19, 128) := by kernel_rfl
theorem qfold_set : ∀ (l : List Value) (k : Nat) (C : Array Value), (l.zipIdx k).foldl (fun cs (x : Value × Nat) => cs.setIfInBounds (0 + x.2) x.1) C = (setFrom C.toList k l).toArray
  | [], k, C => by simp [setFrom]
  | v :: r, k, C => by
    rw [List.zipIdx_cons, List.foldl_cons, qfold_set r (k + 1)]
    simp [setFrom]
theorem qrun_bs1 (w : World) (l : List Value) (hl : l.length = 19) :
    (Instr.buildSlice 29 1 #[(0, .agg l.toArray)]).run Tryz.prog w = .ok (.slice (some ⟨w.heap.size, 0, none⟩) 1 1) (w.alloc (.cells l.toArray 51)) := by
  have hI := frq_info3
  cases hq : Tryz.prog.info? 51 with
  | none => rw [hq] at hI; cases hI
  | some i =>
    rw [hq] at hI
    simp only [Option.map_some, Option.some.injEq, Prod.mk.injEq] at hI
    obtain ⟨hz, hs, _⟩ := hI
    have hf : ∀ C : Array Value, C.size = 19 → Instr.fill (fun i => some (i * 19, 19)) C [(0, .agg l.toArray)] = some l.toArray := by
      intro C hC
      unfold Instr.fill
      simp only [Value.cells, List.size_toArray, hl, hC]
      have := qfold_set l 0 C
      rw [setFrom_all _ _ (by simp [hC, hl])] at this
      simp [Instr.fill]
      rw [← this]
      simp [Array.foldl_toList]
    have hu := Tryz.underlying29
    simp [Instr.buildSlice, run_underlying hu, sizeOf, typeInfo, hq, hs, zeroValue, hz, newRow]
    rw [hf _ (by simp)]
    simp
/-- []Frame{x}, in a region that draws its order. -/
theorem step_bsq {ops : Array Oper} {a : Act} {w : World} {K : Act → World → Prop} {Q : Exit → Act → World → Prop} {E : Prop} {dst : Option Tmp} {x : Operand} {t : TypeId} {pos : String} {after : Array Edge} (l : List Value) (g : Nat) (hg : g = w.heap.size) (hx : a.eval x = .agg l.toArray) (hl : l.length = 19) (h : K (a.put dst (.slice (some ⟨g, 0, none⟩) 1 1)) (w.alloc (.cells l.toArray 51))) :
    if Region.wanted ⟨dst, .buildSlice 29 1 #[(0, x)], t, pos, after, none⟩ (yielded ops a.tmps) = true then Oper.wp Tryz.prog ⟨dst, .buildSlice 29 1 #[(0, x)], t, pos, after, none⟩ a w K Q else E := by
  subst hg
  rw [if_pos (by rfl)]
  unfold Oper.wp
  simp [execOp, hx, qrun_bs1 w l hl, Result.andThen]
  exact h
/-- append(told, x) of one frame, in a region that draws its order. -/
theorem step_append_fq {w : World} {ops : Array Oper} {o : Oper} {a : Act} {K : Act → World → Prop} {Q : Exit → Act → World → Prop} {E : Prop} (hgd : Region.wanted o (yielded ops a.tmps) = true) (s x : Operand)
    (ho : o.op = .call { callee := .builtin .append, args := #[s, x], argTypes := #[29, 29] }) (base : Nat) (v : Value) (L : List (FN × Sl)) (hs : a.eval s = v) (hown : OwnT w base v L) (g c : Nat) (y : FN × Sl)
    (hx : a.eval x = .slice (some ⟨g, 0, none⟩) 1 c) (hcell : At w g 51 (frL y.1 y.2 .nil)) (hl : L.length ≤ 1000000) (hbase : base ≤ w.heap.size)
    (h : ∀ v' w', OwnT w' base v' (L ++ [y]) → w.grownBy w' v.ownBlock → (v'.ownBlock = v.ownBlock ∨ v'.ownBlock = some w.heap.size) → K (a.put o.dst v') w') :
    if Region.wanted o (yielded ops a.tmps) = true then Oper.wp Tryz.prog o a w K Q else E := by
  rw [if_pos hgd]
  have hI := frq_info3
  cases hq : Tryz.prog.info? 51 with
  | none => rw [hq] at hI; cases hI
  | some i =>
    rw [hq] at hI
    simp only [Option.map_some, Option.some.injEq, Prod.mk.injEq] at hI
    obtain ⟨v', w', k1, k2, k3, _, k5⟩ := run_append_own_at (P := Tryz.prog) (w := w) base 29 o.type 51 i _ 19 128 Tryz.underlying29 hq hI.1 hI.2.1 hI.2.2 rfl (by omega) v L.length (tlC L) hown ⟨g, 0, none⟩ 1 c (frL y.1 y.2 .nil) rfl (fun j u hu => by rw [addr_add, Nat.zero_add, hcell.cell, hu]) (fun u hu => by simp [frL] at hu; rcases hu with rfl | rfl | rfl | rfl | rfl | rfl | rfl | rfl | rfl | rfl | rfl | rfl | rfl | rfl | rfl | rfl | rfl | rfl | rfl <;> rfl) (by unfold maxLen; omega) (by omega) hbase
    unfold Oper.wp
    simp [execOp, ho, resolve, invoke, builtin, hs, hx, k1, Result.andThen]
    refine h v' w' ?_ k3 k5
    unfold OwnT
    rw [tlC_app, List.length_append, show tlC [y] = frL y.1 y.2 .nil by simp [tlC]]
    exact k2
section
variable {w0 W W1 : World} {q p qm pw : Nat} {O R : Nat → Prop} {X : SS} {fr : List Value} {dd : Bool} {tv v' : Value} {L : List (FN × Sl)} {y : FN × Sl}
/-- What was told is longer by a frame, and stands in the world. -/
theorem Wo.told (h : Wo R w0 W q p qm pw O X fr dd tv L) (ho : OwnT W1 w0.heap.size v' (L ++ [y])) (hg : W.grownBy W1 tv.ownBlock) (hv : v'.ownBlock = tv.ownBlock ∨ v'.ownBlock = some W.heap.size) (hy : TurnOk X.id y.1 y.2) :
    Wo R w0 (W1.setCell ⟨pw, 2, none⟩ v') q p qm pw O X fr dd v' (L ++ [y]) ∧ ∀ b, R b → (W1.setCell ⟨pw, 2, none⟩ v').heap[b]? = W.heap[b]? := by
  have k1 : Kept (fun j => tv.ownBlock = some j) W W1 := Kept.of_grown hg (fun k hk => .inl hk)
  have k2 : Kept (· = pw) W1 (W1.setCell ⟨pw, 2, none⟩ v') := (Kept.refl _ _).setAt 2 v'
  have kk : Kept (fun j => tv.ownBlock = some j ∨ j = pw) W (W1.setCell ⟨pw, 2, none⟩ v') := (k1.mono fun j hj => .inl (.inl hj)).trans (k2.mono fun j hj => .inl (.inr hj))
  have nv : ∀ j, v'.ownBlock = some j → tv.ownBlock = some j ∨ j = W.heap.size := fun j hj => by
    rcases hv with e | e
    · exact .inl (e ▸ hj)
    · rw [e] at hj; injection hj with hj; exact .inr hj.symm
  have hpw := h.at_.lt
  have hp1 : ¬ tv.ownBlock = some pw := fun e => h.pwn pw e rfl
  have hw0 := h.tw.bl.size
  have hsm : Sm w0 (W1.setCell ⟨pw, 2, none⟩ v') q p X (fun b => O b ∨ (b = pw ∨ v'.ownBlock = some b ∨ R b)) := h.tw.sm.change (kk.mono fun j hj => .inl (hj.elim (fun e => .inr (.inr (.inl e))) fun e => .inr (.inl e))) (fun b hb => hb.elim (fun e => (h.tw.dm.lt b e).1) fun e => (h.tw.gb b e).1) fun b hb => by
    rcases hb with hb | rfl | hb | hb
    · exact .inl (.inl hb)
    · exact .inl (.inr (.inl rfl))
    · rcases nv b hb with e | e
      · exact .inl (.inr (.inr (.inl e)))
      · have := (ho.block_lt b hb).2
        have := k2.size
        exact .inr ⟨by omega, by omega⟩
    · exact .inl (.inr (.inr (.inr hb)))
  refine ⟨⟨⟨hsm, h.tw.dm.kept kk (fun b hb e => ?_) hsm.bl, h.tw.inv, fun b hb => ?_⟩, (h.at_.kept k1 hp1).set 2 v', ho.keep fun j hj => k2.block j (ho.block_lt j hj).2 fun e => ?_, fun x hx => ?_, fun b hb e => ?_, fun b hb => ⟨(h.rn b hb).1, fun e => ?_⟩⟩, fun b hb => kk.block b (h.tw.Glt b (.inr (.inr hb))) fun e => e.elim (h.rn b hb).2 (h.rn b hb).1⟩
  · rcases e with e | e
    · exact (h.tw.gb b (.inr (.inl e))).2 hb
    · exact (h.tw.gb b (.inl e)).2 hb
  · rcases hb with rfl | hb | hb
    · exact h.tw.gb b (.inl rfl)
    · rcases nv b hb with e | e
      · exact h.tw.gb b (.inr (.inl e))
      · exact ⟨by omega, fun e' => by have := (h.tw.dm.lt b e').2; omega⟩
    · exact h.tw.gb b (.inr (.inr hb))
  · rcases nv j hj with e' | e'
    · exact h.pwn j e' e
    · omega
  · rcases List.mem_append.1 hx with e | e
    · exact h.ok x e
    · rw [List.mem_singleton] at e
      rw [e]; exact hy
  · rcases nv b hb with e' | e'
    · exact h.pwn b e' e
    · omega
  · rcases nv b e with e' | e'
    · exact (h.rn b hb).2 e'
    · have := h.tw.Glt b (.inr (.inr hb)); omega
end
end
end Go.Proofs.YtbejpafephofaaaGreat
