/-
  The document's sender: Next.
-/
import Derived.Test.YtbejpafephofaaaGreatZn
import Derived.Test.YtbejpafephofaaaGreatMq23
import Derived.Test.YtbejpafephofaaaGreatFqo
import Derived.Test.YtbejpafephofaaaGreatMq21
namespace Go.Proofs.YtbejpafephofaaaGreat
set_option linter.unusedVariables false
set_option linter.unusedSimpArgs false
open Go.RowKit
/-- Where all is acknowledged nothing is told. -/
theorem next_whole {S : OS} (h : S.ok) (hw : wholeO S = true) (most limit : Nat) : (nextR S most limit).yes = false := by
  unfold wholeO at hw
  simp only [Bool.and_eq_true, decide_eq_true_eq] at hw
  obtain ⟨⟨_, hb⟩, he⟩ := hw
  obtain ⟨k1, _, k3, k4, k5⟩ := nextR_in h most limit
  cases hy : (nextR S most limit).yes with
  | false => rfl
  | true =>
    rcases Nat.eq_zero_or_pos (nextR S most limit).n with e | e
    · have := (k3 (k5 hy e)).2.1
      unfold endO at this
      rw [he] at this
      simp at this
    · have := nextR_new h most limit (nextR S most limit).off (Nat.le_refl _) (by omega)
      have hj : (nextR S most limit).off < baseO S := by rw [hb]; omega
      have h2 := runF_all S.ak S.bs.length 0 (nextR S most limit).off hj
      rw [Nat.zero_add, this] at h2
      cases h2
/-- What the document's Next leaves: the frame's cells L, yes. -/
def RxPost (w0 W : World) (q : Nat) (O : Nat → Prop) (X : SS) (room : Int) (more : Nat) (fr : List Value) (dd : Bool) (e : Ending) (W' : World) : Prop :=
  ∃ L b X' v bs dd', e = .returned (.tuple #[.agg L.toArray, .bool b]) ∧ NxG X room more L b X' v bs ∧ Own W' W.heap.size 5 v bs ∧ (dd' = if X.st = 5 ∧ b = true then false else dd) ∧
    ∃ O', Dm w0 W' q O' X' fr dd' ∧ Kept O W W' ∧ ∀ j, O' j → O j ∨ W.heap.size ≤ j
section
variable {w0 W W' : World} {q : Nat} {O : Nat → Prop} {X X' : SS} {fr : List Value} {dd : Bool}
/-- A block of another's is turned: the frame's own. -/
theorem rx_fin {W1 W5 W6 W9 : World} {O5 : Nat → Prop} {X6 : SS} {fr6 : List Value} {dd6 : Bool} {v : Value} {bs : List Int} (h : Dm w0 W q O X fr dd) (k1 : Below W.heap.size W W1) (hg : W.heap.size < W1.heap.size) (k5 : Kept O W1 W5) (o5 : ∀ j, O5 j → O j ∨ W1.heap.size ≤ j)
    (own5 : Own W5 W1.heap.size 5 v bs) (h6 : Dm w0 W6 q O5 X6 fr6 dd6) (k6 : Kept (· = q) W5 W6) (k9 : Kept (· = W.heap.size) W6 W9) :
    Own W9 W.heap.size 5 v bs ∧ ∃ O', Dm w0 W9 q O' X6 fr6 dd6 ∧ Kept O W W9 ∧ ∀ j, O' j → O j ∨ W.heap.size ≤ j := by
  have hq := h.lt q h.Oq
  have hOg : ∀ j, O5 j → j ≠ W.heap.size := fun j hj e => by
    rcases o5 j hj with h' | h'
    · have := (h.lt j h').2; omega
    · omega
  have s5 := k5.size
  have s6 := k6.size
  have hb6 := h6.bl
  refine ⟨((own5.kept k6 fun j hj e => ?_).kept k9 fun j hj e => ?_).base_ (by omega), O5, h6.kept k9 (fun b hb e => hOg b hb e) (k9.belowO hb6 fun j hj => by rw [hj]; exact h.bl.size), ?_, fun j hj => (o5 j hj).imp (fun x => x) fun x => by omega⟩
  · have := (own5.block_lt j hj).1
    omega
  · have := (own5.block_lt j hj).1
    omega
  · refine (((Kept.of_below k1 O).trans k5).trans' k6 fun j hj => .inl (by rw [hj]; exact h.Oq)).trans' k9 fun j hj => .inr (by omega)

set_option maxRecDepth 100000 in
set_option maxHeartbeats 8000000 in
theorem rx_none5 (h : Dm w0 W q O X fr dd) (hst : 5 ≤ X.st) (hdd : dd = false) (room : Int) (more : Nat) (h1 : ¬ nxB X room more) (h2 : ¬ nxR X room) : Calls Tryz.prog 23 #[.pointer (some ⟨q, 0, none⟩), .int .i64 room, .int .u64 more] W (RxPost w0 W q O X room more fr dd) := by
  obtain ⟨W1, hW1, hA1, hB1⟩ := fz_box W
  have h1 := h.below hB1
  have c2 := h1.c2
  have HA1 := Lib.hid hA1
  have HB1 := Lib.hid hB1
  have hlt1 : W.heap.size < W1.heap.size := hA1.lt
  have HFX := Lib.hid (fun (W1 W5 W6 W9 : World) (O5 : Nat → Prop) (X6 : SS) (fr6 : List Value) (dd6 : Bool) (v : Value) (bs : List Int) a b c d e f g i => rx_fin (W1 := W1) (W5 := W5) (W6 := W6) (W9 := W9) (O5 := O5) (X6 := X6) (fr6 := fr6) (dd6 := dd6) (v := v) (bs := bs) h a b c d e f g i)
  obtain ⟨rm, hrm⟩ : ∃ rm : Int, rm = min room 512 := ⟨_, rfl⟩
  have M3 : (if (512 : Int) < room then (512 : Int) else room) = rm := by rw [hrm]; split <;> omega
  have c30 := h1.c30
  rw [hdd] at c30
  have hz : (5 : Int) ≤ (X.st : Int) := by omega
  have HX := Lib.hid h1
  clear h h1 hA1 hB1 hst hrm hdd
  go_enter Tryz.func23, Tryz.ntmps23
  go_wp2_with (first | ((with_reducible refine at_st (x := .tmp 6) ?_); refine st_at _ _ (frL (FN.zero 0) .nil .nil) (by rfl) (by rfl) HA1.out (by rfl) (by rfl) (by rfl) ?_; intro w9 hA9 hk9; skip) | fail)
  refine bodyPost_ret (results_cell_tmp 6 7 51 (by rfl) _ 51 _ _ _ (by rfl) (by rfl) hA9 Tryz.underlying51 rfl fr_info) rfl ?_
  obtain ⟨z1, z2⟩ := HFX.out W1 W1 W1 w9 O X fr dd (.slice none 0 0) [] HB1.out HA1.out.lt (Kept.refl _ _) (fun j hj => .inl hj) (Own.none_ _ _ _) HX.out (Kept.refl _ _) hk9
  exact ⟨_, false, X, .slice none 0 0, [], dd, rfl, .inl ⟨rfl, ‹¬ nxB X room more›, ‹¬ nxR X room›, rfl, rfl⟩, z1, by simp, z2⟩
set_option maxRecDepth 100000 in
set_option maxHeartbeats 8000000 in
theorem rx_none4 (h : Dm w0 W q O X fr dd) (hst : X.st ≤ 4) (room : Int) (hr : room < 20) (more : Nat) (h1 : ¬ nxB X room more) (h2 : ¬ nxR X room) : Calls Tryz.prog 23 #[.pointer (some ⟨q, 0, none⟩), .int .i64 room, .int .u64 more] W (RxPost w0 W q O X room more fr dd) := by
  obtain ⟨W1, hW1, hA1, hB1⟩ := fz_box W
  have h1 := h.below hB1
  have c2 := h1.c2
  have HA1 := Lib.hid hA1
  have HB1 := Lib.hid hB1
  have hlt1 : W.heap.size < W1.heap.size := hA1.lt
  have HFX := Lib.hid (fun (W1 W5 W6 W9 : World) (O5 : Nat → Prop) (X6 : SS) (fr6 : List Value) (dd6 : Bool) (v : Value) (bs : List Int) a b c d e f g i => rx_fin (W1 := W1) (W5 := W5) (W6 := W6) (W9 := W9) (O5 := O5) (X6 := X6) (fr6 := fr6) (dd6 := dd6) (v := v) (bs := bs) h a b c d e f g i)
  obtain ⟨rm, hrm⟩ : ∃ rm : Int, rm = min room 512 := ⟨_, rfl⟩
  have M3 : (if (512 : Int) < room then (512 : Int) else room) = rm := by rw [hrm]; split <;> omega
  have hz : ¬ (5 : Int) ≤ (X.st : Int) := by omega
  have hz2 : rm < 20 := by omega
  have HX := Lib.hid h1
  clear h h1 hA1 hB1 hst hrm
  go_enter Tryz.func23, Tryz.ntmps23
  go_wp2_with (first | ((with_reducible refine at_st (x := .tmp 6) ?_); refine st_at _ _ (frL (FN.zero 0) .nil .nil) (by rfl) (by rfl) HA1.out (by rfl) (by rfl) (by rfl) ?_; intro w9 hA9 hk9; skip) | fail)
  refine bodyPost_ret (results_cell_tmp 6 7 51 (by rfl) _ 51 _ _ _ (by rfl) (by rfl) hA9 Tryz.underlying51 rfl fr_info) rfl ?_
  obtain ⟨z1, z2⟩ := HFX.out W1 W1 W1 w9 O X fr dd (.slice none 0 0) [] HB1.out HA1.out.lt (Kept.refl _ _) (fun j hj => .inl hj) (Own.none_ _ _ _) HX.out (Kept.refl _ _) hk9
  exact ⟨_, false, X, .slice none 0 0, [], dd, rfl, .inl ⟨rfl, ‹¬ nxB X room more›, ‹¬ nxR X room›, rfl, rfl⟩, z1, by simp, z2⟩
set_option maxRecDepth 100000 in
set_option maxHeartbeats 8000000 in
theorem rx_reset (h : Dm w0 W q O X fr true) (hst : X.st = 5) (hfr : fr = frL (m4 X.id X.code X.o.gn) .nil .nil) (hid : X.id ≤ 1000) (hcode : X.code ≤ 4611686018427387903) (hdd : dd = true) (hdue : X.due = true) (room : Int) (more : Nat) : Calls Tryz.prog 23 #[.pointer (some ⟨q, 0, none⟩), .int .i64 room, .int .u64 more] W (RxPost w0 W q O X room more fr dd) := by
  subst hdd
  obtain ⟨W1, hW1, hA1, hB1⟩ := fz_box W
  have h1 := h.below hB1
  have c2 := h1.c2
  have HA1 := Lib.hid hA1
  have HB1 := Lib.hid hB1
  have hlt1 : W.heap.size < W1.heap.size := hA1.lt
  have HFX := Lib.hid (fun (W1 W5 W6 W9 : World) (O5 : Nat → Prop) (X6 : SS) (fr6 : List Value) (dd6 : Bool) (v : Value) (bs : List Int) a b c d e f g i => rx_fin (W1 := W1) (W5 := W5) (W6 := W6) (W9 := W9) (O5 := O5) (X6 := X6) (fr6 := fr6) (dd6 := dd6) (v := v) (bs := bs) h a b c d e f g i)
  obtain ⟨rm, hrm⟩ : ∃ rm : Int, rm = min room 512 := ⟨_, rfl⟩
  have M3 : (if (512 : Int) < room then (512 : Int) else room) = rm := by rw [hrm]; split <;> omega
  have c30 := h1.c30
  have hgn : X.o.gn ≤ 800000 := by have := h.ok.gl; have := h.le; omega
  have hright : rightB (m4 X.id X.code X.o.gn) [] [] = true := by
    have := rightB_4 X.id 0 0 X.code X.o.gn 0 0 0 0 0 0 0 0 0 0 false [] [] 0 rfl (by omega) (by decide) (by decide) (by omega) (by omega) (by decide) (by decide)
    rw [show m4 X.id X.code X.o.gn = ⟨4, X.id, 0, false, 0, X.code, X.o.gn, 0, 0, 0, 0, 0, 0, 0, 0, 0, 0⟩ from rfl, this]
    have h1 : ((X.code : Nat) : Int) ≤ 4611686018427387903 := by omega
    have h2 : ((X.o.gn : Nat) : Int) ≤ 1099511627776 := by omega
    have h3 : ((X.id : Nat) : Int) ≤ 4611686018427387903 := by omega
    simp [smL, h1, h2, h3]
  have hzs : zsR X = ((oneS (m4 X.id X.code X.o.gn) [] []).length : Int) := by unfold zsR sizeF; rw [if_pos hright]
  have hz32 := zsR_32 X
  have HON := Lib.hid (fun (W2 : World) => rone_4 (fun _ => True) X.id 0 0 X.code X.o.gn 0 0 0 0 0 0 0 0 0 0 false none 0 0 none 0 0 [] [] W2 ⟨m4_wf (by omega) (by omega) (by omega), InD.nil_ _ _, InR.nil_ _ _⟩ hright)
  obtain ⟨LF, hLF⟩ : ∃ LF, frL (m4 X.id X.code X.o.gn) .nil .nil = LF := ⟨_, rfl⟩
  have HFl : Hid (LF.length = 19) := Lib.hid (by rw [← hLF]; rfl)
  have HFo : Hid (LF.all (·.oneCell') = true) := Lib.hid (by rw [← hLF]; rfl)
  obtain ⟨on, hon⟩ : ∃ on : Nat, (oneS (m4 X.id X.code X.o.gn) [] []).length = on := ⟨_, rfl⟩
  have HONE : Hid (∀ W2, Calls Tryz.prog 46 #[.agg LF.toArray] W2 fun e w' => ∃ (A : Option Addr) (c : Nat), e = .returned (.slice A on c) ∧ Below W2.heap.size W2 w') := Lib.hid (fun W2 => by
    rw [← hLF]
    exact (HON.out W2).mono fun e w' ⟨A, n, c, he, hl, _, _, hB⟩ => ⟨A, c, by rw [he, ← hl, ← hon]; rfl, hB⟩)
  rw [hon] at hzs
  have hz : (5 : Int) ≤ (X.st : Int) := by omega
  have hfr11 := h1.fr_
  rw [hfr, hLF] at hfr11
  have HX := Lib.hid h1
  have HLF := Lib.hid hLF
  have HFR := Lib.hid hfr11
  have HNB : Hid (¬ nxB X room more) := Lib.hid (fun k => by have := k.1; omega)
  have hfit : (on : Int) ≤ rm ↔ zsR X ≤ room := by rw [hzs, hrm]; omega
  have HST := Lib.hid hst
  have HSET := fun (w10 : World) (h10 : Dm w0 w10 q O X fr true) => (show Dm w0 (w10.setCell ⟨q, 30, none⟩ (.bool false)) q O { X with due := false } fr false from
    h10.outs (X' := { X with due := false }) (dd' := false) ((Kept.refl _ w10).setAt 30 (.bool false)) rfl h10.fl fun L hL hl => ⟨_, hL.set 30 _, by rw [List.length_set]; exact hl, fun j h1 h2 => by rw [List.getElem?_set_ne (by omega)], fun e => by rw [List.getElem?_set_ne (by decide)]; exact e, fun e => by rw [List.getElem?_set_ne (by decide)]; exact e,
      fun e => by rw [List.getElem?_set_ne (by decide)]; exact e, fun e j v hv => by
        have hj := (List.getElem?_eq_some_iff.1 hv).1
        have := h10.fl
        rw [List.getElem?_set_ne (by omega)]
        exact e j v hv, fun e => by rw [List.getElem?_set_self (by omega)]⟩)
  have hqW := (h.lt q h.Oq).2
  have HD0 := Lib.hid (fun (w10 : World) (hb : Below W1.heap.size W1 w10) => (show Dm w0 w10 q O X fr true ∧ At w10 W.heap.size 51 (frL (FN.zero 0) .nil .nil) ∧ w10.cell? ⟨q, 30, none⟩ = some (.bool true) ∧ w10.frozen? ⟨q, 30, none⟩ = false ∧
      (w10.setCell ⟨q, 30, none⟩ (.bool false)).rangeAt q 11 LF ∧ At (w10.setCell ⟨q, 30, none⟩ (.bool false)) W.heap.size 51 (frL (FN.zero 0) .nil .nil) ∧ Dm w0 (w10.setCell ⟨q, 30, none⟩ (.bool false)) q O { X with due := false } fr false from
    ⟨h1.below hb, hA1.below hb hA1.lt, (h1.below hb).c30, (h1.below hb).frozen 30, fun j v hv => (HSET w10 (h1.below hb)).fr_ j v (by rw [hfr, hLF]; exact hv), (hA1.below hb hA1.lt).set_other (q := ⟨q, 30, none⟩) (fun e => by have e' : q = W.heap.size := e; omega) _, HSET w10 (h1.below hb)⟩))
  clear HSET hqW
  clear hzs hz32 hright hgn h h1 hA1 hB1 hst hfr hLF hon HON hid hcode hfr11
  by_cases hfits : (on : Int) ≤ rm
  · have HNR : Hid (nxR X room) := Lib.hid ⟨HST.out, hdue, hfit.1 hfits⟩
    clear hfit hrm hdue
    go_enter Tryz.func23, Tryz.ntmps23
    go_wp2_with (first | ((with_reducible refine at_ld ?_); refine ld_fr_o q 11 LF (by rfl) (by rfl) HFR.out HFl.out ?_) | (go_at_call 46; (with_reducible refine (HONE.out _).mono ?_); rintro e w10 ⟨oA, oc, rfl, hb10⟩; have hd := HD0.out w10 hb10; have x30 := hd.2.2.1; have f30 := hd.2.2.2.1; have HDD := Lib.hid hd; have HB10 := Lib.hid hb10; clear hd hb10) | ((with_reducible refine at_ld ?_); refine ld_fr_o q 11 LF (by rfl) (by rfl) HDD.out.2.2.2.2.1 HFl.out ?_) | ((with_reducible refine at_st (x := .tmp 6) ?_); refine st_at _ _ LF (by rfl) (by rfl) HDD.out.2.2.2.2.2.1 (by rfl) HFl.out HFo.out ?_; intro w9 hA9 hk9; skip) | fail)
    refine bodyPost_ret (results_cell_tmp 6 7 51 (by rfl) _ 51 _ _ _ (by rfl) (by rfl) hA9 Tryz.underlying51 rfl (by rw [HFl.out]; exact fr_info)) rfl ?_
    have hb := HB1.out.trans (HB10.out.mono HB1.out.size)
    obtain ⟨z1, z2⟩ := HFX.out w10 w10 _ w9 O { X with due := false } fr false (.slice none 0 0) [] hb (Nat.lt_of_lt_of_le HA1.out.lt HB10.out.size) (Kept.refl _ _) (fun j hj => .inl hj) (Own.none_ _ _ _) HDD.out.2.2.2.2.2.2 ((Kept.refl _ _).setAt 30 _) hk9
    exact ⟨LF, true, _, .slice none 0 0, [], false, rfl, .inr (.inl ⟨rfl, HNR.out, HLF.out.symm, rfl⟩), z1, by rw [if_pos ⟨HST.out, rfl⟩], z2⟩
  · have HNR : Hid (¬ nxR X room) := Lib.hid (fun k => hfits (hfit.2 k.2.2))
    clear hfit hrm hdue
    go_enter Tryz.func23, Tryz.ntmps23
    go_wp2_with (first | ((with_reducible refine at_ld ?_); refine ld_fr_o q 11 LF (by rfl) (by rfl) HFR.out HFl.out ?_) | (go_at_call 46; (with_reducible refine (HONE.out _).mono ?_); rintro e w10 ⟨oA, oc, rfl, hb10⟩; have hd := HD0.out w10 hb10; have x30 := hd.2.2.1; have f30 := hd.2.2.2.1; have HDD := Lib.hid hd; have HB10 := Lib.hid hb10; clear hd hb10) | ((with_reducible refine at_st (x := .tmp 6) ?_); refine st_at _ _ (frL (FN.zero 0) .nil .nil) (by rfl) (by rfl) HDD.out.2.1 (by rfl) (by rfl) (by rfl) ?_; intro w9 hA9 hk9; skip) | fail)
    refine bodyPost_ret (results_cell_tmp 6 7 51 (by rfl) _ 51 _ _ _ (by rfl) (by rfl) hA9 Tryz.underlying51 rfl fr_info) rfl ?_
    have hb := HB1.out.trans (HB10.out.mono HB1.out.size)
    obtain ⟨z1, z2⟩ := HFX.out w10 w10 w10 w9 O X fr true (.slice none 0 0) [] hb (Nat.lt_of_lt_of_le HA1.out.lt HB10.out.size) (Kept.refl _ _) (fun j hj => .inl hj) (Own.none_ _ _ _) HDD.out.1 (Kept.refl _ _) hk9
    exact ⟨_, false, X, .slice none 0 0, [], true, rfl, .inl ⟨rfl, HNB.out, HNR.out, rfl, rfl⟩, z1, by simp, z2⟩
set_option maxRecDepth 100000 in
set_option maxHeartbeats 8000000 in
theorem rx_bytes (h : Dm w0 W q O X fr dd) (hst : X.st ≤ 4) (hst0 : 1 ≤ X.st) (hw4 : X.st = 4 → wholeO X.o = true) (hlim : X.lim < 18446744073709551616) (room : Int) (hr : 20 ≤ room) (more : Nat) (hm : more < 18446744073709551616) : Calls Tryz.prog 23 #[.pointer (some ⟨q, 0, none⟩), .int .i64 room, .int .u64 more] W (RxPost w0 W q O X room more fr dd) := by
  obtain ⟨W1, hW1, hA1, hB1⟩ := fz_box W
  have h1 := h.below hB1
  have c2 := h1.c2
  have HA1 := Lib.hid hA1
  have HB1 := Lib.hid hB1
  have hlt1 : W.heap.size < W1.heap.size := hA1.lt
  have HFX := Lib.hid (fun (W1 W5 W6 W9 : World) (O5 : Nat → Prop) (X6 : SS) (fr6 : List Value) (dd6 : Bool) (v : Value) (bs : List Int) a b c d e f g i => rx_fin (W1 := W1) (W5 := W5) (W6 := W6) (W9 := W9) (O5 := O5) (X6 := X6) (fr6 := fr6) (dd6 := dd6) (v := v) (bs := bs) h a b c d e f g i)
  obtain ⟨rm, hrm⟩ : ∃ rm : Int, rm = min room 512 := ⟨_, rfl⟩
  have M3 : (if (512 : Int) < room then (512 : Int) else room) = rm := by rw [hrm]; split <;> omega
  have hgl := h.ok.gl
  have hok := h.ok
  have hle := h.le
  have hBs := h.bl.size
  have k := nextR_in hok (moS room) (lmS X more)
  obtain ⟨mm, hmm⟩ : ∃ mm, mm = min more 1099511627776 := ⟨_, rfl⟩
  have M1 : (if (1099511627776 : Int) < (more : Int) then (1099511627776 : Int) else (more : Int)) = (mm : Int) := by rw [hmm]; split <;> omega
  obtain ⟨sm, hsm⟩ : ∃ sm, sm = X.o.gn + mm := ⟨_, rfl⟩
  have zsm : (X.o.gn : Int) + (mm : Int) = (sm : Int) := by omega
  have hsm8 : sm < 18446744073709551616 := by omega
  have wsm : IntKind.u64.wrap (sm : Int) = (sm : Int) := by rw [IntKind.wrap_u64]; omega
  have wgn : IntKind.u64.wrap (X.o.gn : Int) = (X.o.gn : Int) := by rw [IntKind.wrap_u64]; omega
  obtain ⟨lm, hlm⟩ : ∃ lm, lm = lmS X more := ⟨_, rfl⟩
  have M2 : (if sm < X.lim then (sm : Int) else (X.lim : Int)) = (lm : Int) := by rw [hlm, hsm, hmm]; unfold lmS; split <;> omega
  obtain ⟨most, hmost⟩ : ∃ most, most = moS room := ⟨_, rfl⟩
  have zrm : rm - 20 = (most : Int) := by rw [hmost, hrm]; unfold moS; omega
  have hmb : most ≤ 492 := by rw [hmost]; unfold moS; omega
  have wmo : IntKind.i64.wrap (most : Int) = (most : Int) := by rw [IntKind.wrap_i64]; omega
  have hl8 : lm < 18446744073709551616 := by rw [hlm]; unfold lmS; omega
  have hz : ¬ (5 : Int) ≤ (X.st : Int) := by omega
  have hz2 : ¬ rm < 20 := by omega
  have HNR : Hid (¬ nxR X room) := Lib.hid (fun k => by have := k.1; omega)
  have HBY : Hid (nxB X room more ↔ X.st ≤ 3 ∧ (nextR X.o most lm).yes = true) := Lib.hid (by rw [hmost, hlm]; exact ⟨fun k => ⟨k.1, k.2.2⟩, fun k => ⟨k.1, hr, k.2⟩⟩)
  have HX3 : Hid (nextX X (moS room) (lmS X more) = { X with st := stS X.st (nextR X.o most lm).fin, o := nextO X.o most lm }) := Lib.hid (by rw [hmost, hlm]; rfl)
  have HNG : Hid (∀ L b X' v bs, (∃ A c, (nextR X.o most lm).n ≤ c ∧ c ≤ maxLen ∧ v = .slice A (nextR X.o most lm).n c ∧ L = frL (m8 X.id (nextR X.o most lm).off (nextR X.o most lm).fin) ⟨A, (nextR X.o most lm).n, c⟩ .nil ∧ bs = (X.o.bs.drop (nextR X.o most lm).off).take (nextR X.o most lm).n) → b = true → nxB X room more → X' = { X with st := stS X.st (nextR X.o most lm).fin, o := nextO X.o most lm } → NxG X room more L b X' v bs) := Lib.hid (by
    rw [hmost, hlm]
    exact fun L b X' v bs h1 h2 h3 h4 => .inr (.inr ⟨h2, h3, h4, h1⟩))
  have H4Y : Hid (X.st = 4 → (nextR X.o most lm).yes = false) := Lib.hid (fun e => next_whole hok (hw4 e) most lm)
  rw [← hlm, ← hmost] at k
  have HNONE := Lib.hid (fun hn => nextO_none hok (most := most) (limit := lm) hn)
  have HNX := Lib.hid (fun (W2 : World) (h2 : Dm w0 W2 q O X fr dd) => (show Calls Tryz.prog 47 #[.pointer (some ⟨q, 3, none⟩), .int .i64 most, .int .u64 lm] W2 fun e w5 => ∃ (A5 : Option Addr) (c5 : Nat), e = .returned (.tuple #[.int .u64 (nextR X.o most lm).off, .slice A5 (nextR X.o most lm).n c5, .bool (nextR X.o most lm).fin, .bool (nextR X.o most lm).yes]) ∧ (nextR X.o most lm).n ≤ c5 ∧ c5 ≤ maxLen ∧ Own w5 W2.heap.size 5 (.slice A5 (nextR X.o most lm).n c5) ((X.o.bs.drop (nextR X.o most lm).off).take (nextR X.o most lm).n) ∧
      ∃ O', Dm w0 w5 q O' { X with o := nextO X.o most lm } fr dd ∧ Kept O W2 w5 ∧ ∀ j, O' j → O j ∨ W2.heap.size ≤ j by
    obtain ⟨L, hrs, hl, h0, h1', h2', hf, h30⟩ := h2.ex
    have hB2 : w0.heap.size ≤ W2.heap.size := h2.bl.size
    refine (rnext_any hrs hok hB2 (by omega) (most : Int) (by omega) lm hl8).mono fun e w5 ⟨v, he, ho, L', O', q1, q2, q3, q4⟩ => ?_
    rw [show ((most : Nat) : Int).toNat = most by omega] at he ho q1
    have hlen : ((X.o.bs.drop (nextR X.o most lm).off).take (nextR X.o most lm).n).length = (nextR X.o most lm).n := by rw [List.length_take, List.length_drop]; omega
    obtain ⟨A5, c5, e1, y1, y2, _⟩ := ho.open_n _ hlen
    rw [e1] at he ho
    have hrg : ∀ j, rgO q 3 L j → O j := fun j hj => by
      obtain ⟨vb, va, vg, C, A, rfl, hr, _⟩ := hrs
      rcases hj with rfl | ⟨u, hu, hj⟩
      · exact rqO_at (i := 0) rfl
      · have e5 : L[3 + 2]? = some vg := hr.cl 2 _ rfl
        rw [e5] at hu
        injection hu with hu
        exact rqO_at (i := 3) (by rw [hu, ← hj]; rfl)
    have q3' : Kept O W2 w5 := q3.mono fun j hj => .inl (hrg j hj)
    exact ⟨A5, c5, he, y1, y2, ho, O', ⟨nextO_ok hok _ _, ⟨L', q1, by rw [q2.len]; exact hl, by rw [q2.out 0 (.inl (by omega))]; exact h0, by rw [q2.out 1 (.inl (by omega))]; exact h1', by rw [q2.out 2 (.inl (by omega))]; exact h2', fun j v hv => by rw [q2.out (11 + j) (.inr (by omega))]; exact hf j v hv, by rw [q2.out 30 (.inr (by omega))]; exact h30⟩, h2.fl, q3'.belowO h2.bl fun j hj => (h2.lt j hj).1, hle⟩, q3', q4⟩))
  have HAT := Lib.hid (fun (W2 w5 : World) (ha : At W2 W.heap.size 51 (frL (FN.zero 0) .nil .nil)) (hk : Kept O W2 w5) => (show At w5 W.heap.size 51 (frL (FN.zero 0) .nil .nil) from ha.kept hk (fun e => by have := (h.lt _ e).2; omega)))
  have hqW := (h.lt q h.Oq).2
  have HQN : Hid (q ≠ W.heap.size) := Lib.hid (by omega)
  have hlt5 := h.ok
  have c1 := h1.c1
  have c6 := h1.c6
  have HX1 := Lib.hid h1
  obtain ⟨r, hR⟩ : ∃ r, nextR X.o most lm = r := ⟨_, rfl⟩
  obtain ⟨O', hO'⟩ : ∃ O', nextO X.o most lm = O' := ⟨_, rfl⟩
  rw [hR] at k HNX HBY HX3 HNG H4Y HNONE
  rw [hO'] at HNX HX3 HNG HNONE
  obtain ⟨ro, rn, rf, ry⟩ := r
  simp only at k HNX HBY HX3 HNG H4Y HNONE
  have hrn : rn ≤ 492 := by omega
  have HSET := Lib.hid (fun (w5 : World) (O2 : Nat → Prop) (s s' : Nat) (h5 : Dm w0 w5 q O2 { X with st := s, o := O' } fr dd) => (show Dm w0 (w5.setCell ⟨q, 2, none⟩ (.int .i64 s')) q O2 { X with st := s', o := O' } fr dd from
    h5.outs (X' := { X with st := s', o := O' }) (dd' := dd) ((Kept.refl _ w5).setAt 2 (.int .i64 s')) rfl h5.fl fun L hL hl => ⟨_, hL.set 2 _, by rw [List.length_set]; exact hl, fun j h1 h2 => by rw [List.getElem?_set_ne (by omega)], fun e => by rw [List.getElem?_set_ne (by decide)]; exact e, fun e => by rw [List.getElem?_set_ne (by decide)]; exact e,
      fun e => by rw [List.getElem?_set_self (by omega)], fun e j v hv => by
        have hj := (List.getElem?_eq_some_iff.1 hv).1
        have := h5.fl
        rw [List.getElem?_set_ne (by omega)]
        exact e j v hv, fun e => by rw [List.getElem?_set_ne (by decide)]; exact e⟩))
  obtain ⟨DD, hDD⟩ : ∃ DD, (X.o.bs.drop ro).take rn = DD := ⟨_, rfl⟩
  rw [hDD] at HNX HNG
  have HST4 := Lib.hid hst
  have HS0 := Lib.hid hst0
  clear h h1 hA1 hB1 hgl hok hle hBs k hmm hsm hlm hmost hrm hR hO' hDD hlt5 hqW hlim hm hr hst hst0 hw4 hlt1
  obtain ⟨Y, hY⟩ : ∃ Y, W1.drew = Y := ⟨_, rfl⟩
  have h2 : Hid (Dm w0 Y q O X fr dd ∧ Below W.heap.size W Y ∧ W.heap.size < Y.heap.size ∧ At Y W.heap.size 51 (frL (FN.zero 0) .nil .nil)) := Lib.hid (by rw [← hY]; exact And.intro (HX1.out.drewN 1) (And.intro (below_drewN HB1.out 1) (And.intro (show W.heap.size < (W1.drewN 1).heap.size from HA1.out.lt) (HA1.out.drewN 1))))
  have HNE := Lib.hid (HNX.out Y h2.out.1)
  have HE5 := Lib.hid (fun (w5 : World) (A5 : Option Addr) (c5 : Nat) (hP : rn ≤ c5 ∧ c5 ≤ maxLen ∧ Own w5 Y.heap.size 5 (.slice A5 rn c5) DD ∧ ∃ O2, Dm w0 w5 q O2 { X with o := O' } fr dd ∧ Kept O Y w5 ∧ ∀ j, O2 j → O j ∨ Y.heap.size ≤ j) => (show At w5 W.heap.size 51 (frL (FN.zero 0) .nil .nil) ∧ w5.cell? ⟨q, 2, none⟩ = some (.int .i64 X.st) ∧ w5.cell? ⟨q, 0, none⟩ = some (.int .u64 X.id) ∧ w5.frozen? ⟨q, 2, none⟩ = false from by
    obtain ⟨_, _, _, O2, hD, hk, _⟩ := hP
    exact ⟨HAT.out Y w5 h2.out.2.2.2 hk, hD.c2, hD.c0, hD.frozen 2⟩))
  have c1Y : Y.cell? ⟨q, 1, none⟩ = some (.int .u64 X.lim) := by rw [← hY]; exact c1
  have c6Y : Y.cell? ⟨q, 6, none⟩ = some (.int .i64 X.o.gn) := by rw [← hY]; exact c6
  clear HNX HX1 HAT
  
  go_enter Tryz.func23, Tryz.ntmps23
  go_upto_region 9 with fail
  clear c1 c6
  go_cut [8, 9, 10, 11] from 44 to 68 (fun s8 s9 s10 s11 w5 => ∃ (A5 : Option Addr) (c5 : Nat), s8 = .int .u64 ro ∧ s9 = .slice A5 rn c5 ∧ s10 = .bool rf ∧ s11 = .bool ry ∧ Hid (rn ≤ c5 ∧ c5 ≤ maxLen ∧ Own w5 Y.heap.size 5 (.slice A5 rn c5) DD ∧ ∃ O2, Dm w0 w5 q O2 { X with o := O' } fr dd ∧ Kept O Y w5 ∧ ∀ j, O2 j → O j ∨ Y.heap.size ≤ j))
  case first =>
    refine wp_region_held_drew (S := (fun _ => True)) (by kernel_rfl) (trivial) (fun hHeld => ?_)
    rw [hY]
    clear hY
    refine tkq 0 (some 45) (v := ?_) rfl (Or.inl ⟨by rfl, ?_⟩) (by assumption) ?_
    rotate_left
    · intro w hSw; (try dsimp only at hSw); go_simp; first | done | (with_reducible rfl)
    simp only [Act.put, List.setIfInBounds_toArray, List.set_cons_zero, List.set_cons_succ]
    refine tkq 1 (some 46) (v := ?_) rfl (Or.inl ⟨by rfl, ?_⟩) (by assumption) ?_
    rotate_left
    · intro w hSw; (try dsimp only at hSw); go_simp; first | done | (with_reducible rfl)
    simp only [Act.put, List.setIfInBounds_toArray, List.set_cons_zero, List.set_cons_succ]
    refine tkq 2 (some 47) (v := ?_) rfl (Or.inl ⟨by rfl, ?_⟩) (by assumption) ?_
    rotate_left
    · intro w hSw; (try dsimp only at hSw); go_simp; first | done | (with_reducible rfl)
    simp only [Act.put, List.setIfInBounds_toArray, List.set_cons_zero, List.set_cons_succ]
    refine tkq 3 (some 48) (v := ?_) rfl (Or.inl ⟨by rfl, ?_⟩) (by assumption) ?_
    rotate_left
    · intro w hSw; (try dsimp only at hSw); go_simp; first | done | (with_reducible rfl)
    simp only [Act.put, List.setIfInBounds_toArray, List.set_cons_zero, List.set_cons_succ]
    refine tkq 4 (some 49) (v := ?_) rfl (Or.inl ⟨by rfl, ?_⟩) (by assumption) ?_
    rotate_left
    · intro w hSw; (try dsimp only at hSw); go_simp; first | done | (with_reducible rfl)
    simp only [Act.put, List.setIfInBounds_toArray, List.set_cons_zero, List.set_cons_succ]
    refine tkq 5 (some 50) (v := ?_) rfl (Or.inl ⟨by rfl, ?_⟩) (by assumption) ?_
    rotate_left
    · intro w hSw; (try dsimp only at hSw); go_simp; first | done | (with_reducible rfl)
    simp only [Act.put, List.setIfInBounds_toArray, List.set_cons_zero, List.set_cons_succ]
    refine tkq 6 (some 51) (v := ?_) rfl (Or.inl ⟨by rfl, ?_⟩) (by assumption) ?_
    rotate_left
    · intro w hSw; (try dsimp only at hSw); go_simp; first | done | (with_reducible rfl)
    simp only [Act.put, List.setIfInBounds_toArray, List.set_cons_zero, List.set_cons_succ]
    refine tkq 7 (some 52) (v := ?_) rfl (Or.inl ⟨by rfl, ?_⟩) (by assumption) ?_
    rotate_left
    · intro w hSw; (try dsimp only at hSw); go_simp; first | done | (with_reducible rfl)
    simp only [Act.put, List.setIfInBounds_toArray, List.set_cons_zero, List.set_cons_succ]
    refine tkq 9 (some 54) (v := ?_) rfl (Or.inl ⟨by rfl, ?_⟩) (by assumption) ?_
    rotate_left
    · intro w hSw; (try dsimp only at hSw); go_simp; first | done | (with_reducible rfl)
    simp only [Act.put, List.setIfInBounds_toArray, List.set_cons_zero, List.set_cons_succ]
    refine tkq 10 (some 55) (v := ?_) rfl (Or.inl ⟨by rfl, ?_⟩) (by assumption) ?_
    rotate_left
    · intro w hSw; (try dsimp only at hSw); go_simp; first | done | (with_reducible rfl)
    simp only [Act.put, List.setIfInBounds_toArray, List.set_cons_zero, List.set_cons_succ]
    refine tkq 11 (some 56) (v := ?_) rfl (Or.inl ⟨by rfl, ?_⟩) (by assumption) ?_
    rotate_left
    · intro w hSw; (try dsimp only at hSw); go_simp; first | done | (with_reducible rfl)
    simp only [Act.put, List.setIfInBounds_toArray, List.set_cons_zero, List.set_cons_succ]
    refine tkq 12 (some 57) (v := ?_) rfl (Or.inl ⟨by rfl, ?_⟩) (by assumption) ?_
    rotate_left
    · intro w hSw; (try dsimp only at hSw); go_simp; first | done | (with_reducible rfl)
    simp only [Act.put, List.setIfInBounds_toArray, List.set_cons_zero, List.set_cons_succ]
    refine tkq 15 (some 60) (v := ?_) rfl (Or.inl ⟨by rfl, ?_⟩) (by assumption) ?_
    rotate_left
    · intro w hSw; (try dsimp only at hSw); go_simp; first | done | (with_reducible rfl)
    simp only [Act.put, List.setIfInBounds_toArray, List.set_cons_zero, List.set_cons_succ]
    refine tkq 16 (some 61) (v := ?_) rfl (Or.inl ⟨by rfl, ?_⟩) (by assumption) ?_
    rotate_left
    · intro w hSw; (try dsimp only at hSw); go_simp; first | done | (with_reducible rfl)
    simp only [Act.put, List.setIfInBounds_toArray, List.set_cons_zero, List.set_cons_succ]
    refine wpAnyH_ready (rs := [8, 13]) (by kernel_rfl) (by simp) ?_
    refine AllReadyH.cons rfl (fun K hK => ?_) (AllReadyH.cons rfl (fun K hK => ?_) (AllReadyH.nil))
    · go_simp
      go_wp2_with (fail)
      refine hK.out _ _ (trivial) (fun hHeld => ?_)
      clear hK K
      refine wpAnyH_ready (rs := [13]) (by kernel_rfl) (by simp) ?_
      refine AllReadyH.cons rfl (fun K hK => ?_) AllReadyH.nil
      go_simp
      go_wp2_with (fail)
      refine hK.out _ _ (trivial) (fun hHeld => ?_)
      clear hK K
      refine tkq 14 (some 59) (v := ?_) rfl (Or.inl ⟨by rfl, ?_⟩) (by assumption) ?_
      rotate_left
      · intro w hSw; (try dsimp only at hSw); go_simp; first | done | (with_reducible rfl)
      simp only [Act.put, List.setIfInBounds_toArray, List.set_cons_zero, List.set_cons_succ]
      refine tkq 17 (some 62) (v := ?_) rfl (Or.inl ⟨by rfl, ?_⟩) (by assumption) ?_
      rotate_left
      · intro w hSw; (try dsimp only at hSw); go_simp; first | done | (with_reducible rfl)
      simp only [Act.put, List.setIfInBounds_toArray, List.set_cons_zero, List.set_cons_succ]
      refine tkq 18 (some 63) (v := ?_) rfl (Or.inl ⟨by rfl, ?_⟩) (by assumption) ?_
      rotate_left
      · intro w hSw; (try dsimp only at hSw); go_simp; first | done | (with_reducible rfl)
      simp only [Act.put, List.setIfInBounds_toArray, List.set_cons_zero, List.set_cons_succ]
      refine wpAnyH_ready (rs := [19]) (by kernel_rfl) (by simp) ?_
      refine AllReadyH.cons rfl (fun K hK => ?_) AllReadyH.nil
      go_simp
      go_wp2_with (go_at_call 47; (with_reducible refine HNE.out.mono ?_); rintro ez w5 ⟨A5, c5, rfl, hP5⟩; have H5 := Lib.hid hP5; clear hP5)
      refine hK.out _ _ (trivial) (fun hHeld => ?_)
      clear hK K
      refine tkq 20 (some 44) (v := ?_) rfl (Or.inl ⟨by rfl, ?_⟩) (by assumption) ?_
      rotate_left
      · intro w hSw; (try dsimp only at hSw); go_simp; first | done | (with_reducible rfl)
      simp only [Act.put, List.setIfInBounds_toArray, List.set_cons_zero, List.set_cons_succ]
      refine tkq 21 (some 65) (v := ?_) rfl (Or.inl ⟨by rfl, ?_⟩) (by assumption) ?_
      rotate_left
      · intro w hSw; (try dsimp only at hSw); go_simp; first | done | (with_reducible rfl)
      simp only [Act.put, List.setIfInBounds_toArray, List.set_cons_zero, List.set_cons_succ]
      refine tkq 22 (some 66) (v := ?_) rfl (Or.inl ⟨by rfl, ?_⟩) (by assumption) ?_
      rotate_left
      · intro w hSw; (try dsimp only at hSw); go_simp; first | done | (with_reducible rfl)
      simp only [Act.put, List.setIfInBounds_toArray, List.set_cons_zero, List.set_cons_succ]
      refine tkq 23 (some 67) (v := ?_) rfl (Or.inl ⟨by rfl, ?_⟩) (by assumption) ?_
      rotate_left
      · intro w hSw; (try dsimp only at hSw); go_simp; first | done | (with_reducible rfl)
      simp only [Act.put, List.setIfInBounds_toArray, List.set_cons_zero, List.set_cons_succ]
      refine tkq 24 (some 68) (v := ?_) rfl (Or.inl ⟨by rfl, ?_⟩) (by assumption) ?_
      rotate_left
      · intro w hSw; (try dsimp only at hSw); go_simp; first | done | (with_reducible rfl)
      simp only [Act.put, List.setIfInBounds_toArray, List.set_cons_zero, List.set_cons_succ]
      refine tkq 25 (some 8) (v := ?_) rfl (Or.inl ⟨by rfl, ?_⟩) (by assumption) ?_
      rotate_left
      · intro w hSw; (try dsimp only at hSw); go_simp; first | done | (with_reducible rfl)
      simp only [Act.put, List.setIfInBounds_toArray, List.set_cons_zero, List.set_cons_succ]
      refine tkq 26 (some 9) (v := ?_) rfl (Or.inl ⟨by rfl, ?_⟩) (by assumption) ?_
      rotate_left
      · intro w hSw; (try dsimp only at hSw); go_simp; first | done | (with_reducible rfl)
      simp only [Act.put, List.setIfInBounds_toArray, List.set_cons_zero, List.set_cons_succ]
      refine tkq 27 (some 10) (v := ?_) rfl (Or.inl ⟨by rfl, ?_⟩) (by assumption) ?_
      rotate_left
      · intro w hSw; (try dsimp only at hSw); go_simp; first | done | (with_reducible rfl)
      simp only [Act.put, List.setIfInBounds_toArray, List.set_cons_zero, List.set_cons_succ]
      refine tkq 28 (some 11) (v := ?_) rfl (Or.inl ⟨by rfl, ?_⟩) (by assumption) ?_
      rotate_left
      · intro w hSw; (try dsimp only at hSw); go_simp; first | done | (with_reducible rfl)
      simp only [Act.put, List.setIfInBounds_toArray, List.set_cons_zero, List.set_cons_succ]
      refine wpAnyH_done (by kernel_rfl) ?_ _
      go_wp2_with fail
      go_meet
      exact ⟨A5, c5, rfl, rfl, rfl, rfl, H5⟩
    · go_simp
      go_wp2_with (fail)
      refine hK.out _ _ (trivial) (fun hHeld => ?_)
      clear hK K
      refine tkq 14 (some 59) (v := ?_) rfl (Or.inl ⟨by rfl, ?_⟩) (by assumption) ?_
      rotate_left
      · intro w hSw; (try dsimp only at hSw); go_simp; first | done | (with_reducible rfl)
      simp only [Act.put, List.setIfInBounds_toArray, List.set_cons_zero, List.set_cons_succ]
      refine tkq 17 (some 62) (v := ?_) rfl (Or.inl ⟨by rfl, ?_⟩) (by assumption) ?_
      rotate_left
      · intro w hSw; (try dsimp only at hSw); go_simp; first | done | (with_reducible rfl)
      simp only [Act.put, List.setIfInBounds_toArray, List.set_cons_zero, List.set_cons_succ]
      refine wpAnyH_ready (rs := [8]) (by kernel_rfl) (by simp) ?_
      refine AllReadyH.cons rfl (fun K hK => ?_) AllReadyH.nil
      go_simp
      go_wp2_with (fail)
      refine hK.out _ _ (trivial) (fun hHeld => ?_)
      clear hK K
      refine tkq 18 (some 63) (v := ?_) rfl (Or.inl ⟨by rfl, ?_⟩) (by assumption) ?_
      rotate_left
      · intro w hSw; (try dsimp only at hSw); go_simp; first | done | (with_reducible rfl)
      simp only [Act.put, List.setIfInBounds_toArray, List.set_cons_zero, List.set_cons_succ]
      refine wpAnyH_ready (rs := [19]) (by kernel_rfl) (by simp) ?_
      refine AllReadyH.cons rfl (fun K hK => ?_) AllReadyH.nil
      go_simp
      go_wp2_with (go_at_call 47; (with_reducible refine HNE.out.mono ?_); rintro ez w5 ⟨A5, c5, rfl, hP5⟩; have H5 := Lib.hid hP5; clear hP5)
      refine hK.out _ _ (trivial) (fun hHeld => ?_)
      clear hK K
      refine tkq 20 (some 44) (v := ?_) rfl (Or.inl ⟨by rfl, ?_⟩) (by assumption) ?_
      rotate_left
      · intro w hSw; (try dsimp only at hSw); go_simp; first | done | (with_reducible rfl)
      simp only [Act.put, List.setIfInBounds_toArray, List.set_cons_zero, List.set_cons_succ]
      refine tkq 21 (some 65) (v := ?_) rfl (Or.inl ⟨by rfl, ?_⟩) (by assumption) ?_
      rotate_left
      · intro w hSw; (try dsimp only at hSw); go_simp; first | done | (with_reducible rfl)
      simp only [Act.put, List.setIfInBounds_toArray, List.set_cons_zero, List.set_cons_succ]
      refine tkq 22 (some 66) (v := ?_) rfl (Or.inl ⟨by rfl, ?_⟩) (by assumption) ?_
      rotate_left
      · intro w hSw; (try dsimp only at hSw); go_simp; first | done | (with_reducible rfl)
      simp only [Act.put, List.setIfInBounds_toArray, List.set_cons_zero, List.set_cons_succ]
      refine tkq 23 (some 67) (v := ?_) rfl (Or.inl ⟨by rfl, ?_⟩) (by assumption) ?_
      rotate_left
      · intro w hSw; (try dsimp only at hSw); go_simp; first | done | (with_reducible rfl)
      simp only [Act.put, List.setIfInBounds_toArray, List.set_cons_zero, List.set_cons_succ]
      refine tkq 24 (some 68) (v := ?_) rfl (Or.inl ⟨by rfl, ?_⟩) (by assumption) ?_
      rotate_left
      · intro w hSw; (try dsimp only at hSw); go_simp; first | done | (with_reducible rfl)
      simp only [Act.put, List.setIfInBounds_toArray, List.set_cons_zero, List.set_cons_succ]
      refine tkq 25 (some 8) (v := ?_) rfl (Or.inl ⟨by rfl, ?_⟩) (by assumption) ?_
      rotate_left
      · intro w hSw; (try dsimp only at hSw); go_simp; first | done | (with_reducible rfl)
      simp only [Act.put, List.setIfInBounds_toArray, List.set_cons_zero, List.set_cons_succ]
      refine tkq 26 (some 9) (v := ?_) rfl (Or.inl ⟨by rfl, ?_⟩) (by assumption) ?_
      rotate_left
      · intro w hSw; (try dsimp only at hSw); go_simp; first | done | (with_reducible rfl)
      simp only [Act.put, List.setIfInBounds_toArray, List.set_cons_zero, List.set_cons_succ]
      refine tkq 27 (some 10) (v := ?_) rfl (Or.inl ⟨by rfl, ?_⟩) (by assumption) ?_
      rotate_left
      · intro w hSw; (try dsimp only at hSw); go_simp; first | done | (with_reducible rfl)
      simp only [Act.put, List.setIfInBounds_toArray, List.set_cons_zero, List.set_cons_succ]
      refine tkq 28 (some 11) (v := ?_) rfl (Or.inl ⟨by rfl, ?_⟩) (by assumption) ?_
      rotate_left
      · intro w hSw; (try dsimp only at hSw); go_simp; first | done | (with_reducible rfl)
      simp only [Act.put, List.setIfInBounds_toArray, List.set_cons_zero, List.set_cons_succ]
      refine wpAnyH_done (by kernel_rfl) ?_ _
      go_wp2_with fail
      go_meet
      exact ⟨A5, c5, rfl, rfl, rfl, rfl, H5⟩
  case rest =>
    obtain ⟨A5, c5, rfl, rfl, rfl, rfl, H5⟩ := hcut
    have hE5 := HE5.out wc A5 c5 H5.out
    have HA5 := Lib.hid hE5.1
    have x2 := hE5.2.1
    have x0 := hE5.2.2.1
    have f2 := hE5.2.2.2
    clear hE5 HE5 c1Y c6Y M1 M2 M3 zsm wsm zrm wmo
    generalize hwc : wc = w5 at *
    clear hwc
    cases ry with
    | false =>
      have hno := HNONE.out rfl
      have HNB : Hid (¬ nxB X room more) := Lib.hid (fun k => by have := (HBY.out.1 k).2; cases this)
      go_wp2_with (first | ((with_reducible refine at_st (x := .tmp 6) ?_); refine st_at _ _ (frL (FN.zero 0) .nil .nil) (by rfl) (by rfl) HA5.out (by rfl) (by rfl) (by rfl) ?_; intro w9 hA9 hk9; skip) | fail)
      refine bodyPost_ret (results_cell_tmp 6 7 51 (by rfl) _ 51 _ _ _ (by rfl) (by rfl) hA9 Tryz.underlying51 rfl fr_info) rfl ?_
      obtain ⟨y1, y2, y3, O2, y4, y5, y6⟩ := H5.out
      rw [hno] at y4
      obtain ⟨z1, z2⟩ := HFX.out Y w5 w5 w9 O2 X fr dd _ _ h2.out.2.1 h2.out.2.2.1 y5 y6 y3 y4 (Kept.refl _ _) hk9
      exact ⟨_, false, X, _, _, dd, rfl, .inl ⟨rfl, HNB.out, HNR.out, rfl, rfl⟩, z1, by simp, z2⟩
    | true =>
      have hst3 : X.st ≤ 3 := by
        have := HST4.out
        rcases Nat.lt_or_ge X.st 4 with h | h
        · omega
        · have := H4Y.out (by omega)
          cases this
      have HNB : Hid (nxB X room more) := Lib.hid (HBY.out.2 ⟨hst3, rfl⟩)
      have HST3 := Lib.hid hst3
      clear HNONE HBY H4Y HST4 hst3
      obtain ⟨s, hs⟩ : ∃ s, X.st = s := ⟨_, rfl⟩
      cases rf with
      | true =>
        by_cases h1 : s = 1
        · subst h1
          have HSTS : Hid (stS X.st true = 3) := Lib.hid (by rw [hs]; rfl)
          rw [hs] at x2
          clear hs
          go_wp2_with (first | ((with_reducible refine at_st (x := .tmp 6) ?_); refine st_at _ _ (frL (m8 X.id ro true) ⟨A5, rn, c5⟩ .nil) (by rfl) (by rfl) ((HA5.out.set_other (q := ⟨q, 2, none⟩) (fun e => HQN.out e) _).set_other (q := ⟨q, 2, none⟩) (fun e => HQN.out e) _) (by rfl) (by rfl) (by rfl) ?_; intro w9 hA9 hk9; skip) | fail)
          refine bodyPost_ret (results_cell_tmp 6 7 51 (by rfl) _ 51 _ _ _ (by rfl) (by rfl) hA9 Tryz.underlying51 rfl fr_info) rfl ?_
          obtain ⟨y1, y2, y3, O2, y4, y5, y6⟩ := H5.out
          obtain ⟨z1, z2⟩ := HFX.out Y w5 _ w9 O2 { X with st := 3, o := O' } fr dd _ _ h2.out.2.1 h2.out.2.2.1 y5 y6 y3 (HSET.out _ O2 2 3 (HSET.out _ O2 X.st 2 y4)) (((Kept.refl _ _).setAt 2 _).setAt 2 _) hk9
          exact ⟨_, true, _, _, _, dd, rfl, HNG.out _ _ _ _ _ ⟨A5, c5, y1, y2, rfl, rfl, rfl⟩ rfl HNB.out (by rw [HSTS.out]), z1, by rw [if_neg (fun e => by have := e.1; have := HST3.out; omega)], z2⟩
        · by_cases h2' : s = 2
          · subst h2'
            have HSTS : Hid (stS X.st true = 3) := Lib.hid rfl
            rw [hs] at x2
            clear hs h1
            go_wp2_with (first | ((with_reducible refine at_st (x := .tmp 6) ?_); refine st_at _ _ (frL (m8 X.id ro true) ⟨A5, rn, c5⟩ .nil) (by rfl) (by rfl) (HA5.out.set_other (q := ⟨q, 2, none⟩) (fun e => HQN.out e) _) (by rfl) (by rfl) (by rfl) ?_; intro w9 hA9 hk9; skip) | fail)
            refine bodyPost_ret (results_cell_tmp 6 7 51 (by rfl) _ 51 _ _ _ (by rfl) (by rfl) hA9 Tryz.underlying51 rfl fr_info) rfl ?_
            obtain ⟨y1, y2, y3, O2, y4, y5, y6⟩ := H5.out
            obtain ⟨z1, z2⟩ := HFX.out Y w5 _ w9 O2 { X with st := 3, o := O' } fr dd _ _ h2.out.2.1 h2.out.2.2.1 y5 y6 y3 (HSET.out _ O2 X.st 3 y4) ((Kept.refl _ _).setAt 2 _) hk9
            exact ⟨_, true, _, _, _, dd, rfl, HNG.out _ _ _ _ _ ⟨A5, c5, y1, y2, rfl, rfl, rfl⟩ rfl HNB.out (by rw [HSTS.out]), z1, by rw [if_neg (fun e => by have := e.1; have := HST3.out; omega)], z2⟩
          · have hb1 : ((X.st : Int) == 1) = false := by simp; omega
            have hb2 : ((X.st : Int) == 2) = false := by simp; omega
            have HSTS : Hid (stS X.st true = X.st) := Lib.hid (by show 3 = X.st; have := HST3.out; have := HS0.out; omega)
            clear hs h1 h2'
            go_wp2_with (first | ((with_reducible refine at_st (x := .tmp 6) ?_); refine st_at _ _ (frL (m8 X.id ro true) ⟨A5, rn, c5⟩ .nil) (by rfl) (by rfl) HA5.out (by rfl) (by rfl) (by rfl) ?_; intro w9 hA9 hk9; skip) | fail)
            refine bodyPost_ret (results_cell_tmp 6 7 51 (by rfl) _ 51 _ _ _ (by rfl) (by rfl) hA9 Tryz.underlying51 rfl fr_info) rfl ?_
            obtain ⟨y1, y2, y3, O2, y4, y5, y6⟩ := H5.out
            obtain ⟨z1, z2⟩ := HFX.out Y w5 _ w9 O2 { X with o := O' } fr dd _ _ h2.out.2.1 h2.out.2.2.1 y5 y6 y3 y4 (Kept.refl _ _) hk9
            exact ⟨_, true, _, _, _, dd, rfl, HNG.out _ _ _ _ _ ⟨A5, c5, y1, y2, rfl, rfl, rfl⟩ rfl HNB.out (by rw [HSTS.out]), z1, by rw [if_neg (fun e => by have := e.1; have := HST3.out; omega)], z2⟩
      | false =>
        by_cases h1 : s = 1
        · subst h1
          have HSTS : Hid (stS X.st false = 2) := Lib.hid (by rw [hs]; rfl)
          rw [hs] at x2
          clear hs
          go_wp2_with (first | ((with_reducible refine at_st (x := .tmp 6) ?_); refine st_at _ _ (frL (m8 X.id ro false) ⟨A5, rn, c5⟩ .nil) (by rfl) (by rfl) (HA5.out.set_other (q := ⟨q, 2, none⟩) (fun e => HQN.out e) _) (by rfl) (by rfl) (by rfl) ?_; intro w9 hA9 hk9; skip) | fail)
          refine bodyPost_ret (results_cell_tmp 6 7 51 (by rfl) _ 51 _ _ _ (by rfl) (by rfl) hA9 Tryz.underlying51 rfl fr_info) rfl ?_
          obtain ⟨y1, y2, y3, O2, y4, y5, y6⟩ := H5.out
          obtain ⟨z1, z2⟩ := HFX.out Y w5 _ w9 O2 { X with st := 2, o := O' } fr dd _ _ h2.out.2.1 h2.out.2.2.1 y5 y6 y3 (HSET.out _ O2 X.st 2 y4) ((Kept.refl _ _).setAt 2 _) hk9
          exact ⟨_, true, _, _, _, dd, rfl, HNG.out _ _ _ _ _ ⟨A5, c5, y1, y2, rfl, rfl, rfl⟩ rfl HNB.out (by rw [HSTS.out]), z1, by rw [if_neg (fun e => by have := e.1; have := HST3.out; omega)], z2⟩
        · have hb1 : ((X.st : Int) == 1) = false := by simp; omega
          have HSTS : Hid (stS X.st false = X.st) := Lib.hid (by unfold stS; rw [if_neg (by decide), if_neg (by omega)])
          clear hs h1
          go_wp2_with (first | ((with_reducible refine at_st (x := .tmp 6) ?_); refine st_at _ _ (frL (m8 X.id ro false) ⟨A5, rn, c5⟩ .nil) (by rfl) (by rfl) HA5.out (by rfl) (by rfl) (by rfl) ?_; intro w9 hA9 hk9; skip) | fail)
          refine bodyPost_ret (results_cell_tmp 6 7 51 (by rfl) _ 51 _ _ _ (by rfl) (by rfl) hA9 Tryz.underlying51 rfl fr_info) rfl ?_
          obtain ⟨y1, y2, y3, O2, y4, y5, y6⟩ := H5.out
          obtain ⟨z1, z2⟩ := HFX.out Y w5 _ w9 O2 { X with o := O' } fr dd _ _ h2.out.2.1 h2.out.2.2.1 y5 y6 y3 y4 (Kept.refl _ _) hk9
          exact ⟨_, true, _, _, _, dd, rfl, HNG.out _ _ _ _ _ ⟨A5, c5, y1, y2, rfl, rfl, rfl⟩ rfl HNB.out (by rw [HSTS.out]), z1, by rw [if_neg (fun e => by have := e.1; have := HST3.out; omega)], z2⟩
end
end Go.Proofs.YtbejpafephofaaaGreat
