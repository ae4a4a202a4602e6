/-
  The document's buffer (narthexref15.Buffer), at a place o of a block (it may be a field): what it holds (Rr, Rs); base, Room, Finish, end, Whole.
-/
import Derived.Test.YtoakahofiodbhaaDd
import Derived.Test.YtoakahofiodbhaaDb
import Derived.Deep.LoopGhost
import Derived.BigQuiet
namespace Go.Proofs.Ytoakahofiodbhaa
set_option linter.unusedVariables false
set_option linter.unusedSimpArgs false
open Go.RowKit
/-- The cells cs stand in L from o on. -/
def Rcell (cs L : List Value) (o : Nat) : Prop := ∀ j u, cs[j]? = some u → L[o + j]? = some u
theorem Rcell.set {cs L : List Value} {o : Nat} (h : Rcell cs L o) (i : Nat) (v : Value) (hi : i < cs.length) : Rcell (cs.set i v) (L.set (o + i) v) o := by
  have hl : o + i < L.length := by
    have := h i cs[i] (List.getElem?_eq_getElem hi)
    exact (List.getElem?_eq_some_iff.1 this).1
  intro j u hj
  rw [List.getElem?_set] at hj ⊢
  by_cases e : i = j
  · subst e
    rw [if_pos rfl, if_pos hi] at hj
    rw [if_pos rfl, if_pos hl]
    exact hj
  · rw [if_neg e] at hj
    rw [if_neg (by omega)]
    exact h j u hj
/-- Two blocks that are alike but for the eight cells from o on. -/
structure Samo (o : Nat) (L L' : List Value) : Prop where
  len : L'.length = L.length
  out : ∀ i, i < o ∨ o + 8 ≤ i → L'[i]? = L[i]?
theorem Samo.refl (o : Nat) (L : List Value) : Samo o L L := ⟨rfl, fun _ _ => rfl⟩
theorem Samo.trans {o : Nat} {L L' L'' : List Value} (h : Samo o L L') (k : Samo o L' L'') : Samo o L L'' := ⟨k.len.trans h.len, fun i hi => (k.out i hi).trans (h.out i hi)⟩
theorem Samo.set {o : Nat} {L L' : List Value} (h : Samo o L L') {i : Nat} (hi : i < 8) (v : Value) : Samo o L (L'.set (o + i) v) := by
  refine ⟨by rw [List.length_set]; exact h.len, fun j hj => ?_⟩
  rw [List.getElem?_set, if_neg (by omega)]
  exact h.out j hj
def rcs (vb va vg : Value) (gn : Nat) (ov en ea el : Bool) : List Value := [vb, va, vg, .int .i64 gn, .bool ov, .bool en, .bool ea, .bool el]
def robs (q : Nat) (vb va vg : Value) : List (Option Nat) := [some q, vb.ownBlock, va.ownBlock, vg.ownBlock]
def rqO (q : Nat) (vb va vg : Value) : Nat → Prop := fun b => some b ∈ robs q vb va vg
/-- The memory of the document's buffer. -/
structure Rr (w : World) (base q o : Nat) (T : TypeId) (L : List Value) (vb va vg : Value) (B : List Int) (C A : List Bool) (gn : Nat) (ov en ea el : Bool) : Prop where
  at_ : At w q T L
  cl : Rcell (rcs vb va vg gn ov en ea el) L o
  ob : Own w base 5 vb B
  oa : Ow w base 4 va (C.map .bool)
  og : Ow w base 4 vg (A.map .bool)
  dis : Dis (robs q vb va vg)
  bq : base ≤ q
section
variable {w w' : World} {base q o : Nat} {T : TypeId} {L : List Value} {vb va vg : Value} {B : List Int} {C A : List Bool} {gn : Nat} {ov en ea el : Bool}
theorem rqO_at {i k : Nat} (h : (robs q vb va vg)[i]? = some (some k)) : rqO q vb va vg k := List.mem_of_getElem? h
theorem Rr.lt (h : Rr w base q o T L vb va vg B C A gn ov en ea el) : ∀ k, rqO q vb va vg k → base ≤ k ∧ k < w.heap.size := by
  intro k hk
  unfold rqO robs at hk
  simp only [List.mem_cons, List.not_mem_nil, or_false] at hk
  rcases hk with hk | hk | hk | hk
  · injection hk with hk; subst hk; exact ⟨h.bq, h.at_.lt⟩
  · exact h.ob.block_lt k hk.symm
  · exact ow_lt h.oa k hk.symm
  · exact ow_lt h.og k hk.symm
theorem Rr.obs_lt (h : Rr w base q o T L vb va vg B C A gn ov en ea el) : ∀ j k : Nat, (robs q vb va vg)[j]? = some (some k) → k < w.heap.size := fun j k hj => (h.lt k (rqO_at hj)).2
theorem Rr.ne (h : Rr w base q o T L vb va vg B C A gn ov en ea el) {i j k k' : Nat} (hi : (robs q vb va vg)[i]? = some (some k)) (hj : (robs q vb va vg)[j]? = some (some k')) (hij : i ≠ j) : k ≠ k' := fun e => by
  subst e
  exact hij (h.dis i j k hi hj)
theorem Rr.kept {S : Nat → Prop} (h : Rr w base q o T L vb va vg B C A gn ov en ea el) (k : Kept S w w') (hs : ∀ j, rqO q vb va vg j → ¬ S j) : Rr w' base q o T L vb va vg B C A gn ov en ea el :=
  { h with
    at_ := h.at_.kept k (hs q (rqO_at (i := 0) rfl))
    ob := h.ob.kept k fun j hj => hs j (rqO_at (i := 1) (by rw [← hj]; rfl))
    oa := ow_kept h.oa k fun j hj => hs j (rqO_at (i := 2) (by rw [← hj]; rfl))
    og := ow_kept h.og k fun j hj => hs j (rqO_at (i := 3) (by rw [← hj]; rfl)) }
theorem Rr.below (h : Rr w base q o T L vb va vg B C A gn ov en ea el) (k : Below w.heap.size w w') : Rr w' base q o T L vb va vg B C A gn ov en ea el := h.kept (Kept.of_below k (fun _ => False)) fun _ _ h => h
theorem Rr.drewN (h : Rr w base q o T L vb va vg B C A gn ov en ea el) (n : Nat) : Rr (w.drewN n) base q o T L vb va vg B C A gn ov en ea el := h.kept ((Kept.refl (fun _ => False) w).drewN n) fun _ _ h => h
theorem Rr.cell (h : Rr w base q o T L vb va vg B C A gn ov en ea el) (i : Nat) {v : Value} (hv : (rcs vb va vg gn ov en ea el)[i]? = some v) : w.cell? ⟨q, o + i, none⟩ = some v := by rw [h.at_.cell]; exact h.cl i v hv
theorem Rr.c0 (h : Rr w base q o T L vb va vg B C A gn ov en ea el) : w.cell? ⟨q, o, none⟩ = some vb := h.cell 0 rfl
/-- The block itself is turned alone. -/
theorem Rr.top (h : Rr w base q o T L vb va vg B C A gn ov en ea el) (i : Nat) (v : Value) {gn' : Nat} {ov' en' ea' el' : Bool} (hc : (rcs vb va vg gn ov en ea el).set i v = rcs vb va vg gn' ov' en' ea' el') (hi : i < 8) :
    Rr (w.setCell ⟨q, o + i, none⟩ v) base q o T (L.set (o + i) v) vb va vg B C A gn' ov' en' ea' el' := by
  have k : Kept (· = q) w (w.setCell ⟨q, o + i, none⟩ v) := (Kept.refl _ _).setAt _ _
  refine { h with at_ := h.at_.set (o + i) v, cl := by rw [← hc]; exact h.cl.set i v hi, ob := h.ob.kept k fun j hj => h.ne (i := 1) (j := 0) (by rw [← hj]; rfl) rfl (by omega), oa := ow_kept h.oa k fun j hj => h.ne (i := 2) (j := 0) (by rw [← hj]; rfl) rfl (by omega), og := ow_kept h.og k fun j hj => h.ne (i := 3) (j := 0) (by rw [← hj]; rfl) rfl (by omega) }
/-- A row of flags is turned in its place. -/
theorem Rr.acks (h : Rr w base q o T L vb va vg B C A gn ov en ea el) {C' : List Bool} (ho : Ow w' base 4 va (C'.map .bool)) (k : Kept (fun j => va.ownBlock = some j) w w') : Rr w' base q o T L vb va vg B C' A gn ov en ea el :=
  { h with
    at_ := h.at_.kept k fun e => h.ne (i := 2) (j := 0) (k := q) (k' := q) (by rw [← e]; rfl) rfl (by omega) rfl
    ob := h.ob.kept k fun j hj e => h.ne (i := 1) (j := 2) (k := j) (k' := j) (by rw [← hj]; rfl) (by rw [← e]; rfl) (by omega) rfl
    oa := ho
    og := ow_kept h.og k fun j hj e => h.ne (i := 3) (j := 2) (k := j) (k' := j) (by rw [← hj]; rfl) (by rw [← e]; rfl) (by omega) rfl }
theorem Rr.agains (h : Rr w base q o T L vb va vg B C A gn ov en ea el) {A' : List Bool} (ho : Ow w' base 4 vg (A'.map .bool)) (k : Kept (fun j => vg.ownBlock = some j) w w') : Rr w' base q o T L vb va vg B C A' gn ov en ea el :=
  { h with
    at_ := h.at_.kept k fun e => h.ne (i := 3) (j := 0) (k := q) (k' := q) (by rw [← e]; rfl) rfl (by omega) rfl
    ob := h.ob.kept k fun j hj e => h.ne (i := 1) (j := 3) (k := j) (k' := j) (by rw [← hj]; rfl) (by rw [← e]; rfl) (by omega) rfl
    oa := ow_kept h.oa k fun j hj e => h.ne (i := 2) (j := 3) (k := j) (k' := j) (by rw [← hj]; rfl) (by rw [← e]; rfl) (by omega) rfl
    og := ho }
end
/-- A row of flags that the call made: a flag is read, is set. -/
theorem owb_get {w : World} {base n c : Nat} {A : Option Addr} {F : List Bool} (h : Ow w base 4 (.slice A n c) (F.map .bool)) {i : Nat} {b : Bool} (hi : F[i]? = some b) : ∃ g, A = some ⟨g, 0, none⟩ ∧ w.cell? ⟨g, i, none⟩ = some (.bool b) ∧ w.frozen? ⟨g, i, none⟩ = false ∧ ∀ x, Ow (w.setCell ⟨g, i, none⟩ (.bool x)) base 4 (.slice A n c) ((F.set i x).map .bool) ∧ Kept (fun j => (Value.slice A n c).ownBlock = some j) w (w.setCell ⟨g, i, none⟩ (.bool x)) := by
  obtain ⟨A', c', e, hn, hm, ho⟩ := ow_open h
  injection e with e1 e2 e3
  subst e1; subst e3
  have hil := (List.getElem?_eq_some_iff.1 hi).1
  rcases ho with ⟨_, _, hx⟩ | ⟨g, cur, rfl, hb, hlt, hA, hcl, ht⟩
  · simp at hx
    subst hx
    simp at hil
  · have hci : cur[i]? = some (.bool b) := by
      have : (cur.take (F.map Value.bool).length)[i]? = some (.bool b) := by rw [ht, List.getElem?_map, hi]; rfl
      rw [List.getElem?_take_of_lt (by rw [List.length_map]; exact hil)] at this
      exact this
    refine ⟨g, rfl, by rw [hA.cell]; exact hci, hA.frozen i, fun x => ⟨?_, (Kept.refl (fun j => (Value.slice (some ⟨g, 0, none⟩) n c).ownBlock = some j) w).setCell (p := ⟨g, i, none⟩) (.inl rfl) _⟩⟩
    have hm' := ow_mk (base := base) (xs := (F.set i x).map Value.bool) (c := c) hb (hA.set i (.bool x)) (by simpa using hn) hm (by rw [List.length_set]; exact hcl) (by
      rw [List.length_map, List.length_set]
      rw [List.length_map] at ht
      rw [List.take_set, ht, List.map_set])
    rw [List.length_map, List.length_set] at hm'
    rw [List.length_map] at e2
    rw [← e2] at hm'
    exact hm'
/-- The document's buffer, its block's cells L, the blocks that it has. -/
def Rs (w : World) (base q o : Nat) (T : TypeId) (L : List Value) (O : Nat → Prop) (S : OS) : Prop :=
  ∃ vb va vg C A, O = rqO q vb va vg ∧ Rr w base q o T L vb va vg S.bs C A S.gn S.ov S.en S.ea S.el ∧ Rf S C A
section
variable {w w' : World} {base q o : Nat} {T : TypeId} {L : List Value} {O : Nat → Prop} {S : OS}
theorem Rs.lt (h : Rs w base q o T L O S) : ∀ b, O b → base ≤ b ∧ b < w.heap.size := by
  obtain ⟨vb, va, vg, C, A, rfl, h, _⟩ := h
  exact h.lt
theorem Rs.kept {X : Nat → Prop} (h : Rs w base q o T L O S) (k : Kept X w w') (hs : ∀ b, O b → ¬ X b) : Rs w' base q o T L O S := by
  obtain ⟨vb, va, vg, C, A, rfl, h, hf⟩ := h
  exact ⟨vb, va, vg, C, A, rfl, h.kept k hs, hf⟩
theorem Rs.below (h : Rs w base q o T L O S) (k : Below w.heap.size w w') : Rs w' base q o T L O S := h.kept (Kept.of_below k (fun _ => False)) fun _ _ h => h
theorem Rs.drewN (h : Rs w base q o T L O S) (n : Nat) : Rs (w.drewN n) base q o T L O S := h.kept ((Kept.refl (fun _ => False) w).drewN n) fun _ _ h => h
end
/-- What a call that changes the document's buffer leaves. -/
def RsPost (r : Value) (base q o : Nat) (T : TypeId) (L : List Value) (O : Nat → Prop) (S' : OS) (w : World) (e : Ending) (w' : World) : Prop :=
  e = .returned r ∧ ∃ L' O', Rs w' base q o T L' O' S' ∧ Samo o L L' ∧ Kept O w w' ∧ ∀ j, O' j → O j ∨ w.heap.size ≤ j
/-- Its rows as slices. -/
theorem Rs.open_ {w : World} {base q o : Nat} {T : TypeId} {L : List Value} {O : Nat → Prop} {S : OS} (h : Rs w base q o T L O S) :
    ∃ Ab cb Aa ca Ag cg C A, O = rqO q (.slice Ab S.bs.length cb) (.slice Aa S.bs.length ca) (.slice Ag S.bs.length cg) ∧ Rr w base q o T L (.slice Ab S.bs.length cb) (.slice Aa S.bs.length ca) (.slice Ag S.bs.length cg) S.bs C A S.gn S.ov S.en S.ea S.el ∧ Rf S C A ∧ C.length = S.bs.length ∧ A.length = S.bs.length := by
  obtain ⟨vb, va, vg, C, A, rfl, hr, hf⟩ := h
  obtain ⟨l1, l2⟩ := hf.len
  obtain ⟨Ab, cb, rfl, _, _, _⟩ := hr.ob.open_
  obtain ⟨Aa, ca, e1, _, _, _⟩ := ow_open hr.oa
  obtain ⟨Ag, cg, e2, _, _, _⟩ := ow_open hr.og
  rw [List.length_map, l1] at e1
  rw [List.length_map, l2] at e2
  subst e1; subst e2
  exact ⟨Ab, cb, Aa, ca, Ag, cg, C, A, rfl, hr, hf, l1, l2⟩
section
variable {w : World} {base q o : Nat} {T : TypeId} {L : List Value} {O : Nat → Prop} {S : OS}
set_option maxHeartbeats 2000000 in
set_option maxRecDepth 100000 in
theorem rbase_any (h : Rs w base q o T L O S) (hL : S.bs.length ≤ 1000000) : Calls Try.prog 49 #[.pointer (some ⟨q, o, none⟩)] w fun e w' => e = .returned (.int .i64 (baseO S)) ∧ w' = w := by
  obtain ⟨Ab, cb, Aa, ca, Ag, cg, C, A, _, hr, hf, l1, l2⟩ := h.open_
  have c0 := hr.c0
  have c1 := hr.cell 1 rfl
  have HC : Hid (∀ i, i < S.bs.length → ∃ g, Aa = some ⟨g, 0, none⟩ ∧ w.cell? ⟨g, i, none⟩ = some (.bool (S.ak i))) := Lib.hid (fun i hi => by
    obtain ⟨g, h1, h2, _⟩ := owb_get hr.oa (i := i) (b := S.ak i) (by rw [hf.c]; exact tabB_get _ _ _ hi)
    exact ⟨g, h1, h2⟩)
  have HB : Hid (baseO S ≤ S.bs.length ∧ (∀ j, j < baseO S → S.ak j = true) ∧ (baseO S < S.bs.length → S.ak (baseO S) = false)) := Lib.hid ⟨baseO_le S, fun j hj => by have := runF_all S.ak S.bs.length 0 j hj; rwa [Nat.zero_add] at this, fun hl => by have := runF_stop S.ak S.bs.length 0 hl; rwa [Nat.zero_add] at this⟩
  clear hr hf h
  generalize S.bs.length = n at *
  generalize baseO S = b at *
  go_enter Try.func49, Try.ntmps49
  go_wp2
  go_loopg [3] n (fun kx s3 wr => ∃ k : Nat, s3 = .int .i64 k ∧ k ≤ b ∧ n - k ≤ kx ∧ wr = w)
  case atStart => exact ⟨0, rfl, Nat.zero_le _, by omega, rfl⟩
  case round =>
    obtain ⟨k, rfl, hkb, hkx, rfl⟩ := hrel
    obtain ⟨hb1, hb2, hb3⟩ := HB.out
    rcases Nat.lt_or_ge k n with hkn | hkn
    · have hkz : (k : Int) < (n : Int) := by omega
      obtain ⟨g, rfl, cg1⟩ := HC.out k hkn
      rcases Nat.lt_or_ge k b with hk | hk
      · rw [hb2 k hk] at cg1
        clear hb2 hb3
        go_wp2
        go_roundg (n - (k + 1))
        case measure => omega
        case rel => exact ⟨k + 1, by simp, by omega, Nat.le_refl _, rfl⟩
      · obtain rfl : k = b := by omega
        rw [hb3 hkn] at cg1
        clear hb2 hb3
        go_wp2
        go_ret
        exact ⟨rfl, rfl⟩
    · have hkz : ¬ (k : Int) < (n : Int) := by omega
      obtain rfl : k = b := by omega
      clear hb2 hb3
      go_wp2
      go_ret
      exact ⟨rfl, rfl⟩
theorem rroom_any (h : Rs w base q o T L O S) (hok : S.ok) (hL : S.bs.length ≤ 1000000) : Calls Try.prog 36 #[.pointer (some ⟨q, o, none⟩)] w fun e w' => e = .returned (.int .i64 (roomO S)) ∧ ∃ d, w' = w.drewN d := by
  have HB := Lib.hid (fun d => Calls.quiet_of_same (rbase_any (h.drewN d) hL))
  obtain ⟨Ab, cb, Aa, ca, Ag, cg, C, A, _, hr, _⟩ := h.open_
  have c0 := hr.c0
  have c4 := hr.cell 4 rfl
  have hb := baseO_le S
  have hrm := hok.rm
  clear hr h
  unfold roomO
  obtain ⟨x, hx⟩ : ∃ x, x = S.bs.length - baseO S := ⟨_, rfl⟩
  obtain ⟨y, hy⟩ : ∃ y, y = 2048 - x := ⟨_, rfl⟩
  have zx : (S.bs.length : Int) - (baseO S : Int) = (x : Int) := by omega
  have zy : (2048 : Int) - (x : Int) = (y : Int) := by omega
  have hxb : x ≤ 2048 := by omega
  have hyb : y ≤ 2048 := by omega
  rw [← hx, ← hy]
  clear hx hy hrm
  generalize S.bs.length = n at *
  generalize baseO S = b at *
  cases hov : S.ov
  · rw [hov] at c4
    go_enter Try.func36, Try.ntmps36
    go_wp2
    go_quiet ((go_at_call 49; (with_reducible exact HB.out _)))
    go_wp2
    go_ret
    exact ⟨by simp, _, rfl⟩
  · rw [hov] at c4
    go_enter Try.func36, Try.ntmps36
    go_wp2
    go_ret
    exact ⟨by simp, 0, rfl⟩
theorem rend_any (h : Rs w base q o T L O S) : Calls Try.prog 35 #[.pointer (some ⟨q, o, none⟩)] w fun e w' => e = .returned (.bool (endO S)) ∧ w' = w := by
  obtain ⟨vb, va, vg, C, A, _, hr, _⟩ := h
  have c4 := hr.cell 4 rfl
  have c5 := hr.cell 5 rfl
  have c6 := hr.cell 6 rfl
  have c7 := hr.cell 7 rfl
  clear hr
  unfold endO
  cases hov : S.ov <;> cases hea : S.ea <;> cases hen : S.en <;> rw [hov] at c4 <;> rw [hen] at c5 <;> rw [hea] at c6
  all_goals go_enter Try.func35, Try.ntmps35
  all_goals go_wp2
  all_goals go_ret
  all_goals exact ⟨by simp, rfl⟩
theorem rfinish_any (h : Rs w base q o T L O S) : Calls Try.prog 22 #[.pointer (some ⟨q, o, none⟩)] w (RsPost (.bool (!S.ov)) base q o T L O (finO S) w) := by
  obtain ⟨vb, va, vg, C, A, rfl, hr, hf⟩ := h
  have c4 := hr.cell 4 rfl
  have f4 := hr.at_.frozen (o + 4)
  have HP : Hid (RsPost (.bool (!S.ov)) base q o T L (rqO q vb va vg) (finO S) w (.returned (.bool (!S.ov))) (w.setCell ⟨q, o + 4, none⟩ (.bool true))) := Lib.hid ⟨rfl, _, _, ⟨vb, va, vg, C, A, rfl, hr.top 4 (.bool true) rfl (by omega), ⟨hf.c, hf.a⟩⟩, (Samo.refl o L).set (by omega) _, (Kept.refl _ _).setCell (p := ⟨q, o + 4, none⟩) (.inl (rqO_at (i := 0) rfl)) _, fun j hj => .inl hj⟩
  clear hr hf
  generalize S.ov = ov at *
  go_enter Try.func22, Try.ntmps22
  go_wp2
  go_ret
  exact HP.out
theorem rwhole_any (h : Rs w base q o T L O S) (hL : S.bs.length ≤ 1000000) : Calls Try.prog 37 #[.pointer (some ⟨q, o, none⟩)] w fun e w' => e = .returned (.bool (wholeO S)) ∧ ∃ d, w' = w.drewN d := by
  have HB := Lib.hid (fun d => Calls.quiet_of_same (rbase_any (h.drewN d) hL))
  obtain ⟨Ab, cb, Aa, ca, Ag, cg, C, A, _, hr, _⟩ := h.open_
  have c0 := hr.c0
  have c4 := hr.cell 4 rfl
  have c6 := hr.cell 6 rfl
  clear hr h
  unfold wholeO
  generalize S.bs.length = n at *
  generalize baseO S = b at *
  cases hov : S.ov
  · rw [hov] at c4
    go_enter Try.func37, Try.ntmps37
    go_wp2
    go_quiet (fail)
    go_wp2
    go_ret
    exact ⟨by simp, _, rfl⟩
  · rw [hov] at c4
    by_cases hbn : b = n
    · subst hbn
      go_enter Try.func37, Try.ntmps37
      go_wp2
      go_quiet ((go_at_call 49; (with_reducible exact HB.out _)))
      go_wp2
      go_ret
      exact ⟨by simp, _, rfl⟩
    · have hbz : ¬ (b : Int) = (n : Int) := by omega
      go_enter Try.func37, Try.ntmps37
      go_wp2
      go_quiet ((go_at_call 49; (with_reducible exact HB.out _)))
      go_wp2
      go_ret
      exact ⟨by simp [hbn], _, rfl⟩
end
end Go.Proofs.Ytoakahofiodbhaa
