/-
  The document's buffer (narthexref15.Buffer), at a place o of a block (it may be a field): what it holds (Rr, Rs); base, Room, Finish, end, Whole.
-/
import Derived.Test.YtbejpafephofaaaGreatMq7
import Derived.Test.YtbejpafephofaaaGreatMq12
import Derived.Deep.LoopGhost
import Derived.BigQuiet
namespace Go.Proofs.YtbejpafephofaaaGreat
section
set_option linter.unusedVariables false
set_option linter.unusedSimpArgs false
open Go.RowKit
/-- The cells cs stand in L from o on. -/
def Rcell (cs L : List Value) (o : Nat) : Prop := ∀ j u, cs[j]? = some u → L[o + j]? = some u
theorem Rcell.set {cs L : List Value} {o : Nat} (h : Rcell cs L o) (i : Nat) (v : Value) (hi : i < cs.length) : Rcell (cs.set i v) (L.set (o + i) v) o := by
  have hl : o + i < L.length := by
    have := h i cs[i] (List.getElem?_eq_getElem hi)
    exact (List.getElem?_eq_some_iff.1 this).1
  intro j u hj
  rw [List.getElem?_set] at hj ⊢
  by_cases e : i = j
  · subst e
    rw [if_pos rfl, if_pos hi] at hj
    rw [if_pos rfl, if_pos hl]
    exact hj
  · rw [if_neg e] at hj
    rw [if_neg (by omega)]
    exact h j u hj
/-- Two blocks that are alike but for the eight cells from o on. -/
structure Samo (o : Nat) (L L' : List Value) : Prop where
  len : L'.length = L.length
  out : ∀ i, i < o ∨ o + 8 ≤ i → L'[i]? = L[i]?
theorem Samo.refl (o : Nat) (L : List Value) : Samo o L L := ⟨rfl, fun _ _ => rfl⟩
theorem Samo.trans {o : Nat} {L L' L'' : List Value} (h : Samo o L L') (k : Samo o L' L'') : Samo o L L'' := ⟨k.len.trans h.len, fun i hi => (k.out i hi).trans (h.out i hi)⟩
theorem Samo.set {o : Nat} {L L' : List Value} (h : Samo o L L') {i : Nat} (hi : i < 8) (v : Value) : Samo o L (L'.set (o + i) v) := by
  refine ⟨by rw [List.length_set]; exact h.len, fun j hj => ?_⟩
  rw [List.getElem?_set, if_neg (by omega)]
  exact h.out j hj
def rcs (vb va vg : Value) (gn : Nat) (ov en ea el : Bool) : List Value := [vb, va, vg, .int .i64 gn, .bool ov, .bool en, .bool ea, .bool el]
def robs (q : Nat) (vb va vg : Value) : List (Option Nat) := [some q, vb.ownBlock, va.ownBlock, vg.ownBlock]
def rqO (q : Nat) (vb va vg : Value) : Nat → Prop := fun b => some b ∈ robs q vb va vg
/-- The memory of the document's buffer. -/
structure Rr (w : World) (base q o : Nat) (T : TypeId) (L : List Value) (vb va vg : Value) (B : List Int) (C A : List Bool) (gn : Nat) (ov en ea el : Bool) : Prop where
  at_ : At w q T L
  cl : Rcell (rcs vb va vg gn ov en ea el) L o
  ob : Own w base 5 vb B
  oa : Ow w base 4 va (C.map .bool)
  og : Ow w base 4 vg (A.map .bool)
  dis : Dis (robs q vb va vg)
  bq : base ≤ q
section
variable {w w' : World} {base q o : Nat} {T : TypeId} {L : List Value} {vb va vg : Value} {B : List Int} {C A : List Bool} {gn : Nat} {ov en ea el : Bool}
theorem rqO_at {i k : Nat} (h : (robs q vb va vg)[i]? = some (some k)) : rqO q vb va vg k := List.mem_of_getElem? h
theorem Rr.lt (h : Rr w base q o T L vb va vg B C A gn ov en ea el) : ∀ k, rqO q vb va vg k → base ≤ k ∧ k < w.heap.size := by
  intro k hk
  unfold rqO robs at hk
  simp only [List.mem_cons, List.not_mem_nil, or_false] at hk
  rcases hk with hk | hk | hk | hk
  · injection hk with hk; subst hk; exact ⟨h.bq, h.at_.lt⟩
  · exact h.ob.block_lt k hk.symm
  · exact ow_lt h.oa k hk.symm
  · exact ow_lt h.og k hk.symm
theorem Rr.obs_lt (h : Rr w base q o T L vb va vg B C A gn ov en ea el) : ∀ j k : Nat, (robs q vb va vg)[j]? = some (some k) → k < w.heap.size := fun j k hj => (h.lt k (rqO_at hj)).2
theorem Rr.ne (h : Rr w base q o T L vb va vg B C A gn ov en ea el) {i j k k' : Nat} (hi : (robs q vb va vg)[i]? = some (some k)) (hj : (robs q vb va vg)[j]? = some (some k')) (hij : i ≠ j) : k ≠ k' := fun e => by
  subst e
  exact hij (h.dis i j k hi hj)
theorem Rr.kept {S : Nat → Prop} (h : Rr w base q o T L vb va vg B C A gn ov en ea el) (k : Kept S w w') (hs : ∀ j, rqO q vb va vg j → ¬ S j) : Rr w' base q o T L vb va vg B C A gn ov en ea el :=
  { h with
    at_ := h.at_.kept k (hs q (rqO_at (i := 0) rfl))
    ob := h.ob.kept k fun j hj => hs j (rqO_at (i := 1) (by rw [← hj]; rfl))
    oa := ow_kept h.oa k fun j hj => hs j (rqO_at (i := 2) (by rw [← hj]; rfl))
    og := ow_kept h.og k fun j hj => hs j (rqO_at (i := 3) (by rw [← hj]; rfl)) }
theorem Rr.below (h : Rr w base q o T L vb va vg B C A gn ov en ea el) (k : Below w.heap.size w w') : Rr w' base q o T L vb va vg B C A gn ov en ea el := h.kept (Kept.of_below k (fun _ => False)) fun _ _ h => h
theorem Rr.drewN (h : Rr w base q o T L vb va vg B C A gn ov en ea el) (n : Nat) : Rr (w.drewN n) base q o T L vb va vg B C A gn ov en ea el := h.kept ((Kept.refl (fun _ => False) w).drewN n) fun _ _ h => h
theorem Rr.cell (h : Rr w base q o T L vb va vg B C A gn ov en ea el) (i : Nat) {v : Value} (hv : (rcs vb va vg gn ov en ea el)[i]? = some v) : w.cell? ⟨q, o + i, none⟩ = some v := by rw [h.at_.cell]; exact h.cl i v hv
theorem Rr.c0 (h : Rr w base q o T L vb va vg B C A gn ov en ea el) : w.cell? ⟨q, o, none⟩ = some vb := h.cell 0 rfl
/-- The block itself is turned alone. -/
theorem Rr.top (h : Rr w base q o T L vb va vg B C A gn ov en ea el) (i : Nat) (v : Value) {gn' : Nat} {ov' en' ea' el' : Bool} (hc : (rcs vb va vg gn ov en ea el).set i v = rcs vb va vg gn' ov' en' ea' el') (hi : i < 8) :
    Rr (w.setCell ⟨q, o + i, none⟩ v) base q o T (L.set (o + i) v) vb va vg B C A gn' ov' en' ea' el' := by
  have k : Kept (· = q) w (w.setCell ⟨q, o + i, none⟩ v) := (Kept.refl _ _).setAt _ _
  refine { h with at_ := h.at_.set (o + i) v, cl := by rw [← hc]; exact h.cl.set i v hi, ob := h.ob.kept k fun j hj => h.ne (i := 1) (j := 0) (by rw [← hj]; rfl) rfl (by omega), oa := ow_kept h.oa k fun j hj => h.ne (i := 2) (j := 0) (by rw [← hj]; rfl) rfl (by omega), og := ow_kept h.og k fun j hj => h.ne (i := 3) (j := 0) (by rw [← hj]; rfl) rfl (by omega) }
/-- A row of flags is turned in its place. -/
theorem Rr.acks (h : Rr w base q o T L vb va vg B C A gn ov en ea el) {C' : List Bool} (ho : Ow w' base 4 va (C'.map .bool)) (k : Kept (fun j => va.ownBlock = some j) w w') : Rr w' base q o T L vb va vg B C' A gn ov en ea el :=
  { h with
    at_ := h.at_.kept k fun e => h.ne (i := 2) (j := 0) (k := q) (k' := q) (by rw [← e]; rfl) rfl (by omega) rfl
    ob := h.ob.kept k fun j hj e => h.ne (i := 1) (j := 2) (k := j) (k' := j) (by rw [← hj]; rfl) (by rw [← e]; rfl) (by omega) rfl
    oa := ho
    og := ow_kept h.og k fun j hj e => h.ne (i := 3) (j := 2) (k := j) (k' := j) (by rw [← hj]; rfl) (by rw [← e]; rfl) (by omega) rfl }
theorem Rr.agains (h : Rr w base q o T L vb va vg B C A gn ov en ea el) {A' : List Bool} (ho : Ow w' base 4 vg (A'.map .bool)) (k : Kept (fun j => vg.ownBlock = some j) w w') : Rr w' base q o T L vb va vg B C A' gn ov en ea el :=
  { h with
    at_ := h.at_.kept k fun e => h.ne (i := 3) (j := 0) (k := q) (k' := q) (by rw [← e]; rfl) rfl (by omega) rfl
    ob := h.ob.kept k fun j hj e => h.ne (i := 1) (j := 3) (k := j) (k' := j) (by rw [← hj]; rfl) (by rw [← e]; rfl) (by omega) rfl
    oa := ow_kept h.oa k fun j hj e => h.ne (i := 2) (j := 3) (k := j) (k' := j) (by rw [← hj]; rfl) (by rw [← e]; rfl) (by omega) rfl
    og := ho }
end
/-- A row of flags that the call made: a flag is read, is set. -/
theorem owb_get {w : World} {base n c : Nat} {A : Option Addr} {F : List Bool} (h : Ow w base 4 (.slice A n c) (F.map .bool)) {i : Nat} {b : Bool} (hi : F[i]? = some b) : ∃ g, A = some ⟨g, 0, none⟩ ∧ w.cell? ⟨g, i, none⟩ = some (.bool b) ∧ w.frozen? ⟨g, i, none⟩ = false ∧ ∀ x, Ow (w.setCell ⟨g, i, none⟩ (.bool x)) base 4 (.slice A n c) ((F.set i x).map .bool) ∧ Kept (fun j => (Value.slice A n c).ownBlock = some j) w (w.setCell ⟨g, i, none⟩ (.bool x)) := by
  obtain ⟨A', c', e, hn, hm, ho⟩ := ow_open h
  injection e with e1 e2 e3
  subst e1; subst e3
  have hil := (List.getElem?_eq_some_iff.1 hi).1
  rcases ho with ⟨_, _, hx⟩ | ⟨g, cur, rfl, hb, hlt, hA, hcl, ht⟩
  · simp at hx
    subst hx
    simp at hil
  · have hci : cur[i]? = some (.bool b) := by
      have : (cur.take (F.map Value.bool).length)[i]? = some (.bool b) := by rw [ht, List.getElem?_map, hi]; rfl
      rw [List.getElem?_take_of_lt (by rw [List.length_map]; exact hil)] at this
      exact this
    refine ⟨g, rfl, by rw [hA.cell]; exact hci, hA.frozen i, fun x => ⟨?_, (Kept.refl (fun j => (Value.slice (some ⟨g, 0, none⟩) n c).ownBlock = some j) w).setCell (p := ⟨g, i, none⟩) (.inl rfl) _⟩⟩
    have hm' := ow_mk (base := base) (xs := (F.set i x).map Value.bool) (c := c) hb (hA.set i (.bool x)) (by simpa using hn) hm (by rw [List.length_set]; exact hcl) (by
      rw [List.length_map, List.length_set]
      rw [List.length_map] at ht
      rw [List.take_set, ht, List.map_set])
    rw [List.length_map, List.length_set] at hm'
    rw [List.length_map] at e2
    rw [← e2] at hm'
    exact hm'
/-- The document's buffer, its block's cells L, the blocks that it has. -/
def Rs (w : World) (base q o : Nat) (T : TypeId) (L : List Value) (O : Nat → Prop) (S : OS) : Prop :=
  ∃ vb va vg C A, O = rqO q vb va vg ∧ Rr w base q o T L vb va vg S.bs C A S.gn S.ov S.en S.ea S.el ∧ Rf S C A
section
variable {w w' : World} {base q o : Nat} {T : TypeId} {L : List Value} {O : Nat → Prop} {S : OS}
theorem Rs.lt (h : Rs w base q o T L O S) : ∀ b, O b → base ≤ b ∧ b < w.heap.size := by
  obtain ⟨vb, va, vg, C, A, rfl, h, _⟩ := h
  exact h.lt
theorem Rs.kept {X : Nat → Prop} (h : Rs w base q o T L O S) (k : Kept X w w') (hs : ∀ b, O b → ¬ X b) : Rs w' base q o T L O S := by
  obtain ⟨vb, va, vg, C, A, rfl, h, hf⟩ := h
  exact ⟨vb, va, vg, C, A, rfl, h.kept k hs, hf⟩
theorem Rs.below (h : Rs w base q o T L O S) (k : Below w.heap.size w w') : Rs w' base q o T L O S := h.kept (Kept.of_below k (fun _ => False)) fun _ _ h => h
theorem Rs.drewN (h : Rs w base q o T L O S) (n : Nat) : Rs (w.drewN n) base q o T L O S := h.kept ((Kept.refl (fun _ => False) w).drewN n) fun _ _ h => h
end
/-- What a call that changes the document's buffer leaves. -/
def RsPost (r : Value) (base q o : Nat) (T : TypeId) (L : List Value) (O : Nat → Prop) (S' : OS) (w : World) (e : Ending) (w' : World) : Prop :=
  e = .returned r ∧ ∃ L' O', Rs w' base q o T L' O' S' ∧ Samo o L L' ∧ Kept O w w' ∧ ∀ j, O' j → O j ∨ w.heap.size ≤ j
/-- Its rows as slices. -/
theorem Rs.open_ {w : World} {base q o : Nat} {T : TypeId} {L : List Value} {O : Nat → Prop} {S : OS} (h : Rs w base q o T L O S) :
    ∃ Ab cb Aa ca Ag cg C A, O = rqO q (.slice Ab S.bs.length cb) (.slice Aa S.bs.length ca) (.slice Ag S.bs.length cg) ∧ Rr w base q o T L (.slice Ab S.bs.length cb) (.slice Aa S.bs.length ca) (.slice Ag S.bs.length cg) S.bs C A S.gn S.ov S.en S.ea S.el ∧ Rf S C A ∧ C.length = S.bs.length ∧ A.length = S.bs.length := by
  obtain ⟨vb, va, vg, C, A, rfl, hr, hf⟩ := h
  obtain ⟨l1, l2⟩ := hf.len
  obtain ⟨Ab, cb, rfl, _, _, _⟩ := hr.ob.open_
  obtain ⟨Aa, ca, e1, _, _, _⟩ := ow_open hr.oa
  obtain ⟨Ag, cg, e2, _, _, _⟩ := ow_open hr.og
  rw [List.length_map, l1] at e1
  rw [List.length_map, l2] at e2
  subst e1; subst e2
  exact ⟨Ab, cb, Aa, ca, Ag, cg, C, A, rfl, hr, hf, l1, l2⟩
section
variable {w : World} {base q o : Nat} {T : TypeId} {L : List Value} {O : Nat → Prop} {S : OS}
set_option maxHeartbeats 2000000 in
set_option maxRecDepth 100000 in
theorem rbase_any (h : Rs w base q o T L O S) (hL : S.bs.length ≤ 1000000) : Calls Tryz.prog 50 #[.pointer (some ⟨q, o, none⟩)] w fun e w' => e = .returned (.int .i64 (baseO S)) ∧ w' = w := by
  obtain ⟨Ab, cb, Aa, ca, Ag, cg, C, A, _, hr, hf, l1, l2⟩ := h.open_
  have c0 := hr.c0
  have c1 := hr.cell 1 rfl
  have HC : Hid (∀ i, i < S.bs.length → ∃ g, Aa = some ⟨g, 0, none⟩ ∧ w.cell? ⟨g, i, none⟩ = some (.bool (S.ak i))) := Lib.hid (fun i hi => by
    obtain ⟨g, h1, h2, _⟩ := owb_get hr.oa (i := i) (b := S.ak i) (by rw [hf.c]; exact tabB_get _ _ _ hi)
    exact ⟨g, h1, h2⟩)
  have HB : Hid (baseO S ≤ S.bs.length ∧ (∀ j, j < baseO S → S.ak j = true) ∧ (baseO S < S.bs.length → S.ak (baseO S) = false)) := Lib.hid ⟨baseO_le S, fun j hj => by have := runF_all S.ak S.bs.length 0 j hj; rwa [Nat.zero_add] at this, fun hl => by have := runF_stop S.ak S.bs.length 0 hl; rwa [Nat.zero_add] at this⟩
  clear hr hf h
  generalize S.bs.length = n at *
  generalize baseO S = b at *
  go_enter Tryz.func50, Tryz.ntmps50
  go_wp2
  go_loopg [3] n (fun kx s3 wr => ∃ k : Nat, s3 = .int .i64 k ∧ k ≤ b ∧ n - k ≤ kx ∧ wr = w)
  case atStart => exact ⟨0, rfl, Nat.zero_le _, by omega, rfl⟩
  case round =>
    obtain ⟨k, rfl, hkb, hkx, rfl⟩ := hrel
    obtain ⟨hb1, hb2, hb3⟩ := HB.out
    rcases Nat.lt_or_ge k n with hkn | hkn
    · have hkz : (k : Int) < (n : Int) := by omega
      obtain ⟨g, rfl, cg1⟩ := HC.out k hkn
      rcases Nat.lt_or_ge k b with hk | hk
      · rw [hb2 k hk] at cg1
        clear hb2 hb3
        go_wp2
        go_roundg (n - (k + 1))
        case measure => omega
        case rel => exact ⟨k + 1, by simp, by omega, Nat.le_refl _, rfl⟩
      · obtain rfl : k = b := by omega
        rw [hb3 hkn] at cg1
        clear hb2 hb3
        go_wp2
        go_ret
        exact ⟨rfl, rfl⟩
    · have hkz : ¬ (k : Int) < (n : Int) := by omega
      obtain rfl : k = b := by omega
      clear hb2 hb3
      go_wp2
      go_ret
      exact ⟨rfl, rfl⟩
theorem rroom_any (h : Rs w base q o T L O S) (hok : S.ok) (hL : S.bs.length ≤ 1000000) : Calls Tryz.prog 31 #[.pointer (some ⟨q, o, none⟩)] w fun e w' => e = .returned (.int .i64 (roomO S)) ∧ ∃ d, w' = w.drewN d := by
  have HB := Lib.hid (fun d => Calls.quiet_of_same (rbase_any (h.drewN d) hL))
  obtain ⟨Ab, cb, Aa, ca, Ag, cg, C, A, _, hr, _⟩ := h.open_
  have c0 := hr.c0
  have c4 := hr.cell 4 rfl
  have hb := baseO_le S
  have hrm := hok.rm
  clear hr h
  unfold roomO
  obtain ⟨x, hx⟩ : ∃ x, x = S.bs.length - baseO S := ⟨_, rfl⟩
  obtain ⟨y, hy⟩ : ∃ y, y = 2048 - x := ⟨_, rfl⟩
  have zx : (S.bs.length : Int) - (baseO S : Int) = (x : Int) := by omega
  have zy : (2048 : Int) - (x : Int) = (y : Int) := by omega
  have hxb : x ≤ 2048 := by omega
  have hyb : y ≤ 2048 := by omega
  rw [← hx, ← hy]
  clear hx hy hrm
  generalize S.bs.length = n at *
  generalize baseO S = b at *
  cases hov : S.ov
  · rw [hov] at c4
    go_enter Tryz.func31, Tryz.ntmps31
    go_wp2
    go_quiet ((go_at_call 50; (with_reducible exact HB.out _)))
    go_wp2
    go_ret
    exact ⟨by simp, _, rfl⟩
  · rw [hov] at c4
    go_enter Tryz.func31, Tryz.ntmps31
    go_wp2
    go_ret
    exact ⟨by simp, 0, rfl⟩
theorem rend_any (h : Rs w base q o T L O S) : Calls Tryz.prog 61 #[.pointer (some ⟨q, o, none⟩)] w fun e w' => e = .returned (.bool (endO S)) ∧ w' = w := by
  obtain ⟨vb, va, vg, C, A, _, hr, _⟩ := h
  have c4 := hr.cell 4 rfl
  have c5 := hr.cell 5 rfl
  have c6 := hr.cell 6 rfl
  have c7 := hr.cell 7 rfl
  clear hr
  unfold endO
  cases hov : S.ov <;> cases hea : S.ea <;> cases hen : S.en <;> rw [hov] at c4 <;> rw [hen] at c5 <;> rw [hea] at c6
  all_goals go_enter Tryz.func61, Tryz.ntmps61
  all_goals go_wp2
  all_goals go_ret
  all_goals exact ⟨by simp, rfl⟩
theorem rfinish_any (h : Rs w base q o T L O S) : Calls Tryz.prog 34 #[.pointer (some ⟨q, o, none⟩)] w (RsPost (.bool (!S.ov)) base q o T L O (finO S) w) := by
  obtain ⟨vb, va, vg, C, A, rfl, hr, hf⟩ := h
  have c4 := hr.cell 4 rfl
  have f4 := hr.at_.frozen (o + 4)
  have HP : Hid (RsPost (.bool (!S.ov)) base q o T L (rqO q vb va vg) (finO S) w (.returned (.bool (!S.ov))) (w.setCell ⟨q, o + 4, none⟩ (.bool true))) := Lib.hid ⟨rfl, _, _, ⟨vb, va, vg, C, A, rfl, hr.top 4 (.bool true) rfl (by omega), ⟨hf.c, hf.a⟩⟩, (Samo.refl o L).set (by omega) _, (Kept.refl _ _).setCell (p := ⟨q, o + 4, none⟩) (.inl (rqO_at (i := 0) rfl)) _, fun j hj => .inl hj⟩
  clear hr hf
  generalize S.ov = ov at *
  go_enter Tryz.func34, Tryz.ntmps34
  go_wp2
  go_ret
  exact HP.out
theorem rwhole_any (h : Rs w base q o T L O S) (hL : S.bs.length ≤ 1000000) : Calls Tryz.prog 43 #[.pointer (some ⟨q, o, none⟩)] w fun e w' => e = .returned (.bool (wholeO S)) ∧ ∃ d, w' = w.drewN d := by
  have HB := Lib.hid (fun d => Calls.quiet_of_same (rbase_any (h.drewN d) hL))
  obtain ⟨Ab, cb, Aa, ca, Ag, cg, C, A, _, hr, _⟩ := h.open_
  have c0 := hr.c0
  have c4 := hr.cell 4 rfl
  have c6 := hr.cell 6 rfl
  clear hr h
  unfold wholeO
  generalize S.bs.length = n at *
  generalize baseO S = b at *
  cases hov : S.ov
  · rw [hov] at c4
    go_enter Tryz.func43, Tryz.ntmps43
    go_wp2
    go_quiet (fail)
    go_wp2
    go_ret
    exact ⟨by simp, _, rfl⟩
  · rw [hov] at c4
    by_cases hbn : b = n
    · subst hbn
      go_enter Tryz.func43, Tryz.ntmps43
      go_wp2
      go_quiet ((go_at_call 50; (with_reducible exact HB.out _)))
      go_wp2
      go_ret
      exact ⟨by simp, _, rfl⟩
    · have hbz : ¬ (b : Int) = (n : Int) := by omega
      go_enter Tryz.func43, Tryz.ntmps43
      go_wp2
      go_quiet ((go_at_call 50; (with_reducible exact HB.out _)))
      go_wp2
      go_ret
      exact ⟨by simp [hbn], _, rfl⟩
end
end
section
set_option linter.unusedVariables false
set_option linter.unusedSimpArgs false
open Go.RowKit
section
variable {w : World} {base q o : Nat} {T : TypeId} {L : List Value} {O : Nat → Prop} {S : OS}
theorem first_is {S : OS} {i : Nat} (hi : i < S.gn) (h : ∀ j, j < i → S.ag j = false) (ha : S.ag i = true) : firstO S = i :=
  runF_is (by omega) (fun j hj => by rw [Nat.zero_add, h j hj]; rfl) fun _ => by rw [Nat.zero_add, ha]; rfl
theorem first_gn {S : OS} (h : ∀ j, j < S.gn → S.ag j = false) : firstO S = S.gn :=
  runF_is (Nat.le_refl _) (fun j hj => by rw [Nat.zero_add, h j hj]; rfl) fun hl => absurd hl (by omega)
def dfrV (p : Nat × Nat) : Value := .tuple #[.int .i64 p.1, .int .i64 p.2]
set_option maxHeartbeats 16000000 in
set_option maxRecDepth 100000 in
theorem rfrom_any (h : Rs w base q o T L O S) (hok : S.ok) (hL : S.bs.length ≤ 1000000) (M limit : Nat) (hM : M < 4611686018427387904) (hl : limit < 18446744073709551616) : Calls Tryz.prog 60 #[.pointer (some ⟨q, o, none⟩), .int .i64 M, .int .u64 limit] w fun e w' => e = .returned (dfrV (fromO S M limit)) ∧ ∃ d, w' = w.drewN d := by
  obtain ⟨Ab, cb, Aa, ca, Ag, cg, C, A, _, hr, hf, l1, l2⟩ := h.open_
  have c0 := hr.c0
  have c1 := hr.cell 1 rfl
  have c2 := hr.cell 2 rfl
  have c3 := hr.cell 3 rfl
  obtain ⟨hfc, aw, hfa, hag, haw⟩ := hf
  have hgl := hok.gl
  have HC : Hid (∀ i, i < S.bs.length → ∃ g, Aa = some ⟨g, 0, none⟩ ∧ w.cell? ⟨g, i, none⟩ = some (.bool (S.ak i))) := Lib.hid (fun i hi => by
    obtain ⟨g, h1, h2, _⟩ := owb_get hr.oa (i := i) (b := S.ak i) (by rw [hfc]; exact tabB_get _ _ _ hi)
    exact ⟨g, h1, h2⟩)
  have HG : Hid (∀ i, i < S.bs.length → ∃ g, Ag = some ⟨g, 0, none⟩ ∧ w.cell? ⟨g, i, none⟩ = some (.bool (aw i))) := Lib.hid (fun i hi => by
    obtain ⟨g, h1, h2, _⟩ := owb_get hr.og (i := i) (b := aw i) (by rw [hfa]; exact tabB_get _ _ _ hi)
    exact ⟨g, h1, h2⟩)
  have HF1 : Hid (∀ i, i < S.gn → (∀ j, j < i → S.ag j = false) → S.ag i = true → fromO S M limit = (i, i + runF S.ag i (min M (S.gn - i)))) := Lib.hid (fun i hi h1 h2 => by
    unfold fromO
    rw [first_is hi h1 h2, if_pos hi])
  have HF2 : Hid ((∀ j, j < S.gn → S.ag j = false) → fromO S M limit = (S.gn, max S.gn (min (min S.bs.length limit) (S.gn + M)))) := Lib.hid (fun h1 => by
    unfold fromO
    rw [first_gn h1, if_neg (by omega)])
  have HRN : Hid (∀ i t, t ≤ runF S.ag i (min M (S.gn - i)) → t < runF S.ag i (min M (S.gn - i)) → S.ag (i + t) = true) := Lib.hid (fun i t _ h2 => runF_all S.ag _ i t h2)
  have HRL := Lib.hid (fun i => runF_le S.ag (min M (S.gn - i)) i)
  have HRS := Lib.hid (fun i (h : runF S.ag i (min M (S.gn - i)) < min M (S.gn - i)) => runF_stop S.ag _ i h)
  have HAG := Lib.hid hag
  clear hr hfc hfa hag haw h hok
  have hwl : ∀ x : Nat, x ≤ 1000000 → IntKind.i64.wrap (x : Int) = (x : Int) := fun x hx => by rw [IntKind.wrap_i64]; omega
  have HWL := Lib.hid hwl
  clear hwl
  have wlen : IntKind.u64.wrap (S.bs.length : Int) = (S.bs.length : Int) := by rw [IntKind.wrap_u64]; omega
  generalize fromO S M limit = R at *
  generalize S.bs.length = n at *
  generalize S.gn = gn at *
  go_enter Tryz.func60, Tryz.ntmps60
  go_wp2
  go_loopg [8] gn (fun kx s8 wr => ∃ i : Nat, s8 = .int .i64 i ∧ i ≤ gn ∧ gn - i ≤ kx ∧ wr = w ∧ Hid (∀ j, j < i → S.ag j = false))
  case atStart => exact ⟨0, rfl, Nat.zero_le _, by omega, rfl, Lib.hid (fun j hj => absurd hj (by omega))⟩
  case round =>
    obtain ⟨i, rfl, hig, hkx, rfl, hno⟩ := hrel
    rcases Nat.lt_or_ge i gn with hi | hi
    · have hiz : (i : Int) < (gn : Int) := by omega
      have hin : (i : Int) < (n : Int) := by omega
      obtain ⟨g1, hA1, k1⟩ := HG.out i (by omega)
      obtain ⟨g2, hA2, k2⟩ := HC.out i (by omega)
      subst hA1
      subst hA2
      have hai := HAG.out i
      cases h1 : aw i with
      | false =>
        rw [h1] at k1 hai
        have HNO : Hid (∀ j, j < i + 1 → S.ag j = false) := Lib.hid (fun j hj => by
          rcases Nat.lt_or_ge j i with h | h
          · exact hno.out j h
          · obtain rfl : j = i := by omega
            rw [hai]; rfl)
        clear hai h1
        go_wp2
        go_roundg (gn - (i + 1))
        case measure => omega
        case rel => exact ⟨i + 1, by simp, by omega, Nat.le_refl _, rfl, HNO⟩
      | true =>
        cases h2 : S.ak i with
        | true =>
          rw [h1] at k1 hai
          rw [h2] at k2 hai
          have HNO : Hid (∀ j, j < i + 1 → S.ag j = false) := Lib.hid (fun j hj => by
            rcases Nat.lt_or_ge j i with h | h
            · exact hno.out j h
            · obtain rfl : j = i := by omega
              rw [hai]; rfl)
          clear hai h1 h2
          go_wp2
          go_roundg (gn - (i + 1))
          case measure => omega
          case rel => exact ⟨i + 1, by simp, by omega, Nat.le_refl _, rfl, HNO⟩
        | false =>
          rw [h1] at k1 hai
          rw [h2] at k2 hai
          have HR := Lib.hid (HF1.out i hi hno.out (by rw [hai]; rfl))
          clear hai h1 h2 hno
          go_wp2
          obtain ⟨rl, hrl⟩ : ∃ rl, rl = runF S.ag i (min M (gn - i)) := ⟨_, rfl⟩
          have HRLE : Hid (rl = runF S.ag i (min M (gn - i))) := Lib.hid hrl
          rw [← hrl] at HR
          clear hrl
          generalize hwo : wr = wo at *
          have HWO := Lib.hid hwo
          clear hwo
          go_loopg [9] gn (fun ky s9 wi => ∃ t : Nat, s9 = .int .i64 (i + t : Nat) ∧ t ≤ rl ∧ gn - t ≤ ky ∧ wi = wo)
          case atStart => exact ⟨0, rfl, Nat.zero_le _, by omega, rfl⟩
          case round =>
            obtain ⟨t, rfl, htr, hky, rfl⟩ := hrel
            have hrm : rl ≤ min M (gn - i) := by rw [HRLE.out]; exact HRL.out i
            obtain ⟨k, hk⟩ : ∃ k, k = i + t := ⟨_, rfl⟩
            rw [← hk]
            have zki : (k : Int) - (i : Int) = (t : Int) := by omega
            have HKT := Lib.hid hk
            have hkb : k ≤ 1000000 := by omega
            have htb : t ≤ 1000000 := by omega
            have htM : t ≤ M := by omega
            rcases Nat.lt_or_ge t rl with ht | ht
            · have hkg : (k : Int) < (gn : Int) := by omega
              have htm : (t : Int) < (M : Int) := by omega
              have hkn : (k : Int) < (n : Int) := by omega
              have hak : S.ag k = true := by
                rw [hk]
                exact HRN.out i t (by rw [← HRLE.out]; omega) (by rw [← HRLE.out]; exact ht)
              obtain ⟨g3, hA3, k3⟩ := HG.out k (by omega)
              obtain ⟨g4, hA4, k4⟩ := HC.out k (by omega)
              injection hA3 with hA3
              injection hA3 with hA3
              injection hA4 with hA4
              injection hA4 with hA4
              subst hA3
              subst hA4
              rw [HAG.out k, Bool.and_eq_true] at hak
              rw [hak.1] at k3
              rw [show S.ak k = false by have := hak.2; simpa using this] at k4
              clear hak hk hrm
              go_wp2
              go_roundg (gn - (t + 1))
              case measure => omega
              case rel => exact ⟨t + 1, by have := HKT.out; congr 1; omega, by omega, Nat.le_refl _, rfl⟩
            · obtain rfl : t = rl := by omega
              have hRk : R = (i, k) := by rw [HR.out, HKT.out]
              clear hk hrm
              by_cases h5 : k < gn
              · have hkg : (k : Int) < (gn : Int) := by omega
                have hkn : (k : Int) < (n : Int) := by omega
                by_cases h6 : t < M
                · have htm : (t : Int) < (M : Int) := by omega
                  have hak : S.ag k = false := by
                    rw [HKT.out, HRLE.out]
                    refine HRS.out i ?_
                    have := HRLE.out
                    have := HKT.out
                    omega
                  obtain ⟨g3, hA3, k3⟩ := HG.out k (by omega)
                  obtain ⟨g4, hA4, k4⟩ := HC.out k (by omega)
                  injection hA3 with hA3
                  injection hA3 with hA3
                  injection hA4 with hA4
                  injection hA4 with hA4
                  subst hA3
                  subst hA4
                  rw [HAG.out k] at hak
                  have HRk := Lib.hid hRk
                  cases h7 : aw k with
                  | false =>
                    rw [h7] at k3
                    clear hak h7 hRk
                    go_wp2
                    go_ret2
                    exact ⟨by rw [HRk.out]; rfl, 0, HWO.out.symm⟩
                  | true =>
                    rw [h7] at k3 hak
                    have h8 : S.ak k = true := by simpa using hak
                    rw [h8] at k4
                    clear hak h7 h8 hRk
                    go_wp2
                    go_ret2
                    exact ⟨by rw [HRk.out]; rfl, 0, HWO.out.symm⟩
                · have htm : ¬ (t : Int) < (M : Int) := by omega
                  have HRk := Lib.hid hRk
                  clear hRk
                  go_wp2
                  go_ret2
                  exact ⟨by rw [HRk.out]; rfl, 0, HWO.out.symm⟩
              · have hkg : ¬ (k : Int) < (gn : Int) := by omega
                have HRk := Lib.hid hRk
                clear hRk
                go_wp2
                go_ret2
                exact ⟨by rw [HRk.out]; rfl, 0, HWO.out.symm⟩
    · obtain rfl : i = gn := by omega
      have hiz : ¬ (i : Int) < (i : Int) := by omega
      have HR := Lib.hid (HF2.out hno.out)
      have hMz : ¬ (M : Int) < 0 := by omega
      obtain ⟨y, hy⟩ : ∃ y, y = i + M := ⟨_, rfl⟩
      have zy : (i : Int) + (M : Int) = (y : Int) := by omega
      have wy : IntKind.i64.wrap (y : Int) = (y : Int) := by rw [IntKind.wrap_i64]; omega
      have hyb : y < 9223372036854775808 := by omega
      rcases Nat.lt_or_ge limit n with h1 | h1
      · have h1z : (limit : Int) < (n : Int) := by omega
        have wl := HWL.out limit (by omega)
        rcases Nat.lt_or_ge y limit with h2 | h2
        · have h2z : (y : Int) < (limit : Int) := by omega
          rcases Nat.lt_or_ge i y with h3 | h3
          · have h3z : (i : Int) < (y : Int) := by omega
            have hRk : R = (i, y) := by rw [HR.out]; congr 1; omega
            have HRk := Lib.hid hRk
            clear hRk hy
            go_wp2
            have hMz : ¬ (M : Int) < 0 := by omega
            have h2z : (y : Int) < (limit : Int) := by omega
            have h3z : (i : Int) < (y : Int) := by omega
            go_quiet (fail)
            go_wp2
            go_ret2
            exact ⟨by rw [HRk.out]; rfl, _, rfl⟩
          · have h3z : ¬ (i : Int) < (y : Int) := by omega
            have hRk : R = (i, i) := by rw [HR.out]; congr 1; omega
            have HRk := Lib.hid hRk
            clear hRk hy
            go_wp2
            have hMz : ¬ (M : Int) < 0 := by omega
            have h2z : (y : Int) < (limit : Int) := by omega
            have h3z : ¬ (i : Int) < (y : Int) := by omega
            go_quiet (fail)
            go_wp2
            go_ret2
            exact ⟨by rw [HRk.out]; rfl, _, rfl⟩
        · have h2z : ¬ (y : Int) < (limit : Int) := by omega
          rcases Nat.lt_or_ge i limit with h3 | h3
          · have h3z : (i : Int) < (limit : Int) := by omega
            have hRk : R = (i, limit) := by rw [HR.out]; congr 1; omega
            have HRk := Lib.hid hRk
            clear hRk hy
            go_wp2
            have hMz : ¬ (M : Int) < 0 := by omega
            have h2z : ¬ (y : Int) < (limit : Int) := by omega
            have h3z : (i : Int) < (limit : Int) := by omega
            go_quiet (fail)
            go_wp2
            go_ret2
            exact ⟨by rw [HRk.out]; rfl, _, rfl⟩
          · have h3z : ¬ (i : Int) < (limit : Int) := by omega
            have hRk : R = (i, i) := by rw [HR.out]; congr 1; omega
            have HRk := Lib.hid hRk
            clear hRk hy
            go_wp2
            have hMz : ¬ (M : Int) < 0 := by omega
            have h2z : ¬ (y : Int) < (limit : Int) := by omega
            have h3z : ¬ (i : Int) < (limit : Int) := by omega
            go_quiet (fail)
            go_wp2
            go_ret2
            exact ⟨by rw [HRk.out]; rfl, _, rfl⟩
      · have h1z : ¬ (limit : Int) < (n : Int) := by omega
        rcases Nat.lt_or_ge y n with h2 | h2
        · have h2z : (y : Int) < (n : Int) := by omega
          rcases Nat.lt_or_ge i y with h3 | h3
          · have h3z : (i : Int) < (y : Int) := by omega
            have hRk : R = (i, y) := by rw [HR.out]; congr 1; omega
            have HRk := Lib.hid hRk
            clear hRk hy
            go_wp2
            have hMz : ¬ (M : Int) < 0 := by omega
            have h2z : (y : Int) < (n : Int) := by omega
            have h3z : (i : Int) < (y : Int) := by omega
            go_quiet (fail)
            go_wp2
            go_ret2
            exact ⟨by rw [HRk.out]; rfl, _, rfl⟩
          · have h3z : ¬ (i : Int) < (y : Int) := by omega
            have hRk : R = (i, i) := by rw [HR.out]; congr 1; omega
            have HRk := Lib.hid hRk
            clear hRk hy
            go_wp2
            have hMz : ¬ (M : Int) < 0 := by omega
            have h2z : (y : Int) < (n : Int) := by omega
            have h3z : ¬ (i : Int) < (y : Int) := by omega
            go_quiet (fail)
            go_wp2
            go_ret2
            exact ⟨by rw [HRk.out]; rfl, _, rfl⟩
        · have h2z : ¬ (y : Int) < (n : Int) := by omega
          rcases Nat.lt_or_ge i n with h3 | h3
          · have h3z : (i : Int) < (n : Int) := by omega
            have hRk : R = (i, n) := by rw [HR.out]; congr 1; omega
            have HRk := Lib.hid hRk
            clear hRk hy
            go_wp2
            have hMz : ¬ (M : Int) < 0 := by omega
            have h2z : ¬ (y : Int) < (n : Int) := by omega
            have h3z : (i : Int) < (n : Int) := by omega
            go_quiet (fail)
            go_wp2
            go_ret2
            exact ⟨by rw [HRk.out]; rfl, _, rfl⟩
          · have h3z : ¬ (i : Int) < (n : Int) := by omega
            have hRk : R = (i, i) := by rw [HR.out]; congr 1; omega
            have HRk := Lib.hid hRk
            clear hRk hy
            go_wp2
            have hMz : ¬ (M : Int) < 0 := by omega
            have h2z : ¬ (y : Int) < (n : Int) := by omega
            have h3z : ¬ (i : Int) < (n : Int) := by omega
            go_quiet (fail)
            go_wp2
            go_ret2
            exact ⟨by rw [HRk.out]; rfl, _, rfl⟩
end
end
end Go.Proofs.YtbejpafephofaaaGreat
