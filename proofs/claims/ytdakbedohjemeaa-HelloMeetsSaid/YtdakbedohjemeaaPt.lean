/-
  What was read of params so far (param.taken): once, a number's text, a name's text.
-/
import Derived.Test.YtdakbedohjemeaaMq8
import Derived.Test.YtdakbedohjemeaaMq6
import Derived.Laws.CopyOwn
namespace Go.Proofs.Ytdakbedohjemeaa
set_option linter.unusedVariables false
set_option linter.unusedSimpArgs false
open Go.RowKit Go.ChangeShapes Go.WideShapes Go.Deep
theorem Kept.setRow {S : Nat → Prop} {w w' : World} (h : Kept S w w') {g : Nat} (hg : S g) (cs : Array Value) : Kept S w (w'.setRow g cs) :=
  ⟨h.os, h.tape, h.output, by simpa [World.setRow] using h.size, fun j hj hn => (setRow_other w' g j cs (by rintro rfl; exact hn hg)).trans (h.block j hj hn)⟩
section
variable {P : Program} {ops : Array Oper} {rest : List Oper} {a : Act} {w : World} {Q : Exit → Act → World → Prop}
/-- copy into a block's cells, as many as there is room for. -/
theorem wpList_copy_at {o : Oper} (hgd : o.guard = none) (d s : Operand) (dT sT : TypeId) (ho : o.op = .call { callee := .builtin .copy, args := #[d, s], argTypes := #[dT, sT] }) (elem : TypeId) (hu : P.underlying dT = some (.slice elem)) (hsz : (P.info? elem).map (·.size) = some 1)
    (g off dLen dCap n c : Nat) (A : Option Addr) (hd : a.eval d = .slice (some ⟨g, off, none⟩) dLen dCap) (hs : a.eval s = .slice A n c) (l : List Value) (T : TypeId) (hA : At w g T l) (bs : List Int) (B : Nat) (hr : Rd w B A n bs) (hfit : off + dLen ≤ l.length)
    (h : ∀ w', At w' g T (splice l off ((bs.take dLen).map (Value.int .u8))) → Kept (· = g) w w' → wpList P ops Q rest (a.put o.dst (goInt ((min n dLen : Nat) : Int))) w') : wpList P ops Q (o :: rest) a w := by
  have hl : ((bs.take dLen).map (Value.int .u8)).length = min n dLen := by rw [List.length_map, List.length_take, hr.1, Nat.min_comm]
  by_cases h0 : min n dLen = 0
  · refine wpList_copy_nothing hgd d s dT sT ho elem hu hsz _ A dLen dCap n c hd hs h0 ?_
    have h1 := h w ?_ (Kept.refl _ _)
    · rw [h0] at h1; exact h1
    · rw [List.eq_nil_of_length_eq_zero (hl.trans h0)]
      simpa [splice] using hA
  · have hp : 0 < n := by omega
    obtain ⟨ad, rfl, hc⟩ := hr.cells hp
    refine wpList_copy_own hgd d s dT sT ho elem hu hsz g off dLen dCap ad n c hd hs l.toArray T hA ((bs.take dLen).map (Value.int .u8)) hl ?_ ?_ ?_ ?_
    · intro j v hj
      refine hc j v ?_
      rw [List.getElem?_map] at hj ⊢
      rw [List.getElem?_take] at hj
      split at hj
      · exact hj
      · cases hj
    · rw [hl]; simp; omega
    · intro v hv
      obtain ⟨x, _, rfl⟩ := List.mem_map.1 hv
      rfl
    · rw [hl]
      refine h _ ?_ (Kept.setRow (S := (· = g)) (Kept.refl _ _) rfl _)
      have := setRow_heap w g _ (splice l off ((bs.take dLen).map (Value.int .u8))).toArray T _ hA
      have e : min n dLen = min dLen bs.length := by rw [hr.1, Nat.min_comm]
      simpa [splice, hl, At, e] using this
end
/-- What was read so far; which names came. -/
structure TK where
  p : PN
  z : Bool
  i : Bool
  d : Bool
  s : Bool
  m : Bool
def TK.zero : TK := ⟨.zero, false, false, false, false, false⟩
def tkL (t : TK) : List Value := pmL t.p ++ [.bool t.z, .bool t.i, .bool false, .bool false, .bool t.d, .bool t.s, .bool false, .bool false, .bool t.m]
theorem tkL_len (t : TK) : (tkL t).length = 21 := rfl
/-- Is it just one number? -/
def numOk (bs : List Int) : Bool := !(varN (bs, false)).2 && ((varN (bs, false)).1.length == 0)
def numV (bs : List Int) : Int := varR (bs, false)
def takeS (t : TK) (id : Int) (bs : List Int) : Option TK :=
  if id = 0 then (if !t.z && bs.length == 8 then some ⟨⟨t.p.i, t.p.d, t.p.s, t.p.m, N8.of bs⟩, true, t.i, t.d, t.s, t.m⟩ else none)
  else if id = 1 then (if !t.i && numOk bs then some ⟨⟨numV bs, t.p.d, t.p.s, t.p.m, t.p.c⟩, t.z, true, t.d, t.s, t.m⟩ else none)
  else if id = 4 then (if !t.d && numOk bs then some ⟨⟨t.p.i, numV bs, t.p.s, t.p.m, t.p.c⟩, t.z, t.i, true, t.s, t.m⟩ else none)
  else if id = 5 then (if !t.s && numOk bs then some ⟨⟨t.p.i, t.p.d, numV bs, t.p.m, t.p.c⟩, t.z, t.i, t.d, true, t.m⟩ else none)
  else if id = 8 then (if !t.m && numOk bs then some ⟨⟨t.p.i, t.p.d, t.p.s, numV bs, t.p.c⟩, t.z, t.i, t.d, t.s, true⟩ else none)
  else some t
set_option maxRecDepth 100000 in
set_option maxHeartbeats 1000000 in
theorem once_any (g : Nat) (T : TypeId) (l : List Value) (k : Nat) (K : Int) (hK : K = (k : Int)) (hk : k = 0 ∨ k = 1 ∨ k = 4 ∨ k = 5 ∨ k = 8) (b : Bool) (w : World) (hA : At w g T l) (hb : l[12 + k]? = some (.bool b)) :
    Calls Try.prog 94 #[.pointer (some ⟨g, 0, none⟩), .int .u64 K] w fun e w' => e = .returned (.bool !b) ∧ At w' g T (l.set (12 + k) (.bool true)) ∧ Kept (· = g) w w' := by
  have c0 := (hA.cell (12 + k)).trans hb
  have f0 := hA.frozen (12 + k)
  have hs := hA.set (12 + k) (.bool true)
  have HS := Lib.hid hs; clear hs hA hb
  subst hK
  rcases hk with rfl | rfl | rfl | rfl | rfl
  all_goals
    go_enter Try.func94, Try.ntmps94
    go_wp2
    go_ret
    exact ⟨rfl, HS.out, (Kept.refl _ _).setAt _ _⟩
set_option maxRecDepth 100000 in
set_option maxHeartbeats 1000000 in
theorem rnum_any (g j : Nat) (T : TypeId) (l : List Value) (v : Value) (hj : l[j]? = some v) (A : Option Addr) (n c : Nat) (bs : List Int) (w : World) (hA : At w g T l) (hr : Rd w w.heap.size A n bs) (hn : n ≤ 1000000) (hAc : A = none → c = 0) :
    Calls Try.prog 96 #[.slice A n c, .pointer (some ⟨g, j, none⟩)] w fun e w' => e = .returned (.bool (numOk bs)) ∧ At w' g T (l.set j (.int .u64 (numV bs))) ∧ Kept (· = g) w w' := by
  have hg := hA.lt
  have HO : Hid (numOk bs = (!(varN (bs, false)).2 && ((varN (bs, false)).1.length == 0))) := Lib.hid rfl
  have HV : Hid (numV bs = varR (bs, false)) := Lib.hid rfl
  go_enter Try.func96, Try.ntmps96
  go_wp2_with fail
  refine (of_any A n c bs w hr (by omega) hAc).mono ?_
  rintro e w1 ⟨p, rfl, hp, hr1, hb1⟩
  have hA1 := hA.below hb1 hg
  have hs1 := hb1.size
  go_wp2_with fail
  refine (var_any p _ _ _ w1 hr1 (fun b hb => by omega)).mono ?_
  rintro e w2 ⟨rfl, hr2, hk2⟩
  have hA2 := hA1.kept hk2 (by omega)
  have hB2 := hk2.below hb1 (by omega) (fun j hj => by omega)
  have c2 := (hA2.cell j).trans hj
  have f2 := hA2.frozen j
  have hA3 := hA2.set j (.int .u64 (varR (bs, false)))
  have hk3 := ((Kept.refl (· = g) w2).setAt j (.int .u64 (varR (bs, false))))
  have hr3 := hr2.kept hk3 (by omega) (fun b hb => by omega)
  have hk4 : Kept (· = g) w (w2.setCell ⟨g, j, none⟩ (.int .u64 (varR (bs, false)))) := (Kept.of_below hB2 _).trans hk3
  rw [← HV.out] at hA3 hk3 hr3 hk4 ⊢
  obtain ⟨V, hV⟩ : ∃ x, numV bs = x := ⟨_, rfl⟩
  rw [hV] at hA3 hk3 hr3 hk4 ⊢
  have HVV := Lib.hid hV
  obtain ⟨s, hs⟩ : ∃ x, varN (bs, false) = x := ⟨_, rfl⟩
  rw [hs] at hr3 HO
  have HA3 := Lib.hid hA3
  clear hA hA1 hA2 hr1 hr2 hk2 hk3 hV hs HV hA3
  obtain ⟨w3, hw3⟩ : ∃ x, w2.setCell ⟨g, j, none⟩ (.int .u64 V) = x := ⟨_, rfl⟩
  rw [hw3] at HA3 hr3 hk4
  go_wp2_with fail
  refine (bad_any p _ _ s w3 hr3).mono ?_
  rintro e w4 ⟨rfl, rfl⟩
  obtain ⟨sl, sb⟩ := s
  cases sb with
  | true =>
    go_wp2_with fail
    go_ret
    exact ⟨by rw [HO.out]; rfl, by rw [HVV.out]; exact HA3.out, hk4⟩
  | false =>
    go_wp2_with fail
    refine (left_any p _ _ _ w3 hr3).mono ?_
    rintro e w5 ⟨rfl, rfl⟩
    have hc : ((sl.length : Int) == 0) = (sl.length == 0) := by
      rw [Bool.eq_iff_iff]; simp
    go_wp2_with fail
    go_ret
    exact ⟨by rw [HO.out]; simp only [Bool.not_false, Bool.true_and]; first | rfl | (rw [← hc]; rfl), by rw [HVV.out]; exact HA3.out, hk4⟩
set_option maxRecDepth 100000 in
set_option maxHeartbeats 1000000 in
theorem rname_any (g : Nat) (T : TypeId) (l : List Value) (hl : 12 ≤ l.length) (A : Option Addr) (n c : Nat) (bs : List Int) (w : World) (hA : At w g T l) (hr : Rd w w.heap.size A n bs) (hn : n ≤ 1000000) :
    Calls Try.prog 95 #[.slice A n c, .pointer (some ⟨g, 4, none⟩)] w fun e w' => e = .returned (.bool (bs.length == 8)) ∧ At w' g T (splice l 4 ((bs.take 8).map (Value.int .u8))) ∧ Kept (· = g) w w' := by
  have hg := hA.lt
  have HL := Lib.hid hr.1
  have HC : Hid (((n : Int) == 8) = (bs.length == 8)) := Lib.hid (by rw [hr.1, Bool.eq_iff_iff]; simp; omega)
  go_enter Try.func95, Try.ntmps95
  go_wp2_with (refine wpList_copy_at rfl (.tmp 7) (.tmp 8) 31 31 rfl 5 Try.underlying31 (by kernel_rfl) g 4 8 8 n c A rfl rfl l T hA bs w.heap.size hr (by omega) ?_; intro w1 hA1 hk1)
  go_ret
  exact ⟨by rw [← HC.out]; rfl, hA1, hk1⟩
end Go.Proofs.Ytdakbedohjemeaa
