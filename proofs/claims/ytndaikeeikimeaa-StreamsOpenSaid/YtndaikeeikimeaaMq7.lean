/-
  outbuf.Buffer behind a pointer: what it holds (Om, Of); one step of memory at a time.
-/
import Derived.Test.YtndaikeeikimeaaMq5
import Derived.Test.YtndaikeeikimeaaMq6
import Derived.Test.YtndaikeeikimeaaMq3
import Derived.BigQuiet
import Derived.Test.YtndaikeeikimeaaMq4
import Derived.Test.YtndaikeeikimeaaMq0
namespace Go.Proofs.Ytndaikeeikimeaa
section
set_option linter.unusedVariables false
set_option linter.unusedSimpArgs false
open Go.RowKit
/-- Blocks of which no two are one. -/
def Dis (l : List (Option Nat)) : Prop := ∀ i j k : Nat, l[i]? = some (some k) → l[j]? = some (some k) → i = j
theorem Dis.set {l : List (Option Nat)} (h : Dis l) {B n : Nat} {x x' : Option Nat} (hx : l[n]? = some x) (h' : ∀ k, x' = some k → x = some k ∨ B ≤ k) (hB : ∀ j k : Nat, l[j]? = some (some k) → k < B) : Dis (l.set n x') := by
  have hlt : n < l.length := by
    rcases Nat.lt_or_ge n l.length with h | h
    · exact h
    · rw [List.getElem?_eq_none h] at hx; cases hx
  have key : ∀ i k : Nat, i ≠ n → l[i]? = some (some k) → ¬ x' = some k := fun i k hi h1 h2 => by
    rcases h' k h2 with e | e
    · rw [e] at hx
      exact hi (h i n k h1 hx)
    · have := hB i k h1
      omega
  intro i j k hi hj
  rw [List.getElem?_set] at hi hj
  by_cases e1 : n = i <;> by_cases e2 : n = j
  · omega
  · rw [if_pos e1, if_pos (by omega)] at hi
    rw [if_neg e2] at hj
    exact absurd (Option.some.inj hi) (key j k (fun e => e2 e.symm) hj)
  · rw [if_neg e1] at hi
    rw [if_pos e2, if_pos (by omega)] at hj
    exact absurd (Option.some.inj hj) (key i k (fun e => e1 e.symm) hi)
  · rw [if_neg e1] at hi
    rw [if_neg e2] at hj
    exact h i j k hi hj
/-- The blocks of a buffer. -/
def obs (p pa pl : Nat) (va vl vw : Value) : List (Option Nat) := [some p, some pa, some pl, va.ownBlock, vl.ownBlock, vw.ownBlock]
def oO (p pa pl : Nat) (va vl vw : Value) : Nat → Prop := fun b => some b ∈ obs p pa pl va vl vw
/-- The memory of a buffer: its base, what waits, how many were sent, ranges acknowledged, ranges lost; the end's four. -/
structure Om (w : World) (base p pa pl : Nat) (va vl vw : Value) (la ll : RL) (W : List Int) (b gn : Nat) (ov du en ea : Bool) : Prop where
  at_ : At w p 89 [.int .u64 b, vw, .int .u64 gn, .pointer (some ⟨pa, 0, none⟩), .pointer (some ⟨pl, 0, none⟩), .bool ov, .bool du, .bool en, .bool ea]
  sa : SetV w base pa 2048 va la
  sl : SetV w base pl 2048 vl ll
  own : Own w base 5 vw W
  dis : Dis (obs p pa pl va vl vw)
  bp : base ≤ p
section
variable {w w' : World} {base p pa pl : Nat} {va vl vw : Value} {la ll : RL} {W : List Int} {b gn : Nat} {ov du en ea : Bool}
theorem Om.lt (h : Om w base p pa pl va vl vw la ll W b gn ov du en ea) : ∀ k, oO p pa pl va vl vw k → base ≤ k ∧ k < w.heap.size := by
  intro k hk
  unfold oO obs at hk
  simp only [List.mem_cons, List.not_mem_nil, or_false] at hk
  rcases hk with hk | hk | hk | hk | hk | hk
  · injection hk with hk; subst hk; exact ⟨h.bp, h.at_.lt⟩
  · injection hk with hk; subst hk; exact ⟨h.sa.bp, h.sa.at_.lt⟩
  · injection hk with hk; subst hk; exact ⟨h.sl.bp, h.sl.at_.lt⟩
  · exact h.sa.own.lt k hk.symm
  · exact h.sl.own.lt k hk.symm
  · exact h.own.block_lt k hk.symm
theorem oO_at {i k : Nat} (h : (obs p pa pl va vl vw)[i]? = some (some k)) : oO p pa pl va vl vw k := List.mem_of_getElem? h
theorem Om.ne (h : Om w base p pa pl va vl vw la ll W b gn ov du en ea) {i j k k' : Nat} (hi : (obs p pa pl va vl vw)[i]? = some (some k)) (hj : (obs p pa pl va vl vw)[j]? = some (some k')) (hij : i ≠ j) : k ≠ k' := fun e => by
  subst e
  exact hij (h.dis i j k hi hj)
theorem Om.kept {T : Nat → Prop} (h : Om w base p pa pl va vl vw la ll W b gn ov du en ea) (k : Kept T w w') (hs : ∀ j, oO p pa pl va vl vw j → ¬ T j) : Om w' base p pa pl va vl vw la ll W b gn ov du en ea :=
  { h with
    at_ := h.at_.kept k (hs p (oO_at (i := 0) rfl))
    sa := h.sa.kept k (hs pa (oO_at (i := 1) rfl)) fun j hj => hs j (oO_at (i := 3) (by rw [← hj]; rfl))
    sl := h.sl.kept k (hs pl (oO_at (i := 2) rfl)) fun j hj => hs j (oO_at (i := 4) (by rw [← hj]; rfl))
    own := h.own.kept k fun j hj => hs j (oO_at (i := 5) (by rw [← hj]; rfl)) }
theorem Om.below (h : Om w base p pa pl va vl vw la ll W b gn ov du en ea) (k : Below w.heap.size w w') : Om w' base p pa pl va vl vw la ll W b gn ov du en ea := h.kept (Kept.of_below k (fun _ => False)) fun _ _ h => h
theorem Om.drew (h : Om w base p pa pl va vl vw la ll W b gn ov du en ea) : Om w.drew base p pa pl va vl vw la ll W b gn ov du en ea := h.kept (Kept.refl (fun _ => False) w).drew fun _ _ h => h
theorem Om.drewN (h : Om w base p pa pl va vl vw la ll W b gn ov du en ea) (n : Nat) : Om (w.drewN n) base p pa pl va vl vw la ll W b gn ov du en ea := h.kept ((Kept.refl (fun _ => False) w).drewN n) fun _ _ h => h
/-- The buffer's own block is turned alone: a number, a flag is stored. -/
theorem Om.top (h : Om w base p pa pl va vl vw la ll W b gn ov du en ea) (k : Kept (· = p) w w') {b' gn' : Nat} {ov' du' en' ea' : Bool}
    (hA : At w' p 89 [.int .u64 b', vw, .int .u64 gn', .pointer (some ⟨pa, 0, none⟩), .pointer (some ⟨pl, 0, none⟩), .bool ov', .bool du', .bool en', .bool ea']) : Om w' base p pa pl va vl vw la ll W b' gn' ov' du' en' ea' :=
  { h with
    at_ := hA
    sa := h.sa.kept k (h.ne (i := 1) (j := 0) rfl rfl (by omega)) fun j hj => h.ne (i := 3) (j := 0) (by rw [← hj]; rfl) rfl (by omega)
    sl := h.sl.kept k (h.ne (i := 2) (j := 0) rfl rfl (by omega)) fun j hj => h.ne (i := 4) (j := 0) (by rw [← hj]; rfl) rfl (by omega)
    own := h.own.kept k fun j hj => h.ne (i := 5) (j := 0) (by rw [← hj]; rfl) rfl (by omega) }
theorem Om.c0 (h : Om w base p pa pl va vl vw la ll W b gn ov du en ea) : w.cell? ⟨p, 0, none⟩ = some (.int .u64 b) := by rw [h.at_.cell]; rfl
theorem Om.c1 (h : Om w base p pa pl va vl vw la ll W b gn ov du en ea) : w.cell? ⟨p, 1, none⟩ = some vw := by rw [h.at_.cell]; rfl
theorem Om.c2 (h : Om w base p pa pl va vl vw la ll W b gn ov du en ea) : w.cell? ⟨p, 2, none⟩ = some (.int .u64 gn) := by rw [h.at_.cell]; rfl
theorem Om.c3 (h : Om w base p pa pl va vl vw la ll W b gn ov du en ea) : w.cell? ⟨p, 3, none⟩ = some (.pointer (some ⟨pa, 0, none⟩)) := by rw [h.at_.cell]; rfl
theorem Om.c4 (h : Om w base p pa pl va vl vw la ll W b gn ov du en ea) : w.cell? ⟨p, 4, none⟩ = some (.pointer (some ⟨pl, 0, none⟩)) := by rw [h.at_.cell]; rfl
theorem Om.c5 (h : Om w base p pa pl va vl vw la ll W b gn ov du en ea) : w.cell? ⟨p, 5, none⟩ = some (.bool ov) := by rw [h.at_.cell]; rfl
theorem Om.c6 (h : Om w base p pa pl va vl vw la ll W b gn ov du en ea) : w.cell? ⟨p, 6, none⟩ = some (.bool du) := by rw [h.at_.cell]; rfl
theorem Om.c7 (h : Om w base p pa pl va vl vw la ll W b gn ov du en ea) : w.cell? ⟨p, 7, none⟩ = some (.bool en) := by rw [h.at_.cell]; rfl
end
/-- What the ranges say of a buffer. -/
structure Sa (S : OS) (la ll : RL) : Prop where
  ga : Gd la
  gl : Gd ll
  ya : Says la S.ak
  yl : Says ll S.ag
/-- A buffer, and the blocks that it has. -/
def Of (w : World) (base p : Nat) (O : Nat → Prop) (S : OS) : Prop :=
  ∃ pa pl va vl vw la ll, O = oO p pa pl va vl vw ∧ Om w base p pa pl va vl vw la ll (S.bs.drop (baseO S)) (baseO S) S.gn S.ov (endO S) S.en S.ea ∧ Sa S la ll
section
variable {w w' : World} {base p : Nat} {O : Nat → Prop} {S : OS}
theorem Of.lt (h : Of w base p O S) : ∀ b, O b → base ≤ b ∧ b < w.heap.size := by
  obtain ⟨pa, pl, va, vl, vw, la, ll, rfl, h, _⟩ := h
  exact h.lt
theorem Of.kept {T : Nat → Prop} (h : Of w base p O S) (k : Kept T w w') (hs : ∀ b, O b → ¬ T b) : Of w' base p O S := by
  obtain ⟨pa, pl, va, vl, vw, la, ll, rfl, h, hy⟩ := h
  exact ⟨pa, pl, va, vl, vw, la, ll, rfl, h.kept k hs, hy⟩
theorem Of.below (h : Of w base p O S) (k : Below w.heap.size w w') : Of w' base p O S := h.kept (Kept.of_below k (fun _ => False)) fun _ _ h => h
theorem Of.drewN (h : Of w base p O S) (n : Nat) : Of (w.drewN n) base p O S := h.kept ((Kept.refl (fun _ => False) w).drewN n) fun _ _ h => h
end
end
section
set_option linter.unusedVariables false
set_option linter.unusedSimpArgs false
open Go.RowKit
/-- What New leaves. -/
def ONew (w : World) (e : Ending) (w' : World) : Prop := ∃ p, e = .returned (.pointer (some ⟨p, 0, none⟩)) ∧ (∃ O, Of w' w.heap.size p O os0) ∧ Below w.heap.size w w'
theorem sa0 : Sa os0 [] [] := ⟨Gd.nil_, Gd.nil_, fun j => rfl, fun j => rfl⟩
set_option maxRecDepth 100000 in
theorem onew_any (w : World) : Calls Try.prog 38 #[] w (ONew w) := by
  have HN := Lib.hid (fun w : World => new_any 2048 w (by omega))
  have HF : Hid (∀ w1 w2, SetV w1 w.heap.size w.heap.size 2048 (.slice none 0 0) [] → Below w.heap.size w w1 → SetV w2 w1.heap.size w1.heap.size 2048 (.slice none 0 0) [] → Below w1.heap.size w1 w2 →
      ONew w (.returned (.pointer (some ⟨w2.heap.size, 0, none⟩))) (w2.alloc (.cells #[.int .u64 0, .slice none 0 0, .int .u64 0, .pointer (some ⟨w.heap.size, 0, none⟩), .pointer (some ⟨w1.heap.size, 0, none⟩), .bool false, .bool false, .bool false, .bool false] 89))) := Lib.hid (by
    intro w1 w2 hs1 hb1 hs2 hb2
    have h1 := hs1.at_.lt
    have h2 := hs2.at_.lt
    have hb3 : Below w2.heap.size w2 (w2.alloc (.cells #[.int .u64 0, .slice none 0 0, .int .u64 0, .pointer (some ⟨w.heap.size, 0, none⟩), .pointer (some ⟨w1.heap.size, 0, none⟩), .bool false, .bool false, .bool false, .bool false] 89)) := (Below.refl _ _).alloc (Nat.le_refl _) _
    refine ⟨_, rfl, ⟨_, _, _, .slice none 0 0, .slice none 0 0, .slice none 0 0, [], [], rfl, ⟨At.new w2 _ _, (hs1.below hb2).below hb3, (hs2.base_ hb1.size).below hb3, Own.none_ _ _ _, ?_, Nat.le_trans hb1.size hb2.size⟩, sa0⟩, hb1.trans ((hb2.mono hb1.size).trans (hb3.mono (Nat.le_trans hb1.size hb2.size)))⟩
    intro i j k hi hj
    unfold obs at hi hj
    match i, j with
    | 0, 0 | 1, 1 | 2, 2 => rfl
    | 0, 1 | 0, 2 | 1, 0 | 1, 2 | 2, 0 | 2, 1 => (simp at hi hj; omega)
    | 3, _ | 4, _ | 5, _ => (simp [Value.ownBlock] at hi)
    | _, 3 | _, 4 | _, 5 => (simp [Value.ownBlock] at hj)
    | i + 6, _ => (simp at hi)
    | _, j + 6 => (simp at hj))
  go_enter Try.func38, Try.ntmps38
  go_wp2_with (first
    | (go_at_call 45; (with_reducible refine (HN.out w).mono ?_); rintro e w1 ⟨rfl, hs1, hb1⟩; have H1 := Lib.hid (And.intro hs1 hb1); have HN1 := Lib.hid (HN.out w1); clear hs1 hb1)
    | (go_at_call 45; (with_reducible refine HN1.out.mono ?_); rintro e w2 ⟨rfl, hs2, hb2⟩; have HO := Lib.hid (HF.out w1 w2 H1.out.1 H1.out.2 hs2 hb2); clear hs2 hb2))
  go_ret
  exact HO.out
section
variable {w : World} {base p : Nat} {O : Nat → Prop} {S : OS}
end
end
section
set_option linter.unusedVariables false
set_option linter.unusedSimpArgs false
open Go.RowKit
theorem below_drewN {B : Nat} {w w' : World} (h : Below B w w') (n : Nat) : Below B w (w'.drewN n) := h.trans ⟨rfl, rfl, rfl, Nat.le_refl _, fun _ _ => rfl⟩
end
end Go.Proofs.Ytndaikeeikimeaa
