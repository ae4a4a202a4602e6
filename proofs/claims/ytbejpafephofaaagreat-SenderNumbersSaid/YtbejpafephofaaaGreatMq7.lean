/-
  outbuf.Buffer behind a pointer: what it holds (Om, Of); one step of memory at a time.
-/
import Derived.Test.YtbejpafephofaaaGreatMq5
import Derived.Test.YtbejpafephofaaaGreatMq6
import Derived.Test.YtbejpafephofaaaGreatMq3
import Derived.BigQuiet
import Derived.Test.YtbejpafephofaaaGreatMq4
import Derived.Test.YtbejpafephofaaaGreatMq0
namespace Go.Proofs.YtbejpafephofaaaGreat
section
set_option linter.unusedVariables false
set_option linter.unusedSimpArgs false
open Go.RowKit
/-- Blocks of which no two are one. -/
def Dis (l : List (Option Nat)) : Prop := ∀ i j k : Nat, l[i]? = some (some k) → l[j]? = some (some k) → i = j
theorem Dis.set {l : List (Option Nat)} (h : Dis l) {B n : Nat} {x x' : Option Nat} (hx : l[n]? = some x) (h' : ∀ k, x' = some k → x = some k ∨ B ≤ k) (hB : ∀ j k : Nat, l[j]? = some (some k) → k < B) : Dis (l.set n x') := by
  have hlt : n < l.length := by
    rcases Nat.lt_or_ge n l.length with h | h
    · exact h
    · rw [List.getElem?_eq_none h] at hx; cases hx
  have key : ∀ i k : Nat, i ≠ n → l[i]? = some (some k) → ¬ x' = some k := fun i k hi h1 h2 => by
    rcases h' k h2 with e | e
    · rw [e] at hx
      exact hi (h i n k h1 hx)
    · have := hB i k h1
      omega
  intro i j k hi hj
  rw [List.getElem?_set] at hi hj
  by_cases e1 : n = i <;> by_cases e2 : n = j
  · omega
  · rw [if_pos e1, if_pos (by omega)] at hi
    rw [if_neg e2] at hj
    exact absurd (Option.some.inj hi) (key j k (fun e => e2 e.symm) hj)
  · rw [if_neg e1] at hi
    rw [if_pos e2, if_pos (by omega)] at hj
    exact absurd (Option.some.inj hj) (key i k (fun e => e1 e.symm) hi)
  · rw [if_neg e1] at hi
    rw [if_neg e2] at hj
    exact h i j k hi hj
/-- The blocks of a buffer. -/
def obs (p pa pl : Nat) (va vl vw : Value) : List (Option Nat) := [some p, some pa, some pl, va.ownBlock, vl.ownBlock, vw.ownBlock]
def oO (p pa pl : Nat) (va vl vw : Value) : Nat → Prop := fun b => some b ∈ obs p pa pl va vl vw
/-- The memory of a buffer: its base, what waits, how many were sent, ranges acknowledged, ranges lost; the end's four. -/
structure Om (w : World) (base p pa pl : Nat) (va vl vw : Value) (la ll : RL) (W : List Int) (b gn : Nat) (ov du en ea : Bool) : Prop where
  at_ : At w p 75 [.int .u64 b, vw, .int .u64 gn, .pointer (some ⟨pa, 0, none⟩), .pointer (some ⟨pl, 0, none⟩), .bool ov, .bool du, .bool en, .bool ea]
  sa : SetV w base pa 2048 va la
  sl : SetV w base pl 2048 vl ll
  own : Own w base 5 vw W
  dis : Dis (obs p pa pl va vl vw)
  bp : base ≤ p
section
variable {w w' : World} {base p pa pl : Nat} {va vl vw : Value} {la ll : RL} {W : List Int} {b gn : Nat} {ov du en ea : Bool}
theorem Om.lt (h : Om w base p pa pl va vl vw la ll W b gn ov du en ea) : ∀ k, oO p pa pl va vl vw k → base ≤ k ∧ k < w.heap.size := by
  intro k hk
  unfold oO obs at hk
  simp only [List.mem_cons, List.not_mem_nil, or_false] at hk
  rcases hk with hk | hk | hk | hk | hk | hk
  · injection hk with hk; subst hk; exact ⟨h.bp, h.at_.lt⟩
  · injection hk with hk; subst hk; exact ⟨h.sa.bp, h.sa.at_.lt⟩
  · injection hk with hk; subst hk; exact ⟨h.sl.bp, h.sl.at_.lt⟩
  · exact h.sa.own.lt k hk.symm
  · exact h.sl.own.lt k hk.symm
  · exact h.own.block_lt k hk.symm
theorem oO_at {i k : Nat} (h : (obs p pa pl va vl vw)[i]? = some (some k)) : oO p pa pl va vl vw k := List.mem_of_getElem? h
theorem Om.obs_lt (h : Om w base p pa pl va vl vw la ll W b gn ov du en ea) : ∀ j k : Nat, (obs p pa pl va vl vw)[j]? = some (some k) → k < w.heap.size := fun j k hj => (h.lt k (oO_at hj)).2
theorem Om.ne (h : Om w base p pa pl va vl vw la ll W b gn ov du en ea) {i j k k' : Nat} (hi : (obs p pa pl va vl vw)[i]? = some (some k)) (hj : (obs p pa pl va vl vw)[j]? = some (some k')) (hij : i ≠ j) : k ≠ k' := fun e => by
  subst e
  exact hij (h.dis i j k hi hj)
theorem Om.kept {T : Nat → Prop} (h : Om w base p pa pl va vl vw la ll W b gn ov du en ea) (k : Kept T w w') (hs : ∀ j, oO p pa pl va vl vw j → ¬ T j) : Om w' base p pa pl va vl vw la ll W b gn ov du en ea :=
  { h with
    at_ := h.at_.kept k (hs p (oO_at (i := 0) rfl))
    sa := h.sa.kept k (hs pa (oO_at (i := 1) rfl)) fun j hj => hs j (oO_at (i := 3) (by rw [← hj]; rfl))
    sl := h.sl.kept k (hs pl (oO_at (i := 2) rfl)) fun j hj => hs j (oO_at (i := 4) (by rw [← hj]; rfl))
    own := h.own.kept k fun j hj => hs j (oO_at (i := 5) (by rw [← hj]; rfl)) }
theorem Om.below (h : Om w base p pa pl va vl vw la ll W b gn ov du en ea) (k : Below w.heap.size w w') : Om w' base p pa pl va vl vw la ll W b gn ov du en ea := h.kept (Kept.of_below k (fun _ => False)) fun _ _ h => h
theorem Om.drew (h : Om w base p pa pl va vl vw la ll W b gn ov du en ea) : Om w.drew base p pa pl va vl vw la ll W b gn ov du en ea := h.kept (Kept.refl (fun _ => False) w).drew fun _ _ h => h
theorem Om.drewN (h : Om w base p pa pl va vl vw la ll W b gn ov du en ea) (n : Nat) : Om (w.drewN n) base p pa pl va vl vw la ll W b gn ov du en ea := h.kept ((Kept.refl (fun _ => False) w).drewN n) fun _ _ h => h
/-- The buffer's own block is turned alone: a number, a flag is stored. -/
theorem Om.top (h : Om w base p pa pl va vl vw la ll W b gn ov du en ea) (k : Kept (· = p) w w') {b' gn' : Nat} {ov' du' en' ea' : Bool}
    (hA : At w' p 75 [.int .u64 b', vw, .int .u64 gn', .pointer (some ⟨pa, 0, none⟩), .pointer (some ⟨pl, 0, none⟩), .bool ov', .bool du', .bool en', .bool ea']) : Om w' base p pa pl va vl vw la ll W b' gn' ov' du' en' ea' :=
  { h with
    at_ := hA
    sa := h.sa.kept k (h.ne (i := 1) (j := 0) rfl rfl (by omega)) fun j hj => h.ne (i := 3) (j := 0) (by rw [← hj]; rfl) rfl (by omega)
    sl := h.sl.kept k (h.ne (i := 2) (j := 0) rfl rfl (by omega)) fun j hj => h.ne (i := 4) (j := 0) (by rw [← hj]; rfl) rfl (by omega)
    own := h.own.kept k fun j hj => h.ne (i := 5) (j := 0) (by rw [← hj]; rfl) rfl (by omega) }
theorem Om.set_b (h : Om w base p pa pl va vl vw la ll W b gn ov du en ea) (x : Nat) : Om (w.setCell ⟨p, 0, none⟩ (.int .u64 x)) base p pa pl va vl vw la ll W x gn ov du en ea := h.top ((Kept.refl _ w).setAt 0 _) (h.at_.set 0 _)
theorem Om.set_gn (h : Om w base p pa pl va vl vw la ll W b gn ov du en ea) (x : Nat) : Om (w.setCell ⟨p, 2, none⟩ (.int .u64 x)) base p pa pl va vl vw la ll W b x ov du en ea := h.top ((Kept.refl _ w).setAt 2 _) (h.at_.set 2 _)
theorem Om.set_ov (h : Om w base p pa pl va vl vw la ll W b gn ov du en ea) (x : Bool) : Om (w.setCell ⟨p, 5, none⟩ (.bool x)) base p pa pl va vl vw la ll W b gn x du en ea := h.top ((Kept.refl _ w).setAt 5 _) (h.at_.set 5 _)
theorem Om.set_du (h : Om w base p pa pl va vl vw la ll W b gn ov du en ea) (x : Bool) : Om (w.setCell ⟨p, 6, none⟩ (.bool x)) base p pa pl va vl vw la ll W b gn ov x en ea := h.top ((Kept.refl _ w).setAt 6 _) (h.at_.set 6 _)
theorem Om.set_en (h : Om w base p pa pl va vl vw la ll W b gn ov du en ea) (x : Bool) : Om (w.setCell ⟨p, 7, none⟩ (.bool x)) base p pa pl va vl vw la ll W b gn ov du x ea := h.top ((Kept.refl _ w).setAt 7 _) (h.at_.set 7 _)
theorem Om.set_ea (h : Om w base p pa pl va vl vw la ll W b gn ov du en ea) (x : Bool) : Om (w.setCell ⟨p, 8, none⟩ (.bool x)) base p pa pl va vl vw la ll W b gn ov du en x := h.top ((Kept.refl _ w).setAt 8 _) (h.at_.set 8 _)
/-- A call of the set of what is acknowledged. -/
theorem Om.acks (h : Om w base p pa pl va vl vw la ll W b gn ov du en ea) {r : Value} {e : Ending} {l' : RL} (hP : SetPost r base pa 2048 va l' w e w') :
    e = .returned r ∧ ∃ va', Om w' base p pa pl va' vl vw l' ll W b gn ov du en ea ∧ Kept (oO p pa pl va vl vw) w w' ∧ ∀ j, oO p pa pl va' vl vw j → oO p pa pl va vl vw j ∨ w.heap.size ≤ j := by
  obtain ⟨he, va', hs, k, hv⟩ := hP
  have hk : Kept (oO p pa pl va vl vw) w w' := k.mono fun j hj => .inl (by
    rcases hj with rfl | hj
    · exact oO_at (i := 1) rfl
    · exact oO_at (i := 3) (by rw [← hj]; rfl))
  have hn : ∀ j i : Nat, (obs p pa pl va vl vw)[i]? = some (some j) → i ≠ 1 → i ≠ 3 → ¬ (j = pa ∨ va.ownBlock = some j) := fun j i hi h1 h3 hj => by
    rcases hj with rfl | hj
    · exact h.ne hi (j := 1) rfl h1 rfl
    · exact h.ne hi (j := 3) (k' := j) (by rw [← hj]; rfl) h3 rfl
  refine ⟨he, va', ⟨h.at_.kept k (hn p 0 rfl (by omega) (by omega)), hs, h.sl.kept k (hn pl 2 rfl (by omega) (by omega)) fun j hj => hn j 4 (by rw [← hj]; rfl) (by omega) (by omega), h.own.kept k fun j hj => hn j 5 (by rw [← hj]; rfl) (by omega) (by omega), ?_, h.bp⟩, hk, ?_⟩
  · exact h.dis.set (n := 3) (x := va.ownBlock) (x' := va'.ownBlock) rfl hv h.obs_lt
  · intro j hj
    unfold oO obs at hj ⊢
    simp only [List.mem_cons, List.not_mem_nil, or_false] at hj ⊢
    rcases hj with hj | hj | hj | hj | hj | hj
    · exact .inl (.inl hj)
    · exact .inl (.inr (.inl hj))
    · exact .inl (.inr (.inr (.inl hj)))
    · exact (hv j hj.symm).imp (fun e => .inr (.inr (.inr (.inl e.symm)))) id
    · exact .inl (.inr (.inr (.inr (.inr (.inl hj)))))
    · exact .inl (.inr (.inr (.inr (.inr (.inr hj)))))
/-- A call of the set of what is lost. -/
theorem Om.losts (h : Om w base p pa pl va vl vw la ll W b gn ov du en ea) {r : Value} {e : Ending} {l' : RL} (hP : SetPost r base pl 2048 vl l' w e w') :
    e = .returned r ∧ ∃ vl', Om w' base p pa pl va vl' vw la l' W b gn ov du en ea ∧ Kept (oO p pa pl va vl vw) w w' ∧ ∀ j, oO p pa pl va vl' vw j → oO p pa pl va vl vw j ∨ w.heap.size ≤ j := by
  obtain ⟨he, vl', hs, k, hv⟩ := hP
  have hk : Kept (oO p pa pl va vl vw) w w' := k.mono fun j hj => .inl (by
    rcases hj with rfl | hj
    · exact oO_at (i := 2) rfl
    · exact oO_at (i := 4) (by rw [← hj]; rfl))
  have hn : ∀ j i : Nat, (obs p pa pl va vl vw)[i]? = some (some j) → i ≠ 2 → i ≠ 4 → ¬ (j = pl ∨ vl.ownBlock = some j) := fun j i hi h1 h3 hj => by
    rcases hj with rfl | hj
    · exact h.ne hi (j := 2) rfl h1 rfl
    · exact h.ne hi (j := 4) (k' := j) (by rw [← hj]; rfl) h3 rfl
  refine ⟨he, vl', ⟨h.at_.kept k (hn p 0 rfl (by omega) (by omega)), h.sa.kept k (hn pa 1 rfl (by omega) (by omega)) fun j hj => hn j 3 (by rw [← hj]; rfl) (by omega) (by omega), hs, h.own.kept k fun j hj => hn j 5 (by rw [← hj]; rfl) (by omega) (by omega), ?_, h.bp⟩, hk, ?_⟩
  · exact h.dis.set (n := 4) (x := vl.ownBlock) (x' := vl'.ownBlock) rfl hv h.obs_lt
  · intro j hj
    unfold oO obs at hj ⊢
    simp only [List.mem_cons, List.not_mem_nil, or_false] at hj ⊢
    rcases hj with hj | hj | hj | hj | hj | hj
    · exact .inl (.inl hj)
    · exact .inl (.inr (.inl hj))
    · exact .inl (.inr (.inr (.inl hj)))
    · exact .inl (.inr (.inr (.inr (.inl hj))))
    · exact (hv j hj.symm).imp (fun e => .inr (.inr (.inr (.inr (.inl e.symm))))) id
    · exact .inl (.inr (.inr (.inr (.inr (.inr hj)))))
/-- A row that was made out of what waits is stored in its place. -/
theorem Om.waits (h : Om w base p pa pl va vl vw la ll W b gn ov du en ea) {v1 : Value} {W1 : List Int} (h1 : Own w' base 5 v1 W1) (k : Kept (fun j => vw.ownBlock = some j) w w') (hv : ∀ j, v1.ownBlock = some j → vw.ownBlock = some j ∨ w.heap.size ≤ j) :
    Om (w'.setCell ⟨p, 1, none⟩ v1) base p pa pl va vl v1 la ll W1 b gn ov du en ea ∧ Kept (oO p pa pl va vl vw) w (w'.setCell ⟨p, 1, none⟩ v1) ∧ ∀ j, oO p pa pl va vl v1 j → oO p pa pl va vl vw j ∨ w.heap.size ≤ j := by
  have hk : Kept (oO p pa pl va vl vw) w w' := k.mono fun j hj => .inl (oO_at (i := 5) (by rw [← hj]; rfl))
  have hn : ∀ j i : Nat, (obs p pa pl va vl vw)[i]? = some (some j) → i ≠ 5 → ¬ (vw.ownBlock = some j) := fun j i hi h5 hj => h.ne hi (j := 5) (k' := j) (by rw [← hj]; rfl) h5 rfl
  have hp := h.at_.lt
  have n1 : v1.ownBlock ≠ some p := fun e => by
    rcases hv p e with h' | h'
    · exact hn p 0 rfl (by omega) h'
    · omega
  have k2 : Kept (· = p) w' (w'.setCell ⟨p, 1, none⟩ v1) := (Kept.refl _ _).setAt 1 _
  refine ⟨⟨(h.at_.kept k (hn p 0 rfl (by omega))).set 1 v1, ?_, ?_, h1.kept k2 fun j hj e => n1 (by rw [hj, e]), ?_, h.bp⟩, hk.setCell (.inl (oO_at (i := 0) rfl)) _, ?_⟩
  · exact (h.sa.kept k (hn pa 1 rfl (by omega)) fun j hj => hn j 3 (by rw [← hj]; rfl) (by omega)).kept k2 (h.ne (i := 1) (j := 0) rfl rfl (by omega)) fun j hj => h.ne (i := 3) (j := 0) (by rw [← hj]; rfl) rfl (by omega)
  · exact (h.sl.kept k (hn pl 2 rfl (by omega)) fun j hj => hn j 4 (by rw [← hj]; rfl) (by omega)).kept k2 (h.ne (i := 2) (j := 0) rfl rfl (by omega)) fun j hj => h.ne (i := 4) (j := 0) (by rw [← hj]; rfl) rfl (by omega)
  · exact h.dis.set (n := 5) (x := vw.ownBlock) (x' := v1.ownBlock) rfl hv h.obs_lt
  · intro j hj
    unfold oO obs at hj ⊢
    simp only [List.mem_cons, List.not_mem_nil, or_false] at hj ⊢
    rcases hj with hj | hj | hj | hj | hj | hj
    · exact .inl (.inl hj)
    · exact .inl (.inr (.inl hj))
    · exact .inl (.inr (.inr (.inl hj)))
    · exact .inl (.inr (.inr (.inr (.inl hj))))
    · exact .inl (.inr (.inr (.inr (.inr (.inl hj)))))
    · exact (hv j hj.symm).imp (fun e => .inr (.inr (.inr (.inr (.inr e.symm))))) id
theorem Om.c0 (h : Om w base p pa pl va vl vw la ll W b gn ov du en ea) : w.cell? ⟨p, 0, none⟩ = some (.int .u64 b) := by rw [h.at_.cell]; rfl
theorem Om.c1 (h : Om w base p pa pl va vl vw la ll W b gn ov du en ea) : w.cell? ⟨p, 1, none⟩ = some vw := by rw [h.at_.cell]; rfl
theorem Om.c2 (h : Om w base p pa pl va vl vw la ll W b gn ov du en ea) : w.cell? ⟨p, 2, none⟩ = some (.int .u64 gn) := by rw [h.at_.cell]; rfl
theorem Om.c3 (h : Om w base p pa pl va vl vw la ll W b gn ov du en ea) : w.cell? ⟨p, 3, none⟩ = some (.pointer (some ⟨pa, 0, none⟩)) := by rw [h.at_.cell]; rfl
theorem Om.c4 (h : Om w base p pa pl va vl vw la ll W b gn ov du en ea) : w.cell? ⟨p, 4, none⟩ = some (.pointer (some ⟨pl, 0, none⟩)) := by rw [h.at_.cell]; rfl
theorem Om.c5 (h : Om w base p pa pl va vl vw la ll W b gn ov du en ea) : w.cell? ⟨p, 5, none⟩ = some (.bool ov) := by rw [h.at_.cell]; rfl
theorem Om.c6 (h : Om w base p pa pl va vl vw la ll W b gn ov du en ea) : w.cell? ⟨p, 6, none⟩ = some (.bool du) := by rw [h.at_.cell]; rfl
theorem Om.c7 (h : Om w base p pa pl va vl vw la ll W b gn ov du en ea) : w.cell? ⟨p, 7, none⟩ = some (.bool en) := by rw [h.at_.cell]; rfl
theorem Om.c8 (h : Om w base p pa pl va vl vw la ll W b gn ov du en ea) : w.cell? ⟨p, 8, none⟩ = some (.bool ea) := by rw [h.at_.cell]; rfl
end
/-- What the ranges say of a buffer. -/
structure Sa (S : OS) (la ll : RL) : Prop where
  ga : Gd la
  gl : Gd ll
  ya : Says la S.ak
  yl : Says ll S.ag
/-- A buffer, and the blocks that it has. -/
def Of (w : World) (base p : Nat) (O : Nat → Prop) (S : OS) : Prop :=
  ∃ pa pl va vl vw la ll, O = oO p pa pl va vl vw ∧ Om w base p pa pl va vl vw la ll (S.bs.drop (baseO S)) (baseO S) S.gn S.ov (endO S) S.en S.ea ∧ Sa S la ll
section
variable {w w' : World} {base p : Nat} {O : Nat → Prop} {S : OS}
theorem Of.lt (h : Of w base p O S) : ∀ b, O b → base ≤ b ∧ b < w.heap.size := by
  obtain ⟨pa, pl, va, vl, vw, la, ll, rfl, h, _⟩ := h
  exact h.lt
theorem Of.kept {T : Nat → Prop} (h : Of w base p O S) (k : Kept T w w') (hs : ∀ b, O b → ¬ T b) : Of w' base p O S := by
  obtain ⟨pa, pl, va, vl, vw, la, ll, rfl, h, hy⟩ := h
  exact ⟨pa, pl, va, vl, vw, la, ll, rfl, h.kept k hs, hy⟩
theorem Of.below (h : Of w base p O S) (k : Below w.heap.size w w') : Of w' base p O S := h.kept (Kept.of_below k (fun _ => False)) fun _ _ h => h
theorem Of.drewN (h : Of w base p O S) (n : Nat) : Of (w.drewN n) base p O S := h.kept ((Kept.refl (fun _ => False) w).drewN n) fun _ _ h => h
end
/-- What a call that changes a buffer leaves. -/
def OfPost (r : Value) (base p : Nat) (O : Nat → Prop) (S' : OS) (w : World) (e : Ending) (w' : World) : Prop :=
  e = .returned r ∧ ∃ O', Of w' base p O' S' ∧ Kept O w w' ∧ ∀ j, O' j → O j ∨ w.heap.size ≤ j
end
section
set_option linter.unusedVariables false
set_option linter.unusedSimpArgs false
open Go.RowKit
/-- What New leaves. -/
def ONew (w : World) (e : Ending) (w' : World) : Prop := ∃ p, e = .returned (.pointer (some ⟨p, 0, none⟩)) ∧ (∃ O, Of w' w.heap.size p O os0) ∧ Below w.heap.size w w'
theorem sa0 : Sa os0 [] [] := ⟨Gd.nil_, Gd.nil_, fun j => rfl, fun j => rfl⟩
set_option maxRecDepth 100000 in
theorem onew_any (w : World) : Calls Tryz.prog 8 #[] w (ONew w) := by
  have HN := Lib.hid (fun w : World => new_any 2048 w (by omega))
  have HF : Hid (∀ w1 w2, SetV w1 w.heap.size w.heap.size 2048 (.slice none 0 0) [] → Below w.heap.size w w1 → SetV w2 w1.heap.size w1.heap.size 2048 (.slice none 0 0) [] → Below w1.heap.size w1 w2 →
      ONew w (.returned (.pointer (some ⟨w2.heap.size, 0, none⟩))) (w2.alloc (.cells #[.int .u64 0, .slice none 0 0, .int .u64 0, .pointer (some ⟨w.heap.size, 0, none⟩), .pointer (some ⟨w1.heap.size, 0, none⟩), .bool false, .bool false, .bool false, .bool false] 75))) := Lib.hid (by
    intro w1 w2 hs1 hb1 hs2 hb2
    have h1 := hs1.at_.lt
    have h2 := hs2.at_.lt
    have hb3 : Below w2.heap.size w2 (w2.alloc (.cells #[.int .u64 0, .slice none 0 0, .int .u64 0, .pointer (some ⟨w.heap.size, 0, none⟩), .pointer (some ⟨w1.heap.size, 0, none⟩), .bool false, .bool false, .bool false, .bool false] 75)) := (Below.refl _ _).alloc (Nat.le_refl _) _
    refine ⟨_, rfl, ⟨_, _, _, .slice none 0 0, .slice none 0 0, .slice none 0 0, [], [], rfl, ⟨At.new w2 _ _, (hs1.below hb2).below hb3, (hs2.base_ hb1.size).below hb3, Own.none_ _ _ _, ?_, Nat.le_trans hb1.size hb2.size⟩, sa0⟩, hb1.trans ((hb2.mono hb1.size).trans (hb3.mono (Nat.le_trans hb1.size hb2.size)))⟩
    intro i j k hi hj
    unfold obs at hi hj
    match i, j with
    | 0, 0 | 1, 1 | 2, 2 => rfl
    | 0, 1 | 0, 2 | 1, 0 | 1, 2 | 2, 0 | 2, 1 => (simp at hi hj; omega)
    | 3, _ | 4, _ | 5, _ => (simp [Value.ownBlock] at hi)
    | _, 3 | _, 4 | _, 5 => (simp [Value.ownBlock] at hj)
    | i + 6, _ => (simp at hi)
    | _, j + 6 => (simp at hj))
  go_enter Tryz.func8, Tryz.ntmps8
  go_wp2_with (first
    | (go_at_call 28; (with_reducible refine (HN.out w).mono ?_); rintro e w1 ⟨rfl, hs1, hb1⟩; have H1 := Lib.hid (And.intro hs1 hb1); have HN1 := Lib.hid (HN.out w1); clear hs1 hb1)
    | (go_at_call 28; (with_reducible refine HN1.out.mono ?_); rintro e w2 ⟨rfl, hs2, hb2⟩; have HO := Lib.hid (HF.out w1 w2 H1.out.1 H1.out.2 hs2 hb2); clear hs2 hb2))
  go_ret
  exact HO.out
section
variable {w : World} {base p : Nat} {O : Nat → Prop} {S : OS}
theorem olen_at {pa pl : Nat} {va vl : Value} {la ll : RL} {A : Option Addr} {m c b gn : Nat} {W : List Int} {ov du en ea : Bool} (h : Om w base p pa pl va vl (.slice A m c) la ll W b gn ov du en ea) (hb : b + m ≤ 1099511627776) : Calls Tryz.prog 62 #[.pointer (some ⟨p, 0, none⟩)] w fun e w' => e = .returned (.int .u64 (b + m : Nat)) ∧ ∃ d, w' = w.drewN d := by
  have h0 := h.c0
  have h1 := h.c1
  have hz : (b : Int) + (m : Int) = ((b + m : Nat) : Int) := by omega
  obtain ⟨R, hR⟩ : ∃ R, R = b + m := ⟨_, rfl⟩
  rw [← hR] at hz hb ⊢
  have hm : m ≤ 1099511627776 := by omega
  have hbb : b ≤ 1099511627776 := by omega
  have hwm : IntKind.u64.wrap (m : Int) = (m : Int) := by rw [IntKind.wrap_u64]; omega
  have hwR : IntKind.u64.wrap (R : Int) = (R : Int) := by rw [IntKind.wrap_u64]; omega
  clear h hR
  go_enter Tryz.func62, Tryz.ntmps62
  go_wp2
  go_quiet (fail)
  go_wp2
  go_ret
  exact ⟨rfl, _, rfl⟩
theorem olen_any (h : Of w base p O S) (hL : S.bs.length ≤ 1099511627776) : Calls Tryz.prog 62 #[.pointer (some ⟨p, 0, none⟩)] w fun e w' => e = .returned (.int .u64 S.bs.length) ∧ ∃ d, w' = w.drewN d := by
  obtain ⟨pa, pl, va, vl, vw, la, ll, _, h, _⟩ := h
  have hb := baseO_le S
  have hl : (S.bs.drop (baseO S)).length = S.bs.length - baseO S := List.length_drop
  obtain ⟨A, c, rfl, _, _, _⟩ := h.own.open_n _ hl
  have := olen_at h (by omega)
  rw [show baseO S + (S.bs.length - baseO S) = S.bs.length by omega] at this
  exact this
theorem osent_any (h : Of w base p O S) : Calls Tryz.prog 49 #[.pointer (some ⟨p, 0, none⟩)] w fun e w' => e = .returned (.int .u64 S.gn) ∧ w' = w := by
  obtain ⟨pa, pl, va, vl, vw, la, ll, _, h, _⟩ := h
  have h2 := h.c2
  clear h
  go_enter Tryz.func49, Tryz.ntmps49
  go_wp2
  go_ret
  exact ⟨rfl, rfl⟩
theorem oroom_any (h : Of w base p O S) (hok : S.ok) : Calls Tryz.prog 29 #[.pointer (some ⟨p, 0, none⟩)] w fun e w' => e = .returned (.int .i64 (roomO S)) ∧ w' = w := by
  obtain ⟨pa, pl, va, vl, vw, la, ll, _, h, _⟩ := h
  have hb := baseO_le S
  have hr := hok.rm
  have hl : (S.bs.drop (baseO S)).length = S.bs.length - baseO S := List.length_drop
  obtain ⟨A, c, rfl, _, _, _⟩ := h.own.open_n _ hl
  have h1 := h.c1
  have h5 := h.c5
  clear h hl
  unfold roomO
  obtain ⟨m, hm⟩ : ∃ m, m = S.bs.length - baseO S := ⟨_, rfl⟩
  rw [← hm] at h1 ⊢
  have hm2 : m ≤ 2048 := by omega
  have hz : (2048 : Int) - (m : Int) = ((2048 - m : Nat) : Int) := by omega
  obtain ⟨k, hk⟩ : ∃ k, k = 2048 - m := ⟨_, rfl⟩
  rw [← hk] at hz ⊢
  have hk2 : k ≤ 2048 := by omega
  clear hm hk hb hr
  cases hov : S.ov
  · rw [hov] at h5
    go_enter Tryz.func29, Tryz.ntmps29
    go_wp2
    go_ret
    exact ⟨by simp, rfl⟩
  · rw [hov] at h5
    go_enter Tryz.func29, Tryz.ntmps29
    go_wp2
    go_ret
    exact ⟨by simp, rfl⟩
theorem ofinish_any (h : Of w base p O S) (hok : S.ok) : Calls Tryz.prog 33 #[.pointer (some ⟨p, 0, none⟩)] w (OfPost (.bool (!S.ov)) base p O (finO S) w) := by
  obtain ⟨pa, pl, va, vl, vw, la, ll, rfl, h, hy⟩ := h
  have h5 := h.c5
  cases hov : S.ov
  · have he : endO (finO S) = true := by
      have h1 : S.en = false := by
        cases hc : S.en with
        | false => rfl
        | true => have := (hok.eo hc).1; rw [hov] at this; cases this
      have h2 : S.ea = false := by
        cases hc : S.ea with
        | false => rfl
        | true => have := hok.ee hc; rw [h1] at this; cases this
      unfold endO finO
      simp [h1, h2]
    have HP : Hid (OfPost (.bool (!false)) base p (oO p pa pl va vl vw) (finO S) w (.returned (.bool true)) ((w.setCell ⟨p, 5, none⟩ (.bool true)).setCell ⟨p, 6, none⟩ (.bool true))) := Lib.hid (by
      refine ⟨rfl, _, ⟨pa, pl, va, vl, vw, la, ll, rfl, ?_, ⟨hy.ga, hy.gl, hy.ya, hy.yl⟩⟩, ((Kept.refl _ _).setCell (p := ⟨p, 5, none⟩) (.inl (oO_at (i := 0) rfl)) _).setCell (p := ⟨p, 6, none⟩) (.inl (oO_at (i := 0) rfl)) _, fun j hj => .inl hj⟩
      rw [he]
      exact (h.set_ov true).set_du true)
    rw [hov] at h5
    have f5 := h.at_.frozen 5
    have f6 := (h.at_.set 5 (.bool true)).frozen 6
    have f6' := h.at_.frozen 6
    have h6 := h.c6
    have h6' := (h.set_ov true).c6
    clear h hy
    go_enter Tryz.func33, Tryz.ntmps33
    go_wp2
    go_ret
    exact HP.out
  · have HP : Hid (OfPost (.bool (!true)) base p (oO p pa pl va vl vw) (finO S) w (.returned (.bool false)) w) := Lib.hid (by
      refine ⟨rfl, _, ⟨pa, pl, va, vl, vw, la, ll, rfl, ?_, ⟨hy.ga, hy.gl, hy.ya, hy.yl⟩⟩, Kept.refl _ _, fun j hj => .inl hj⟩
      have e : finO S = S := by
        obtain ⟨bs, ak, ag, gn, ov, en, ea, el⟩ := S
        simp only at hov
        subst hov
        rfl
      rw [e]
      exact h)
    rw [hov] at h5
    clear h hy
    go_enter Tryz.func33, Tryz.ntmps33
    go_wp2
    go_ret
    exact HP.out
theorem owhole_any (h : Of w base p O S) (hok : S.ok) : Calls Tryz.prog 40 #[.pointer (some ⟨p, 0, none⟩)] w fun e w' => e = .returned (.bool (wholeO S)) ∧ w' = w := by
  obtain ⟨pa, pl, va, vl, vw, la, ll, _, h, _⟩ := h
  have hb := baseO_le S
  have hr := hok.rm
  have hl : (S.bs.drop (baseO S)).length = S.bs.length - baseO S := List.length_drop
  obtain ⟨A, c, rfl, _, _, _⟩ := h.own.open_n _ hl
  have h1 := h.c1
  have h8 := h.c8
  have hov : S.ea = true → S.ov = true := fun e => (hok.eo (hok.ee e)).1
  clear h hl
  unfold wholeO
  obtain ⟨m, hm⟩ : ∃ m, m = S.bs.length - baseO S := ⟨_, rfl⟩
  rw [← hm] at h1
  have hm2 : m ≤ 2048 := by omega
  have hd : decide (baseO S = S.bs.length) = decide (m = 0) := by rw [decide_eq_decide]; omega
  rw [hd]
  clear hm hb hr hd
  cases hea : S.ea
  · rw [hea] at h8
    go_enter Tryz.func40, Tryz.ntmps40
    go_wp2
    go_ret
    exact ⟨by simp, rfl⟩
  · rw [hea] at h8
    rw [hov hea]
    rcases Nat.eq_zero_or_pos m with h0 | h0
    · subst h0
      go_enter Tryz.func40, Tryz.ntmps40
      go_wp2
      go_ret
      exact ⟨by simp, rfl⟩
    · have hmz : ¬ (m : Int) = 0 := by omega
      have hmn : ¬ m = 0 := by omega
      go_enter Tryz.func40, Tryz.ntmps40
      go_wp2
      go_ret
      exact ⟨by simp [hmn], rfl⟩
end
end
section
set_option linter.unusedVariables false
set_option linter.unusedSimpArgs false
open Go.RowKit
theorem below_drewN {B : Nat} {w w' : World} (h : Below B w w') (n : Nat) : Below B w (w'.drewN n) := h.trans ⟨rfl, rfl, rfl, Nat.le_refl _, fun _ _ => rfl⟩
def tLo (gn off : Nat) : Nat := min off gn
def tHi (gn off : Nat) (n : Int) : Nat := tLo gn off + min n.toNat (gn - tLo gn off)
theorem tHi_le (gn off : Nat) (n : Int) : tLo gn off ≤ tHi gn off n ∧ tHi gn off n ≤ gn := by unfold tHi tLo; omega
set_option maxHeartbeats 1000000 in
set_option maxRecDepth 100000 in
theorem told_any {w : World} {p : Nat} (gn off : Nat) (n : Int) (hlt : p < w.heap.size) (h2 : w.cell? ⟨p, 2, none⟩ = some (.int .u64 gn)) (hg : gn ≤ 1099511627776) (ho : off < 18446744073709551616) (hn : -9223372036854775808 ≤ n ∧ n < 9223372036854775808) :
    Calls Tryz.prog 51 #[.pointer (some ⟨p, 0, none⟩), .int .u64 off, .int .i64 n] w fun e w' => e = .returned (.agg #[.int .u64 (tLo gn off), .int .u64 (tHi gn off n)]) ∧ Below w.heap.size w w' := by
  have hB0 : Below w.heap.size w (w.alloc (.cells #[.int .u64 0, .int .u64 0] 89)) := (Below.refl _ w).alloc (Nat.le_refl _) _
  have hA1 : At (w.alloc (.cells #[.int .u64 0, .int .u64 0] 89)) w.heap.size 89 [.int .u64 0, .int .u64 0] := At.new w _ _
  have h2' : (w.alloc (.cells #[.int .u64 0, .int .u64 0] 89)).cell? ⟨p, 2, none⟩ = some (.int .u64 gn) := (hB0.cell (p := ⟨p, 2, none⟩) hlt).trans h2
  have d0 := hA1.cell 0
  have d1 := hA1.cell 1
  have f0 := hA1.frozen 0
  have f1 := hA1.frozen 1
  simp only [List.getElem?_cons_zero, List.getElem?_cons_succ] at d0 d1
  have HA := Lib.hid hA1
  have HB := Lib.hid hB0
  clear hB0 hA1
  unfold tHi tLo
  obtain ⟨lo, hlo⟩ : ∃ lo, lo = min off gn := ⟨_, rfl⟩
  obtain ⟨M, hM⟩ : ∃ M, M = n.toNat := ⟨_, rfl⟩
  obtain ⟨D, hD⟩ : ∃ D, D = gn - lo := ⟨_, rfl⟩
  obtain ⟨k, hk⟩ : ∃ k, k = min M D := ⟨_, rfl⟩
  obtain ⟨hi, hhi⟩ : ∃ hi, hi = lo + k := ⟨_, rfl⟩
  rw [← hlo, ← hM, ← hD, ← hk, ← hhi]
  have e1 : (if (gn : Int) < (off : Int) then (gn : Int) else (off : Int)) = (lo : Int) := by split <;> omega
  have e2 : (if n < 0 then 0 else n) = (M : Int) := by split <;> omega
  have e3 : (gn : Int) - (lo : Int) = (D : Int) := by omega
  have e4 : (if (D : Int) < (M : Int) then (D : Int) else (M : Int)) = (k : Int) := by split <;> omega
  have e5 : (lo : Int) + (k : Int) = (hi : Int) := by omega
  have b1 : lo ≤ 1099511627776 := by omega
  have b2 : D ≤ 1099511627776 := by omega
  have b3 : hi ≤ 1099511627776 := by omega
  have b4 : M < 9223372036854775808 := by omega
  have b5 : k ≤ 1099511627776 := by omega
  have w1' : IntKind.u64.wrap (M : Int) = (M : Int) := by rw [IntKind.wrap_u64]; omega
  have w2' : IntKind.u64.wrap (D : Int) = (D : Int) := by rw [IntKind.wrap_u64]; omega
  have w3' : IntKind.u64.wrap (hi : Int) = (hi : Int) := by rw [IntKind.wrap_u64]; omega
  have HM := Lib.hid (And.intro hlo (And.intro hM (And.intro hD (And.intro hk hhi))))
  have HQ : Hid (∀ x y : Int, x = lo → y = hi → (Ending.returned (.agg #[.int .u64 x, .int .u64 y]) = .returned (.agg #[.int .u64 lo, .int .u64 hi]) ∧ Below w.heap.size w (w.alloc (.cells #[.int .u64 x, .int .u64 y] 89)))) := Lib.hid (fun x y hx hy => by subst hx; subst hy; exact ⟨rfl, (Below.refl _ w).alloc (Nat.le_refl _) _⟩)
  clear hlo hM hD hk hhi h2 hlt
  go_enter Tryz.func51, Tryz.ntmps51
  go_wp2
  all_goals refine bodyPost_ret (results_cell 6 89 (by rfl) _ 89 _ _ (by rfl) (At.new w _ [_, _]) Tryz.underlying89 rfl (by kernel_rfl)) rfl ?_
  all_goals exact HQ.out _ _ (by have := HM.out; omega) (by have := HM.out; omega)
/-- What is to be sent next. -/
def ahO (S : OS) (ll : RL) (limit : Nat) : (Int × Int) × Bool :=
  match ll with
  | r :: _ => (r, true)
  | [] => if S.gn < min limit S.bs.length then ((S.gn, (min limit S.bs.length : Nat)), true) else if endO S && decide (S.gn = S.bs.length) then ((S.bs.length, S.bs.length), true) else ((0, 0), false)
def ahV (a : (Int × Int) × Bool) : Array Value := #[.agg #[.int .u64 a.1.1, .int .u64 a.1.2], .bool a.2]
set_option maxHeartbeats 4000000 in
set_option maxRecDepth 100000 in
theorem ahead_at {w : World} {base p pa pl : Nat} {va vl vw : Value} {la ll : RL} {S : OS} (h : Om w base p pa pl va vl vw la ll (S.bs.drop (baseO S)) (baseO S) S.gn S.ov (endO S) S.en S.ea) (hy : Sa S la ll) (hn : ll.length ≤ 2000000) (hL : S.bs.length ≤ 1099511627776) (limit : Nat) (hl : limit < 18446744073709551616) :
    Calls Tryz.prog 71 #[.pointer (some ⟨p, 0, none⟩), .int .u64 limit] w fun e w' => e = .returned (.tuple (ahV (ahO S ll limit))) ∧ Below w.heap.size w w' := by
  have hB0 : Below w.heap.size w (w.alloc (.cells #[.int .u64 0, .int .u64 0] 89)) := (Below.refl _ w).alloc (Nat.le_refl _) _
  have hA1 : At (w.alloc (.cells #[.int .u64 0, .int .u64 0] 89)) w.heap.size 89 [.int .u64 0, .int .u64 0] := At.new w _ _
  have h1 := h.below hB0
  have hOf : Of (w.alloc (.cells #[.int .u64 0, .int .u64 0] 89)) base p _ S := ⟨pa, pl, va, vl, vw, la, ll, rfl, h1, hy⟩
  have HLEN := Lib.hid (olen_any hOf hL)
  have HSZ : Hid (w.heap.size < (w.alloc (.cells #[.int .u64 0, .int .u64 0] 89)).heap.size) := Lib.hid (by simp)
  have HCNT := Lib.hid (len_any' base pl 2048 vl ll _ h1.sl)
  have HALL := Lib.hid (all_any' base pl 2048 vl ll _ h1.sl hn)
  have h4 := h1.c4
  have HA := Lib.hid hA1
  have HB := Lib.hid hB0
  have HOM := Lib.hid h1
  have hg : S.gn ≤ 1099511627776 ∨ True := .inr trivial
  cases hll : ll with
  | cons r t =>
    have hlz : (0 : Int) < ((r :: t).length : Nat) := by simp
    rw [hll] at HCNT HALL
    obtain ⟨L, hLL⟩ : ∃ L, (r :: t).length = L := ⟨_, rfl⟩
    have hcl : ∀ (w2 : World) (v' : Value) (b : Nat), OwnL w2 b v' (r :: t) → ∃ g c, v' = .slice (some ⟨g, 0, none⟩) L c ∧ w2.cell? ⟨g, 0, none⟩ = some (.int .u64 r.1) ∧ w2.cell? ⟨g, 1, none⟩ = some (.int .u64 r.2) := fun w2 v' b ho => by
      obtain ⟨g, c, e, _, _, h5, h6⟩ := ho.cell (i := 0) rfl
      rw [hLL] at e
      exact ⟨g, c, e, h5, h6⟩
    have HCL := Lib.hid hcl
    rw [hLL] at hlz HCNT
    have h0L : 0 < L := by omega
    clear h h1 hy hOf HLEN hA1 hB0 hcl hLL hg
    unfold ahO
    obtain ⟨ra, rb⟩ := r
    simp only at HCL ⊢
    go_enter Tryz.func71, Tryz.ntmps71
    go_wp2_with (first
      | (go_at_call 83; (with_reducible refine HCNT.out.mono ?_); rintro e w2 ⟨rfl, hw2⟩; rw [hw2]; clear hw2)
      | (go_at_call 84; (with_reducible refine HALL.out.mono ?_); rintro e w2 ⟨v', rfl, ho, hB2⟩; obtain ⟨g2, c2, rfl, e0, e1⟩ := HCL.out w2 v' _ ho; have hA2 := HA.out.below hB2 HSZ.out; have d0 := hA2.cell 0; have d1 := hA2.cell 1; have f0 := hA2.frozen 0; have f1 := hA2.frozen 1; simp only [List.getElem?_cons_zero, List.getElem?_cons_succ] at d0 d1; have HA2 := Lib.hid hA2; have HB2 := Lib.hid (HB.out.trans (hB2.mono HB.out.size)); clear ho hA2 hB2))
    refine bodyPost_ret (results_cell_tmp 4 5 89 (by rfl) _ 89 _ _ _ (by rfl) (by rfl) (at_two HA2.out _ _) Tryz.underlying89 rfl (by kernel_rfl)) rfl ?_
    exact ⟨rfl, (HB2.out.setCell (Nat.le_refl _) _).setCell (Nat.le_refl _) _⟩
  | nil =>
    rw [hll] at HCNT
    have HX : Hid (∀ w2 d, w2 = (w.alloc (.cells #[.int .u64 0, .int .u64 0] 89)).drewN d → w2.cell? ⟨p, 2, none⟩ = some (.int .u64 S.gn) ∧ w2.cell? ⟨p, 6, none⟩ = some (.bool (endO S)) ∧ At w2 w.heap.size 89 [.int .u64 0, .int .u64 0] ∧ Below w.heap.size w w2) := Lib.hid (fun w2 d e => by
      subst e
      exact ⟨(HOM.out.drewN d).c2, (HOM.out.drewN d).c6, HA.out.drewN d, below_drewN HB.out d⟩)
    have hlz : ¬ (0 : Int) < (([] : RL).length : Nat) := by simp
    have hAH : ahO S [] limit = if S.gn < min limit S.bs.length then (((S.gn : Int), ((min limit S.bs.length : Nat) : Int)), true) else if endO S && decide (S.gn = S.bs.length) then (((S.bs.length : Int), (S.bs.length : Int)), true) else ((0, 0), false) := rfl
    rw [hAH]
    clear h h1 hy hOf hA1 hB0 hAH HALL HOM hg
    generalize S.bs.length = len at *
    generalize S.gn = gn at *
    generalize endO S = du at *
    rcases Nat.lt_or_ge len limit with hc | hc
    · rw [Nat.min_eq_right (Nat.le_of_lt hc)]
      have hcz : (len : Int) < (limit : Int) := by omega
      by_cases hs : gn < len
      · rw [if_pos hs]
        have hsz : (gn : Int) < (len : Int) := by omega
        go_enter Tryz.func71, Tryz.ntmps71
        go_wp2_with (first
          | (go_at_call 83; (with_reducible refine HCNT.out.mono ?_); rintro e w2 ⟨rfl, hw2⟩; rw [hw2]; clear hw2)
          | (go_at_call 62; (with_reducible refine HLEN.out.mono ?_); rintro e w2 ⟨rfl, d, hw2⟩; obtain ⟨c2, c6, hA2, hB2⟩ := HX.out w2 d hw2; clear hw2; have d0 := hA2.cell 0; have d1 := hA2.cell 1; have f0 := hA2.frozen 0; have f1 := hA2.frozen 1; simp only [List.getElem?_cons_zero, List.getElem?_cons_succ] at d0 d1; have HA2 := Lib.hid hA2; have HB2 := Lib.hid hB2; clear hA2 hB2))
        refine bodyPost_ret (results_cell_tmp 4 5 89 (by rfl) _ 89 _ _ _ (by rfl) (by rfl) (at_two HA2.out _ _) Tryz.underlying89 rfl (by kernel_rfl)) rfl ?_
        exact ⟨rfl, (HB2.out.setCell (Nat.le_refl _) _).setCell (Nat.le_refl _) _⟩
      · rw [if_neg hs]
        have hsz : ¬ (gn : Int) < (len : Int) := by omega
        cases du
        · simp only [Bool.false_and, Bool.false_eq_true, if_false]
          go_enter Tryz.func71, Tryz.ntmps71
          go_wp2_with (first
            | (go_at_call 83; (with_reducible refine HCNT.out.mono ?_); rintro e w2 ⟨rfl, hw2⟩; rw [hw2]; clear hw2)
            | (go_at_call 62; (with_reducible refine HLEN.out.mono ?_); rintro e w2 ⟨rfl, d, hw2⟩; obtain ⟨c2, c6, hA2, hB2⟩ := HX.out w2 d hw2; clear hw2; have d0 := hA2.cell 0; have d1 := hA2.cell 1; have f0 := hA2.frozen 0; have f1 := hA2.frozen 1; simp only [List.getElem?_cons_zero, List.getElem?_cons_succ] at d0 d1; have HA2 := Lib.hid hA2; have HB2 := Lib.hid hB2; clear hA2 hB2))
          refine bodyPost_ret (results_cell_tmp 4 5 89 (by rfl) _ 89 _ _ _ (by rfl) (by rfl) (at_two HA2.out _ _) Tryz.underlying89 rfl (by kernel_rfl)) rfl ?_
          exact ⟨rfl, (HB2.out.setCell (Nat.le_refl _) _).setCell (Nat.le_refl _) _⟩
        · by_cases he : gn = len
          · subst he
            simp only [decide_true, Bool.and_self, if_true]
            go_enter Tryz.func71, Tryz.ntmps71
            go_wp2_with (first
              | (go_at_call 83; (with_reducible refine HCNT.out.mono ?_); rintro e w2 ⟨rfl, hw2⟩; rw [hw2]; clear hw2)
              | (go_at_call 62; (with_reducible refine HLEN.out.mono ?_); rintro e w2 ⟨rfl, d, hw2⟩; obtain ⟨c2, c6, hA2, hB2⟩ := HX.out w2 d hw2; clear hw2; have d0 := hA2.cell 0; have d1 := hA2.cell 1; have f0 := hA2.frozen 0; have f1 := hA2.frozen 1; simp only [List.getElem?_cons_zero, List.getElem?_cons_succ] at d0 d1; have HA2 := Lib.hid hA2; have HB2 := Lib.hid hB2; clear hA2 hB2))
            refine bodyPost_ret (results_cell_tmp 4 5 89 (by rfl) _ 89 _ _ _ (by rfl) (by rfl) (at_two HA2.out _ _) Tryz.underlying89 rfl (by kernel_rfl)) rfl ?_
            exact ⟨rfl, (HB2.out.setCell (Nat.le_refl _) _).setCell (Nat.le_refl _) _⟩
          · have hez : ¬ (gn : Int) = (len : Int) := by omega
            simp only [he, decide_false, Bool.and_false, Bool.false_eq_true, if_false]
            go_enter Tryz.func71, Tryz.ntmps71
            go_wp2_with (first
              | (go_at_call 83; (with_reducible refine HCNT.out.mono ?_); rintro e w2 ⟨rfl, hw2⟩; rw [hw2]; clear hw2)
              | (go_at_call 62; (with_reducible refine HLEN.out.mono ?_); rintro e w2 ⟨rfl, d, hw2⟩; obtain ⟨c2, c6, hA2, hB2⟩ := HX.out w2 d hw2; clear hw2; have d0 := hA2.cell 0; have d1 := hA2.cell 1; have f0 := hA2.frozen 0; have f1 := hA2.frozen 1; simp only [List.getElem?_cons_zero, List.getElem?_cons_succ] at d0 d1; have HA2 := Lib.hid hA2; have HB2 := Lib.hid hB2; clear hA2 hB2))
            refine bodyPost_ret (results_cell_tmp 4 5 89 (by rfl) _ 89 _ _ _ (by rfl) (by rfl) (at_two HA2.out _ _) Tryz.underlying89 rfl (by kernel_rfl)) rfl ?_
            exact ⟨rfl, (HB2.out.setCell (Nat.le_refl _) _).setCell (Nat.le_refl _) _⟩
    · rw [Nat.min_eq_left hc]
      have hcz : ¬ (len : Int) < (limit : Int) := by omega
      by_cases hs : gn < limit
      · rw [if_pos hs]
        have hsz : (gn : Int) < (limit : Int) := by omega
        go_enter Tryz.func71, Tryz.ntmps71
        go_wp2_with (first
          | (go_at_call 83; (with_reducible refine HCNT.out.mono ?_); rintro e w2 ⟨rfl, hw2⟩; rw [hw2]; clear hw2)
          | (go_at_call 62; (with_reducible refine HLEN.out.mono ?_); rintro e w2 ⟨rfl, d, hw2⟩; obtain ⟨c2, c6, hA2, hB2⟩ := HX.out w2 d hw2; clear hw2; have d0 := hA2.cell 0; have d1 := hA2.cell 1; have f0 := hA2.frozen 0; have f1 := hA2.frozen 1; simp only [List.getElem?_cons_zero, List.getElem?_cons_succ] at d0 d1; have HA2 := Lib.hid hA2; have HB2 := Lib.hid hB2; clear hA2 hB2))
        refine bodyPost_ret (results_cell_tmp 4 5 89 (by rfl) _ 89 _ _ _ (by rfl) (by rfl) (at_two HA2.out _ _) Tryz.underlying89 rfl (by kernel_rfl)) rfl ?_
        exact ⟨rfl, (HB2.out.setCell (Nat.le_refl _) _).setCell (Nat.le_refl _) _⟩
      · rw [if_neg hs]
        have hsz : ¬ (gn : Int) < (limit : Int) := by omega
        cases du
        · simp only [Bool.false_and, Bool.false_eq_true, if_false]
          go_enter Tryz.func71, Tryz.ntmps71
          go_wp2_with (first
            | (go_at_call 83; (with_reducible refine HCNT.out.mono ?_); rintro e w2 ⟨rfl, hw2⟩; rw [hw2]; clear hw2)
            | (go_at_call 62; (with_reducible refine HLEN.out.mono ?_); rintro e w2 ⟨rfl, d, hw2⟩; obtain ⟨c2, c6, hA2, hB2⟩ := HX.out w2 d hw2; clear hw2; have d0 := hA2.cell 0; have d1 := hA2.cell 1; have f0 := hA2.frozen 0; have f1 := hA2.frozen 1; simp only [List.getElem?_cons_zero, List.getElem?_cons_succ] at d0 d1; have HA2 := Lib.hid hA2; have HB2 := Lib.hid hB2; clear hA2 hB2))
          refine bodyPost_ret (results_cell_tmp 4 5 89 (by rfl) _ 89 _ _ _ (by rfl) (by rfl) (at_two HA2.out _ _) Tryz.underlying89 rfl (by kernel_rfl)) rfl ?_
          exact ⟨rfl, (HB2.out.setCell (Nat.le_refl _) _).setCell (Nat.le_refl _) _⟩
        · by_cases he : gn = len
          · subst he
            simp only [decide_true, Bool.and_self, if_true]
            go_enter Tryz.func71, Tryz.ntmps71
            go_wp2_with (first
              | (go_at_call 83; (with_reducible refine HCNT.out.mono ?_); rintro e w2 ⟨rfl, hw2⟩; rw [hw2]; clear hw2)
              | (go_at_call 62; (with_reducible refine HLEN.out.mono ?_); rintro e w2 ⟨rfl, d, hw2⟩; obtain ⟨c2, c6, hA2, hB2⟩ := HX.out w2 d hw2; clear hw2; have d0 := hA2.cell 0; have d1 := hA2.cell 1; have f0 := hA2.frozen 0; have f1 := hA2.frozen 1; simp only [List.getElem?_cons_zero, List.getElem?_cons_succ] at d0 d1; have HA2 := Lib.hid hA2; have HB2 := Lib.hid hB2; clear hA2 hB2))
            refine bodyPost_ret (results_cell_tmp 4 5 89 (by rfl) _ 89 _ _ _ (by rfl) (by rfl) (at_two HA2.out _ _) Tryz.underlying89 rfl (by kernel_rfl)) rfl ?_
            exact ⟨rfl, (HB2.out.setCell (Nat.le_refl _) _).setCell (Nat.le_refl _) _⟩
          · have hez : ¬ (gn : Int) = (len : Int) := by omega
            simp only [he, decide_false, Bool.and_false, Bool.false_eq_true, if_false]
            go_enter Tryz.func71, Tryz.ntmps71
            go_wp2_with (first
              | (go_at_call 83; (with_reducible refine HCNT.out.mono ?_); rintro e w2 ⟨rfl, hw2⟩; rw [hw2]; clear hw2)
              | (go_at_call 62; (with_reducible refine HLEN.out.mono ?_); rintro e w2 ⟨rfl, d, hw2⟩; obtain ⟨c2, c6, hA2, hB2⟩ := HX.out w2 d hw2; clear hw2; have d0 := hA2.cell 0; have d1 := hA2.cell 1; have f0 := hA2.frozen 0; have f1 := hA2.frozen 1; simp only [List.getElem?_cons_zero, List.getElem?_cons_succ] at d0 d1; have HA2 := Lib.hid hA2; have HB2 := Lib.hid hB2; clear hA2 hB2))
            refine bodyPost_ret (results_cell_tmp 4 5 89 (by rfl) _ 89 _ _ _ (by rfl) (by rfl) (at_two HA2.out _ _) Tryz.underlying89 rfl (by kernel_rfl)) rfl ?_
            exact ⟨rfl, (HB2.out.setCell (Nat.le_refl _) _).setCell (Nat.le_refl _) _⟩
end
end Go.Proofs.YtbejpafephofaaaGreat
